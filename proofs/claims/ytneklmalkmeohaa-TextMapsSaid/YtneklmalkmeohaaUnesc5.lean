/- Unescape: both sides answer the same. -/
import Derived.Test.YtneklmalkmeohaaUnesc4
namespace Go.Proofs.Ytneklmalkmeohaa
open Go.RowKit Go.Lib

theorem tw_all (p : UInt8 → Bool) : ∀ (l : List UInt8) (j : Nat) (h : j < l.length), j < (l.takeWhile p).length → p l[j] = true
  | [], _, h, _ => by simp at h
  | c :: l, j, h, hj => by
    by_cases hc : p c = true
    · rw [List.takeWhile_cons_of_pos hc, List.length_cons] at hj
      cases j with
      | zero => simpa using hc
      | succ j => simpa using tw_all p l j (by simpa using h) (by omega)
    · rw [List.takeWhile_cons_of_neg hc] at hj
      simp at hj
theorem tw_end (p : UInt8 → Bool) : ∀ (l : List UInt8) (h : (l.takeWhile p).length < l.length), p l[(l.takeWhile p).length] = false
  | [], h => by simp at h
  | c :: l, h => by
    by_cases hc : p c = true
    · have e : ((c :: l).takeWhile p).length = (l.takeWhile p).length + 1 := by rw [List.takeWhile_cons_of_pos hc, List.length_cons]
      have h' : (l.takeWhile p).length < l.length := by rw [e] at h; simpa using h
      rw [show (c :: l)[((c :: l).takeWhile p).length] = (c :: l)[(l.takeWhile p).length + 1]'(by simpa using h') from getElem_congr rfl e _]
      simpa using tw_end p l h'
    · have e : ((c :: l).takeWhile p).length = 0 := by rw [List.takeWhile_cons_of_neg hc]; rfl
      rw [show (c :: l)[((c :: l).takeWhile p).length] = (c :: l)[0] from getElem_congr rfl e _]
      simpa using hc
theorem tw_len (p : UInt8 → Bool) (l : List UInt8) : (l.takeWhile p).length ≤ l.length := (List.takeWhile_sublist p).length_le

theorem dig_facts (b m : Nat) (t : List UInt8) : digsOf b (t.take m) ≤ m ∧ digsOf b (t.take m) ≤ t.length ∧ (∀ j (h : j < t.length), j < digsOf b (t.take m) → digOf t[j] < b) ∧ (∀ h : digsOf b (t.take m) < t.length, digsOf b (t.take m) < m → ¬ digOf t[digsOf b (t.take m)] < b) := by
  have h1 := tw_len (fun c => decide (digOf c < b)) (t.take m)
  have h2 : (t.take m).length = min m t.length := List.length_take
  refine ⟨by unfold digsOf; omega, by unfold digsOf; omega, fun j h hj => ?_, fun h hm => ?_⟩
  · have := tw_all (fun c => decide (digOf c < b)) (t.take m) j (by unfold digsOf at hj; omega) hj
    rw [List.getElem_take] at this
    simpa using this
  · have := tw_end (fun c => decide (digOf c < b)) (t.take m) (by unfold digsOf at h hm; omega)
    rw [List.getElem_take] at this
    exact of_decide_eq_false this

theorem oct_digit (c : UInt8) : digOf c < 8 ↔ 48 ≤ c.toNat ∧ c.toNat ≤ 55 := by
  have h : ∀ n : Fin 256, digOf (UInt8.ofNat n.1) < 8 ↔ 48 ≤ n.1 ∧ n.1 ≤ 55 := by decide +kernel
  have hc := c.toNat_lt
  have hv := h ⟨c.toNat, hc⟩
  rwa [show UInt8.ofNat c.toNat = c by simp] at hv

theorem arr_back (X : ByteArray) : (⟨X.data.toList.toArray⟩ : ByteArray) = X := by
  apply ByteArray.ext
  simp

/-- The ways of Unescape. -/
theorem unesc_ways (s : ByteArray) (hs4 : s.size ≤ 400) {Q : Prop}
    (none : s.toList.isEmpty = true → Q)
    (plain : ∀ c0, s.toList.isEmpty = false → ∀ hp : (0 : Int) < (s.size : Int), s[0]'(by omega) = c0 → ¬ (c0.toNat : Int) = 92 → Hid (unescVal s = .tuple #[.string ⟨#[]⟩, .int .i64 0]) → Q)
    (one : ∀ c0, s.toList.isEmpty = false → ∀ hp : (0 : Int) < (s.size : Int), s[0]'(by omega) = c0 → (c0.toNat : Int) = 92 → (s.toList == [92]) = true → (s.size : Int) = 1 → Hid (unescVal s = .tuple #[.string ⟨#[92]⟩, .int .i64 1]) → Hid (unescVal s = .tuple #[.string s, .int .i64 1]) → Q)
    (more : ∀ c0 c1 t, s.data.toList = c0 :: c1 :: t → s.toList.isEmpty = false → ∀ (hp : (0 : Int) < (s.size : Int)) (hp1 : (1 : Int) < (s.size : Int)), s[0]'(by omega) = c0 → s[1]'(by omega) = c1 → (c0.toNat : Int) = 92 → (s.toList == [92]) = false → (s.extract 1 2).data.toList = [c1] → (s.extract 1 2).size ≤ 400 → Q) : Q := by
  have hlen : s.data.toList.length = s.size := (Lib.size_eq s).symm
  cases hl : s.data.toList with
  | nil => exact none ((empty_iff s).2 hl)
  | cons c0 r =>
    have hE : s.toList.isEmpty = false := by
      rw [toList_data, hl]
      rfl
    have hp : 0 < s.size := by rw [← hlen, hl]; simp
    have h0 : s[0] = c0 := by
      show s.data.toList[0]'(by omega) = c0
      simp [hl]
    by_cases hc : c0.toNat = 92
    · cases r with
      | nil =>
        have e : c0 = 92 := UInt8.toNat_inj.1 hc
        subst e
        refine one 92 hE (by omega) h0 rfl (by rw [toList_data, hl]; rfl) (by rw [← hlen, hl]; rfl) (Lib.hid (by unfold unescVal; rw [hl]; rfl)) (Lib.hid ?_)
        have e2 : s = ⟨#[92]⟩ := by
          apply ByteArray.ext
          apply Array.toList_inj.1
          exact hl
        unfold unescVal
        rw [hl, e2]
        rfl
      | cons c1 t =>
        have hp1 : 1 < s.size := by rw [← hlen, hl]; simp
        have hN : (s.extract 1 2).data.toList = [c1] := by rw [Lib.extract_data, hl]; rfl
        refine more c0 c1 t hl hE (by omega) (by omega) h0 ?_ (by omega) ?_ hN ?_
        · show s.data.toList[1]'(by omega) = c1
          simp [hl]
        · rw [toList_data, hl]
          simp
        · rw [Lib.size_eq, hN]; simp
    · exact plain c0 hE (by omega) h0 (by omega) (Lib.hid (by unfold unescVal unescList; rw [hl]; simp [hc]))

section
variable {s : ByteArray} {c0 c1 : UInt8} {t : List UInt8} (hs : s.data.toList = c0 :: c1 :: t) (hc : (c0.toNat : Int) = 92)
include hs hc
theorem ul_letter {k : Nat} (hl : letterOf c1 = k) : unescVal s = .tuple #[.string (meant.extract k (k + 1)), .int .i64 2] := by
  unfold unescVal unescList
  rw [hs]
  simp only [if_pos (show c0.toNat = 92 by omega), hl, if_pos (show (0 : Int) ≤ (k : Int) by omega), Int.toNat_natCast, arr_back]
  rfl
variable (hl : letterOf c1 = -1)
include hl
theorem ul_x0 (hx : (c1.toNat : Int) = 120) (hk : digsOf 16 (t.take 2) = 0) : unescVal s = .tuple #[.string (s.extract 1 2), .int .i64 2] := by
  have e : (s.extract 1 2) = ⟨[c1].toArray⟩ := by
    apply ByteArray.ext
    apply Array.toList_inj.1
    rw [Lib.extract_data, hs]
    rfl
  unfold unescVal unescList
  rw [hs, e]
  simp only [if_pos (show c0.toNat = 92 by omega), hl, if_neg (show ¬ (0 : Int) ≤ -1 by omega), if_pos (show c1.toNat = 120 by omega), hk, if_neg (show ¬ 0 < 0 by omega)]
  rfl
theorem ul_hex (hx : (c1.toNat : Int) = 120) {k : Nat} (hk : digsOf 16 (t.take 2) = k) (hk0 : 0 < k) : unescVal s = .tuple #[.string ⟨#[(natOf 16 (t.take k)).toUInt8]⟩, .int .i64 ((k : Int) + 2)] := by
  unfold unescVal unescList
  rw [hs]
  simp only [if_pos (show c0.toNat = 92 by omega), hl, if_neg (show ¬ (0 : Int) ≤ -1 by omega), if_pos (show c1.toNat = 120 by omega), hk, if_pos hk0]
  rfl
variable (hx : ¬ (c1.toNat : Int) = 120)
include hx
omit hx in
theorem ul_oct (h1 : 48 ≤ c1.toNat) (h2 : c1.toNat ≤ 55) {k : Nat} (hk : digsOf 8 ((c1 :: t).take 3) = k) : unescVal s = .tuple #[.string ⟨#[(natOf 8 ((c1 :: t).take k)).toUInt8]⟩, .int .i64 ((k : Int) + 1)] := by
  unfold unescVal unescList
  rw [hs]
  simp only [if_pos (show c0.toNat = 92 by omega), hl, if_neg (show ¬ (0 : Int) ≤ -1 by omega), if_neg (show ¬ c1.toNat = 120 by omega), if_pos (And.intro h1 h2), hk]
  rfl
variable (ho : ¬ (48 ≤ c1.toNat ∧ c1.toNat ≤ 55))
include ho
omit hx in
theorem ul_line (hn : (c1.toNat : Int) = 10) : unescVal s = .tuple #[.string ⟨#[32]⟩, .int .i64 ((t.takeWhile blank).length + 2 : Nat)] := by
  unfold unescVal unescList
  rw [hs]
  simp only [if_pos (show c0.toNat = 92 by omega), hl, if_neg (show ¬ (0 : Int) ≤ -1 by omega), if_neg (show ¬ c1.toNat = 120 by omega), if_neg ho, if_pos (show c1.toNat = 10 by omega)]
theorem ul_other (hn : ¬ (c1.toNat : Int) = 10) : unescVal s = .tuple #[.string (s.extract 1 2), .int .i64 2] := by
  have e : (s.extract 1 2) = ⟨[c1].toArray⟩ := by
    apply ByteArray.ext
    apply Array.toList_inj.1
    rw [Lib.extract_data, hs]
    rfl
  unfold unescVal unescList
  rw [hs, e]
  simp only [if_pos (show c0.toNat = 92 by omega), hl, if_neg (show ¬ (0 : Int) ≤ -1 by omega), if_neg (show ¬ c1.toNat = 120 by omega), if_neg ho, if_neg (show ¬ c1.toNat = 10 by omega)]
  rfl
end

theorem nil_below {f : Nat} {args : Array Value} {v : Value} {w : World} (h : Calls Try.prog f args w fun e w' => e = .returned v ∧ w = w') : Calls Try.prog f args w fun e w' => e = .returned v ∧ Below w.heap.size w w' :=
  h.mono fun _ _ ⟨he, hw⟩ => ⟨he, hw ▸ Below.refl _ _⟩

theorem unescape_any (s : ByteArray) (w : World) (hs4 : s.size ≤ 400) :
    Calls Try.prog 21 #[.string s] w fun e w' => e = .returned (unescVal s) ∧ Below w.heap.size w w' := by
  refine unesc_ways s hs4 (fun hE => nil_below (unesc_none s w hE)) (fun c0 hE hp h0 hc H => nil_below (unesc_plain s c0 w hE hp h0 hc H)) (fun c0 hE hp h0 hc hs _ H _ => nil_below (unesc_one s c0 w hE hp h0 hc hs H)) ?_
  intro c0 c1 t hl hE hp hp1 h0 h1 hc hs hN hN4
  have hlen : s.data.toList.length = s.size := (Lib.size_eq s).symm
  have hR : (s.extract 1 s.size).data.toList = c1 :: t := by rw [Lib.extract_to_end, hl]; rfl
  have hRs : (s.extract 1 s.size).size = t.length + 1 := by rw [Lib.size_eq, hR]; rfl
  have ht : t.length + 2 = s.size := by rw [← hlen, hl]; rfl
  obtain ⟨R, hRe⟩ : ∃ R, s.extract 1 s.size = R := ⟨_, rfl⟩
  rw [hRe] at hR hRs
  have hR0 : R[0]'(by omega) = c1 := by
    show R.data.toList[0]'(by rw [hR]; simp) = c1
    simp [hR]
  have hRp : (0 : Int) < (R.size : Int) := by omega
  rcases letter_cases c1 with hk | ⟨k, hk7, hk⟩
  · by_cases hx : (c1.toNat : Int) = 120
    · have hR2 : (R.extract 1 R.size).data.toList = t := by rw [Lib.extract_to_end, hR]; rfl
      obtain ⟨R2, hR2e⟩ : ∃ R2, R.extract 1 R.size = R2 := ⟨_, rfl⟩
      rw [hR2e] at hR2
      have hR24 : R2.size ≤ 400 := by rw [Lib.size_eq, hR2]; omega
      obtain ⟨f1, f2, _, _⟩ := dig_facts 16 2 t
      obtain ⟨k, hkk⟩ : ∃ k, digsOf 16 (t.take 2) = k := ⟨_, rfl⟩
      rw [hkk] at f1 f2
      rcases Nat.eq_zero_or_pos k with h0k | hpk
      · subst h0k
        exact nil_below (unesc_x s R R2 c0 c1 w hs4 hE hp hp1 h0 h1 hc hs hk hRe hRp hR0 hx hR2e hR24 (by rw [hR2]; exact hkk) (Lib.hid (ul_x0 hl hc hk hx hkk)))
      · have hD : (R.extract 1 (1 + k)).data.toList = t.take k := by
          rw [Lib.extract_data, hR, Nat.add_sub_cancel_left]
          rfl
        exact unesc_hex s R R2 _ c0 c1 k _ w hs4 hE hp hp1 h0 h1 hc hs hk hRe hRp hR0 hx hR2e hR24 (by rw [hR2]; exact hkk) (by omega) (by omega) (by omega) rfl (by rw [Lib.size_eq, hD, List.length_take]; omega) rfl (Lib.hid (by rw [hD]; exact ul_hex hl hc hk hx hkk hpk))
    · by_cases ho : 48 ≤ c1.toNat ∧ c1.toNat ≤ 55
      · obtain ⟨f1, f2, _, _⟩ := dig_facts 8 3 (c1 :: t)
        obtain ⟨k, hkk⟩ : ∃ k, digsOf 8 ((c1 :: t).take 3) = k := ⟨_, rfl⟩
        rw [hkk] at f1 f2
        rw [List.length_cons] at f2
        have hD : (R.extract 0 k).data.toList = (c1 :: t).take k := by
          rw [Lib.extract_data, hR]
          rfl
        exact unesc_oct s R _ c0 c1 k _ w hs4 hE hp hp1 h0 h1 hc hs hk hRe (by omega) hRp hR0 hx (by omega) (by omega) (by rw [hR]; exact hkk) (by omega) (by omega) rfl (by rw [Lib.size_eq, hD, List.length_take]; omega) rfl (Lib.hid (by rw [hD]; exact ul_oct hl hc hk ho.1 ho.2 hkk))
      · by_cases hn : (c1.toNat : Int) = 10
        · have hget : ∀ j (h : j + 1 < R.size), R[j + 1] = t[j]'(by omega) := fun j h => by
            show R.data.toList[j + 1]'(by rw [hR]; simp; omega) = _
            simp [hR]
          have hw := tw_len blank t
          refine nil_below (unesc_line s R c0 c1 (1 + (t.takeWhile blank).length) w hs4 hE hp hp1 h0 h1 hc hs hk hRe (by omega) hRp hR0 hn (by omega) (by omega) (fun j h hj1 hj => ?_) (fun h => ?_) (Lib.hid ?_))
          · obtain ⟨i, rfl⟩ : ∃ i, j = i + 1 := ⟨j - 1, by omega⟩
            rw [hget i h]
            exact tw_all blank t i _ (by omega)
          · rw [show R[1 + (t.takeWhile blank).length] = R[(t.takeWhile blank).length + 1]'(by omega) from getElem_congr rfl (by omega) _, hget _ (by omega)]
            exact tw_end blank t _
          · rw [ul_line hl hc hk ho hn, show (((t.takeWhile blank).length + 2 : Nat) : Int) = ((1 + (t.takeWhile blank).length : Nat) : Int) + 1 by omega]
        · refine nil_below (unesc_other s R c0 c1 w hs4 hE hp hp1 h0 h1 hc hs hk hRe hRp hR0 hx ?_ hn (Lib.hid (ul_other hl hc hk hx ho hn)))
          by_cases a : (48 : Int) ≤ (c1.toNat : Int) <;> by_cases b : (c1.toNat : Int) ≤ 55 <;> simp [a, b] <;> omega
  · exact nil_below (unesc_letter s c0 c1 k w hs4 hE hp hp1 h0 h1 hc hs hk7 hk (Lib.hid (ul_letter hl hc hk)))

theorem refUnescape_any (s : ByteArray) (w : World) (hs4 : s.size ≤ 400) :
    Calls Try.prog 22 #[.string s] w fun e w' => e = .returned (unescVal s) ∧ Below w.heap.size w w' := by
  refine unesc_ways s hs4 (fun hE => nil_below (refUnesc_none s w hE)) (fun c0 hE hp h0 hc H => nil_below (refUnesc_plain s c0 w hE hp h0 hc H)) (fun c0 hE hp h0 hc _ hs _ H => nil_below (refUnesc_one s c0 w hE hp h0 hc hs H)) ?_
  intro c0 c1 t hl hE hp hp1 h0 h1 hc hs hN hN4
  have hlen : s.data.toList.length = s.size := (Lib.size_eq s).symm
  have ht : t.length + 2 = s.size := by rw [← hlen, hl]; rfl
  have hget : ∀ j (h : j + 2 < s.size), s[j + 2] = t[j]'(by omega) := fun j h => by
    show s.data.toList[j + 2]'(by omega) = _
    simp [hl]
  have hget1 : ∀ j (h : j + 1 < s.size), s[j + 1] = (c1 :: t)[j]'(by simp; omega) := fun j h => by
    show s.data.toList[j + 1]'(by omega) = _
    simp [hl]
  rcases letter_cases c1 with hk | ⟨k, hk7, hk⟩
  · by_cases hx : (c1.toNat : Int) = 120
    · obtain ⟨f1, f2, f3, f4⟩ := dig_facts 16 2 t
      obtain ⟨k, hkk⟩ : ∃ k, digsOf 16 (t.take 2) = k := ⟨_, rfl⟩
      simp only [hkk] at f1 f2 f3 f4
      refine refUnesc_hex s _ c0 c1 k w hs4 hE hp hp1 h0 h1 hc rfl hN hN4 hk hx f1 (by omega) (fun j h hj1 hj => ?_) (fun h hk2 => ?_) (Lib.hid fun h => ?_) (Lib.hid fun h => ?_)
      · obtain ⟨i, rfl⟩ : ∃ i, j = i + 2 := ⟨j - 2, by omega⟩
        rw [hget i h]
        exact f3 i _ (by omega)
      · rw [show s[2 + k] = s[k + 2]'(by omega) from getElem_congr rfl (by omega) _, hget k (by omega)]
        exact f4 (by omega) hk2
      · subst h
        exact ul_x0 hl hc hk hx hkk
      · rw [hl]
        have := ul_hex hl hc hk hx hkk h
        rw [this]
        rfl
    · by_cases hn : (c1.toNat : Int) = 10
      · have hw := tw_len blank t
        have ho : ¬ (48 ≤ c1.toNat ∧ c1.toNat ≤ 55) := by omega
        refine nil_below (refUnesc_line s _ c0 c1 ((t.takeWhile blank).length + 2) w hs4 hE hp hp1 h0 h1 hc rfl hN hN4 hk hn (by omega) (by omega) (fun j h hj1 hj => ?_) (fun h => ?_) (Lib.hid (ul_line hl hc hk ho hn)))
        · obtain ⟨i, rfl⟩ : ∃ i, j = i + 2 := ⟨j - 2, by omega⟩
          rw [hget i h]
          exact tw_all blank t i _ (by omega)
        · rw [hget _ h]
          exact tw_end blank t _
      · obtain ⟨f1, f2, f3, f4⟩ := dig_facts 8 3 (c1 :: t)
        obtain ⟨k, hkk⟩ : ∃ k, digsOf 8 ((c1 :: t).take 3) = k := ⟨_, rfl⟩
        simp only [hkk] at f1 f2 f3 f4
        rw [List.length_cons] at f2
        have hk0 : k = 0 ↔ ¬ (48 ≤ c1.toNat ∧ c1.toNat ≤ 55) := by
          rw [← oct_digit]
          constructor
          · rintro rfl
            exact f4 (by simp) (by omega)
          · intro h
            rcases Nat.eq_zero_or_pos k with h0 | h0
            · exact h0
            · exact absurd (f3 0 (by simp) h0) h
        refine refUnesc_oct s _ (c1 :: t) (Lib.hid (by rw [hl]; rfl)) c0 c1 k w hs4 hE hp hp1 h0 h1 hc rfl hN hN4 hk hx hn f1 (by omega) (fun j h hj1 hj => ?_) (fun h hk2 => ?_) (Lib.hid fun h => ul_other hl hc hk hx (hk0.1 h) hn) (Lib.hid fun h => ?_)
        · obtain ⟨i, rfl⟩ : ∃ i, j = i + 1 := ⟨j - 1, by omega⟩
          rw [hget1 i h]
          exact f3 i _ (by omega)
        · rw [show s[1 + k] = s[k + 1]'(by omega) from getElem_congr rfl (by omega) _, hget1 k (by omega)]
          exact f4 (by simp; omega) hk2
        · have ho : 48 ≤ c1.toNat ∧ c1.toNat ≤ 55 := Classical.byContradiction fun h' => by have := hk0.2 h'; omega
          rw [ul_oct hl hc hk ho.1 ho.2 hkk]
          rfl
  · exact nil_below (refUnesc_letter s _ c0 c1 k w hs4 hE hp hp1 h0 hc rfl hN hN4 hk7 hk (Lib.hid (ul_letter hl hc hk)))
end Go.Proofs.Ytneklmalkmeohaa
