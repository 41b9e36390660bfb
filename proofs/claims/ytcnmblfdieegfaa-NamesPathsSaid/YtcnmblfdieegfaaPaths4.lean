/- Where the last separator stands; Head and Tail of both. -/
import Derived.Test.YtcnmblfdieegfaaPaths3
namespace Go.Proofs.Ytcnmblfdieegfaa
open Go.RowKit Go.Lib

def beforeS (s : ByteArray) : ByteArray := ⟨(beforeP s.data.toList).toArray⟩
def tailS (s : ByteArray) : ByteArray := ⟨(tailP s.data.toList).toArray⟩
def headS (s : ByteArray) : ByteArray := ⟨(headP s.data.toList).toArray⟩
theorem take_str (s : ByteArray) (i : Nat) : s.extract 0 i = ⟨(s.data.toList.take i).toArray⟩ := by
  apply ByteArray.ext
  apply Array.toList_inj.1
  rw [Lib.extract_data, List.drop_zero]
  simp
theorem drop_str (s : ByteArray) (i : Nat) : s.extract i s.size = ⟨(s.data.toList.drop i).toArray⟩ := by
  apply ByteArray.ext
  apply Array.toList_inj.1
  rw [Lib.extract_data, List.take_of_length_le (by rw [List.length_drop, Lib.size_eq]; exact Nat.le_refl _)]
theorem before_none {s : ByteArray} (h : sepAt s.data.toList = -1) : beforeS s = ⟨#[]⟩ := by
  rw [beforeS, beforeP, h]; rfl
theorem tail_none {s : ByteArray} (h : sepAt s.data.toList = -1) : tailS s = s := by
  rw [tailS, tailP, h]; rfl
theorem before_some {s : ByteArray} {i : Nat} (h : sepAt s.data.toList = i) : s.extract 0 i = beforeS s := by
  rw [beforeS, beforeP, h, if_neg (by omega), Int.toNat_natCast, take_str]
theorem tail_some {s : ByteArray} {i : Nat} (h : sepAt s.data.toList = i) : s.extract (i + 2) s.size = tailS s := by
  rw [tailS, tailP, h, if_neg (by omega), Int.toNat_natCast, drop_str]

set_option maxHeartbeats 800000 in
theorem cut_any (s : ByteArray) (w : World) (hs : s.size ≤ 3000) :
    Calls Try.prog 35 #[.string s] w fun e w' => e = .returned (.tuple #[.string (beforeS s), .string (tailS s)]) ∧ Below w.heap.size w w' := by
  have L := fun W => Try.strings_LastIndex s ⟨#[58, 58]⟩ (by omega) W
  have hL : Lib.lastIndex s.data.toList (⟨#[58, 58]⟩ : ByteArray).data.toList = sepAt s.data.toList := rfl
  rw [hL] at L
  clear hL
  rcases sep_spec s.data.toList with ⟨e, _⟩ | ⟨i, e, hi, _⟩
  · rw [e] at L
    rw [before_none e, tail_none e]
    clear e
    go_enter Try.func35, Try.ntmps35
    go_wp2_with fail
    refine (L _).mono ?_
    rintro e w' ⟨rfl, rfl⟩
    go_wp2
    refine bodyPost_ret (results_tmp2 rfl _ _ _) rfl ?_
    exact ⟨rfl, Below.refl _ _⟩
  · rw [e] at L
    have h2 : i + 2 ≤ s.size := by
      have h1 := (List.getElem?_eq_some_iff.1 hi.2).1
      rw [← Lib.size_eq] at h1
      omega
    have hA := before_some e
    have hB := tail_some e
    clear e hi
    have h3 : (0 : Int) ≤ (i : Int) := by omega
    have h4 : (i : Int) ≤ (s.size : Int) := by omega
    have h5 : (i : Int) + 2 ≤ (s.size : Int) := by omega
    obtain ⟨A, hA1⟩ : ∃ A, beforeS s = A := ⟨_, rfl⟩
    obtain ⟨B, hB1⟩ : ∃ B, tailS s = B := ⟨_, rfl⟩
    rw [hA1] at hA ⊢
    rw [hB1] at hB ⊢
    clear hA1 hB1
    have HA := Lib.hid hA
    have HB := Lib.hid hB
    clear hA hB
    go_enter Try.func35, Try.ntmps35
    go_wp2_with fail
    refine (L _).mono ?_
    rintro e w' ⟨rfl, rfl⟩
    go_wp2
    go_region
    all_goals go_wp2
    all_goals refine bodyPost_ret (results_tmp2 rfl _ _ _) rfl ?_
    all_goals exact ⟨by rw [← HA.out, ← HB.out]; rfl, ⟨rfl, rfl, rfl, Nat.le_refl _, fun _ _ => rfl⟩⟩

/-- What the reference knows of the separators before a place. -/
def SepUp (l : List UInt8) (i : Nat) (f t : Int) : Prop :=
  (f = -1 ∧ t = -1 ∧ ∀ j, j < i → ¬ colons l j) ∨ ∃ a b : Nat, f = a ∧ t = b ∧ a + 2 ≤ b ∧ b ≤ i ∧ (∀ k, a ≤ k → k < b → l[k]? = some 58) ∧ ∀ j, b ≤ j + 1 → j < i → ¬ colons l j
theorem up_run {l : List UInt8} {i n : Nat} (hR : ∀ k, i ≤ k → k < i + n → l[k]? = some 58) (hx : l[i + n]? ≠ some 58) (hn : 2 ≤ n) : SepUp l (i + n) i (i + n) := by
  refine .inr ⟨i, i + n, rfl, by push_cast; rfl, by omega, Nat.le_refl _, hR, fun j h1 h2 hc => ?_⟩
  have e : j + 1 = i + n := by omega
  have := hc.2
  rw [e] at this
  exact hx this
theorem up_one {l : List UInt8} {i n : Nat} {f t : Int} (h : SepUp l i f t) (hx : l[i + n]? ≠ some 58) (hn : n < 2) : SepUp l (i + 1) f t := by
  have hno : ¬ colons l i := fun hc => by
    rcases Nat.lt_or_ge n 1 with h1 | h1
    · have e : i + n = i := by omega
      rw [e] at hx
      exact hx hc.1
    · have e : i + n = i + 1 := by omega
      rw [e] at hx
      exact hx hc.2
  rcases h with ⟨h1, h2, h3⟩ | ⟨a, b, h1, h2, h3, h4, h5, h6⟩
  · refine .inl ⟨h1, h2, fun j hj => ?_⟩
    rcases Nat.lt_succ_iff_lt_or_eq.1 hj with x | x
    · exact h3 j x
    · rw [x]; exact hno
  · refine .inr ⟨a, b, h1, h2, h3, by omega, h5, fun j hb hj => ?_⟩
    rcases Nat.lt_succ_iff_lt_or_eq.1 hj with x | x
    · exact h6 j hb x
    · rw [x]; exact hno

set_option maxHeartbeats 1600000 in
theorem refCut_any (s : ByteArray) (w : World) (hs : s.size ≤ 3000) :
    Calls Try.prog 36 #[.string s] w fun e w' => ∃ f t : Int, e = .returned (.tuple #[.int .i64 f, .int .i64 t]) ∧ LastSep s.data.toList f t ∧ w = w' := by
  obtain ⟨l, hl⟩ : ∃ l, s.data.toList = l := ⟨_, rfl⟩
  have hlen : l.length = s.size := by rw [← hl]; exact (Lib.size_eq s).symm
  rw [hl]
  have byte : ∀ i (h : i < s.size), l[i]? = some s[i] := fun i h => by rw [← hl]; exact byte_at s i h
  clear hl
  go_enter Try.func36, Try.ntmps36
  go_wp2
  go_loopg [2, 3, 4] s.size (fun g v2 v3 v4 wx => ∃ (f t : Int) (i : Nat), v2 = .int .i64 f ∧ v3 = .int .i64 t ∧ v4 = .int .i64 i ∧ i ≤ s.size ∧ s.size ≤ i + g
    ∧ SepUp l i f t ∧ w = wx)
  case atStart => exact ⟨-1, -1, 0, rfl, rfl, rfl, Nat.zero_le _, by omega, .inl ⟨rfl, rfl, fun j h => by omega⟩, rfl⟩
  case round =>
    obtain ⟨f, t, i, rfl, rfl, rfl, hi, hg, hM, rfl⟩ := hrel
    by_cases hin : i < s.size
    · have hin1 : (i : Int) < (s.size : Int) := by omega
      have HM := Lib.hid hM
      clear hM
      obtain ⟨G, rfl⟩ : ∃ G, gk = G + 1 := ⟨gk - 1, by omega⟩
      go_wp2
      go_loopg [5] s.size (fun g v5 wx => ∃ n : Nat, v5 = .int .i64 n ∧ i + n ≤ s.size ∧ s.size ≤ n + g ∧ Hid (∀ k, i ≤ k → k < i + n → l[k]? = some 58) ∧ w = wx)
      case atStart => exact ⟨0, rfl, by omega, by omega, fun k h1 h2 => by omega, rfl⟩
      case round =>
        obtain ⟨n, rfl, hn, hgn, hR, rfl⟩ := hrel
        by_cases hc : l[i + n]? = some 58
        · have hil : i + n < s.size := by
            have := (List.getElem?_eq_some_iff.1 hc).1
            omega
          have hil1 : (i : Int) + (n : Int) < (s.size : Int) := by omega
          have hil0 : (0 : Int) ≤ (i : Int) + (n : Int) := by omega
          have hb := byte (i + n) hil
          obtain ⟨c, hc1⟩ : ∃ c, s[i + n] = c := ⟨_, rfl⟩
          rw [hc1, hc] at hb
          obtain rfl : (58 : UInt8) = c := Option.some.inj hb
          have HR : Hid (∀ k, i ≤ k → k < i + (n + 1) → l[k]? = some 58) := fun k h1 h2 => by
            rcases Nat.lt_or_ge k (i + n) with h | h
            · exact hR.out k h1 h
            · rw [show k = i + n by omega]; exact hc
          clear hb hc hR
          obtain ⟨g, rfl⟩ : ∃ g, gk = g + 1 := ⟨gk - 1, by omega⟩
          go_wp2
          go_roundg g
          case measure => omega
          case rel => exact ⟨n + 1, by push_cast; rfl, by omega, by omega, HR, rfl⟩
        · have HX := Lib.hid hc
          by_cases h2 : 2 ≤ n
          · have h21 : (2 : Int) ≤ (n : Int) := by omega
            have HU := Lib.hid (up_run hR.out hc h2)
            by_cases hil : i + n < s.size
            · have hil1 : (i : Int) + (n : Int) < (s.size : Int) := by omega
              have hil0 : (0 : Int) ≤ (i : Int) + (n : Int) := by omega
              have hb := byte (i + n) hil
              obtain ⟨c, hc1⟩ : ∃ c, s[i + n] = c := ⟨_, rfl⟩
              rw [hc1] at hb
              have hne : ¬ (c.toNat : Int) = 58 := fun e => by
                apply HX.out
                rw [hb]
                exact (byte_is c).2 e
              have hc256 := c.toNat_lt
              clear hb hc
              go_wp2
              go_roundg G
              case measure => omega
              case rel => exact ⟨i, i + n, i + n, rfl, rfl, by congr 1; omega, by omega, by omega, HU.out, rfl⟩
            · have hil1 : ¬ (i : Int) + (n : Int) < (s.size : Int) := by omega
              clear hc
              go_wp2
              go_roundg G
              case measure => omega
              case rel => exact ⟨i, i + n, i + n, rfl, rfl, by congr 1; omega, by omega, by omega, HU.out, rfl⟩
          · have h21 : ¬ (2 : Int) ≤ (n : Int) := by omega
            have HU := Lib.hid (up_one HM.out hc (by omega))
            by_cases hil : i + n < s.size
            · have hil1 : (i : Int) + (n : Int) < (s.size : Int) := by omega
              have hil0 : (0 : Int) ≤ (i : Int) + (n : Int) := by omega
              have hb := byte (i + n) hil
              obtain ⟨c, hc1⟩ : ∃ c, s[i + n] = c := ⟨_, rfl⟩
              rw [hc1] at hb
              have hne : ¬ (c.toNat : Int) = 58 := fun e => by
                apply HX.out
                rw [hb]
                exact (byte_is c).2 e
              have hc256 := c.toNat_lt
              clear hb hc
              go_wp2
              go_roundg G
              case measure => omega
              case rel => exact ⟨f, t, i + 1, rfl, rfl, by congr 1; omega, by omega, by omega, HU.out, rfl⟩
            · have hil1 : ¬ (i : Int) + (n : Int) < (s.size : Int) := by omega
              clear hc
              go_wp2
              go_roundg G
              case measure => omega
              case rel => exact ⟨f, t, i + 1, rfl, rfl, by congr 1; omega, by omega, by omega, HU.out, rfl⟩
    · have hin1 : ¬ (i : Int) < (s.size : Int) := by omega
      have hie : i = s.size := by omega
      subst hie
      have HM := Lib.hid hM
      clear hM
      go_wp2
      refine bodyPost_ret (results_tmp2 rfl _ _ _) rfl ?_
      refine ⟨f, t, rfl, ?_, rfl⟩
      rcases HM.out with ⟨h1, h2, h3⟩ | ⟨a, b, h1, h2, h3, h4, h5, h6⟩
      · refine .inl ⟨h1, h2, fun j hj => ?_⟩
        have := (List.getElem?_eq_some_iff.1 hj.1).1
        exact h3 j (by omega) hj
      · refine .inr ⟨a, b, h1, h2, h3, by omega, h5, fun j hb hj => ?_⟩
        have := (List.getElem?_eq_some_iff.1 hj.1).1
        exact h6 j hb (by omega) hj

theorem head_root (l : List UInt8) : canP [] (beforeP l) = headP l := rfl
theorem before_len (s : ByteArray) : (beforeS s).size ≤ s.size := by
  rw [Lib.size_eq, Lib.size_eq, beforeS]
  simp only [beforeP]
  split
  · simp
  · simp
    omega

set_option maxHeartbeats 800000 in
theorem head_any (s : ByteArray) (w : World) (hs : s.size ≤ 3000) : Calls Try.prog 16 #[.string s] w fun e w' => e = .returned (.string (headS s)) ∧ Below w.heap.size w w' := by
  have hb := before_len s
  have C := fun W => canonical_any ⟨#[]⟩ (beforeS s) W (by show 0 ≤ 3000; omega) (by omega)
  have hC : (⟨(canP (⟨#[]⟩ : ByteArray).data.toList (beforeS s).data.toList).toArray⟩ : ByteArray) = headS s := rfl
  rw [hC] at C
  have K := fun W => cut_any s W hs
  generalize beforeS s = b at *
  generalize headS s = h at *
  clear hC
  go_enter Try.func16, Try.ntmps16
  go_wp2_with fail
  refine (K _).mono ?_
  rintro e wa ⟨rfl, hb1⟩
  go_wp2_with fail
  refine (C _).mono ?_
  rintro e wb ⟨rfl, hb2⟩
  go_wp2
  go_ret
  exact ⟨rfl, hb1.trans (hb2.mono hb1.size)⟩

theorem tail_any (s : ByteArray) (w : World) (hs : s.size ≤ 3000) : Calls Try.prog 18 #[.string s] w fun e w' => e = .returned (.string (tailS s)) ∧ Below w.heap.size w w' := by
  have K := fun W => cut_any s W hs
  generalize beforeS s = b at *
  generalize tailS s = h at *
  go_enter Try.func18, Try.ntmps18
  go_wp2_with fail
  refine (K _).mono ?_
  rintro e wa ⟨rfl, hb1⟩
  go_wp2
  go_ret
  exact ⟨rfl, hb1⟩

set_option maxHeartbeats 800000 in
theorem refHead_any (s : ByteArray) (w : World) (hs : s.size ≤ 3000) : Calls Try.prog 17 #[.string s] w fun e w' => e = .returned (.string (headS s)) ∧ Below w.heap.size w w' := by
  obtain ⟨h, hh⟩ : ∃ h, headS s = h := ⟨_, rfl⟩
  rw [hh]
  go_enter Try.func17, Try.ntmps17
  go_wp2_with fail
  refine (refCut_any s _ hs).mono ?_
  rintro e wa ⟨f, t, rfl, hL, rfl⟩
  rcases hL with ⟨rfl, rfl, hn⟩ | ⟨a, b, rfl, rfl, h1, h2, h3, h4⟩
  · obtain rfl : ⟨#[58, 58]⟩ = h := by rw [← hh, headS, ← none_head hn]
    go_wp2
    go_ret
    exact ⟨rfl, Below.refl _ _⟩
  · have H : (⟨(canP (⟨#[58, 58]⟩ : ByteArray).data.toList (s.extract 0 a).data.toList).toArray⟩ : ByteArray) = h := by
      rw [← hh, headS, ← last_head h1 h2 h3 h4, take_str]
    have hb : b ≤ s.size := by rw [Lib.size_eq]; exact h2
    have ha0 : ¬ (a : Int) < 0 := by omega
    have ha1 : (0 : Int) ≤ (a : Int) := by omega
    have ha2 : (a : Int) ≤ (s.size : Int) := by omega
    have C := fun W => refCanonical_any ⟨#[58, 58]⟩ (s.extract 0 a) W (by show 2 ≤ 3000; omega) (by simp; omega)
    rw [H] at C
    clear h3 h4 H hh
    go_wp2_with fail
    refine (C _).mono ?_
    rintro e wb ⟨rfl, hb2⟩
    go_wp2
    go_ret
    exact ⟨rfl, hb2⟩

set_option maxHeartbeats 800000 in
theorem refTail_any (s : ByteArray) (w : World) (hs : s.size ≤ 3000) : Calls Try.prog 19 #[.string s] w fun e w' => e = .returned (.string (tailS s)) ∧ Below w.heap.size w w' := by
  obtain ⟨h, hh⟩ : ∃ h, tailS s = h := ⟨_, rfl⟩
  rw [hh]
  go_enter Try.func19, Try.ntmps19
  go_wp2_with fail
  refine (refCut_any s _ hs).mono ?_
  rintro e wa ⟨f, t, rfl, hL, rfl⟩
  rcases hL with ⟨rfl, rfl, hn⟩ | ⟨a, b, rfl, rfl, h1, h2, h3, h4⟩
  · obtain rfl : h = s := by rw [← hh, tailS, ← none_tail hn]
    have hm : max (-1 : Int) 0 = 0 := rfl
    have h0 : (0 : Int) ≤ (h.size : Int) := by omega
    clear hh
    go_wp2
    go_ret
    exact ⟨rfl, Below.refl _ _⟩
  · have H : s.extract b s.size = h := by rw [← hh, tailS, ← last_tail h1 h3 h4, drop_str]
    have hb : b ≤ s.size := by rw [Lib.size_eq]; exact h2
    have hm : max (b : Int) 0 = (b : Int) := by omega
    have ha1 : (0 : Int) ≤ (b : Int) := by omega
    have ha2 : (b : Int) ≤ (s.size : Int) := by omega
    have HH := Lib.hid H
    clear h3 h4 H hh
    go_wp2
    go_ret
    exact ⟨by rw [← HH.out]; rfl, Below.refl _ _⟩
end Go.Proofs.Ytcnmblfdieegfaa
