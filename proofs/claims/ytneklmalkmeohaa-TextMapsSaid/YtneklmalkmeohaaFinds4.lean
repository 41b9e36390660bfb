/- last and count: what they answer, of the program and of the reference. -/
import Derived.Test.YtneklmalkmeohaaFinds3
namespace Go.Proofs.Ytneklmalkmeohaa
open Go.RowKit Go.Lib

/-- The counter of a loop that goes down: k - 1. -/
def Down (k : Nat) (v : Value) : Prop := (k = 0 ∧ v = .int .i64 (-1)) ∨ ∃ m : Nat, k = m + 1 ∧ v = .int .i64 m
theorem down_pred (m : Nat) : Down m (.int .i64 ((m : Int) - 1)) := by
  rcases m with _ | m
  · exact .inl ⟨rfl, rfl⟩
  · exact .inr ⟨m, rfl, congrArg (Value.int .i64) (by omega)⟩

set_option maxRecDepth 100000 in
set_option maxHeartbeats 800000 in
theorem refLast_any (n s : ByteArray) (t : Int) (w : World) (hn : n.size ≤ 400) (hs : s.size ≤ 400) :
    Calls Try.prog 18 #[.string n, .string s, .int .i64 t] w fun e w' => e = .returned (.int .i64 (lastOf s.data.toList n.data.toList t)) ∧ w = w' := by
  go_enter Try.func18, Try.ntmps18
  go_wp2
  go_loop [7] (fun i => ∃ k : Nat, k ≤ s.size ∧ Down k i ∧ Hid (n.data.toList ≠ [] → ∀ j : Nat, k ≤ j → j < s.size → (j : Int) ≤ t → occAt s.data.toList n.data.toList j = false)) (fun i => (RowKit.intOf i + 1).toNat)
  case atStart => exact ⟨s.size, Nat.le_refl _, down_pred _, fun _ j h1 h2 => by omega⟩
  case round =>
    obtain ⟨k, hk, hd, hno⟩ := hrel
    rcases hd with ⟨hk0, rfl⟩ | ⟨m, hkm, rfl⟩
    · have H := Lib.hid (lastOf_none (l := s.data.toList) (sub := n.data.toList) (t := t) (fun h j hj1 hj2 => hno.out h j (by omega) (by simpa using hj1) hj2))
      clear hk0
      go_wp2
      go_ret
      exact ⟨by rw [H.out]; rfl, rfl⟩
    · have hm : m < s.size := by omega
      have step : (n.data.toList ≠ [] → (m : Int) ≤ t → occAt s.data.toList n.data.toList m = false) → Hid (n.data.toList ≠ [] → ∀ j : Nat, m ≤ j → j < s.size → (j : Int) ≤ t → occAt s.data.toList n.data.toList j = false) := fun h0 h j h1 h2 h3 => by
        rcases Nat.lt_or_eq_of_le h1 with h4 | h4
        · exact hno.out h j (by omega) h2 h3
        · subst h4; exact h0 h h3
      by_cases hE : n.toList.isEmpty = true
      · have H := step (fun h _ => absurd ((empty_iff n).1 hE) h)
        clear step hkm
        go_wp2
        go_round
        case rel => exact ⟨m, by omega, down_pred m, H⟩
        case measure => simp [RowKit.intOf]
      · have hE' : n.toList.isEmpty = false := by simpa using hE
        have hne : n.data.toList ≠ [] := fun h => hE ((empty_iff n).2 h)
        have HN := Lib.hid hne
        clear hE hne
        by_cases hf : (m : Int) ≤ t
        · cases ho : occAt s.data.toList n.data.toList m
          · have H := step (fun _ _ => ho)
            have HO := Lib.hid ho
            clear ho step hkm
            go_wp2_with (go_at_call 52; refine (stands_val n s m false _ hn hs (by omega) HO.out).mono ?_; rintro e w' ⟨rfl, rfl⟩)
            go_round
            case rel => exact ⟨m, by omega, down_pred m, H⟩
            case measure => simp [RowKit.intOf]
          · have H := Lib.hid (lastOf_hit HN.out hf ho (fun j h1 h2 h3 => hno.out HN.out j (by omega) (by simpa using h2) h3))
            have HO := Lib.hid ho
            clear ho step hkm
            go_wp2_with (go_at_call 52; refine (stands_val n s m true _ hn hs (by omega) HO.out).mono ?_; rintro e w' ⟨rfl, rfl⟩)
            go_ret
            exact ⟨by rw [H.out]; rfl, rfl⟩
        · have H := step (fun _ h => absurd h hf)
          clear step hkm
          go_wp2
          go_round
          case rel => exact ⟨m, by omega, down_pred m, H⟩
          case measure => simp [RowKit.intOf]

theorem lastIndex_val (s sub : ByteArray) (r : Int) (w : World) (hs : s.size < 4611686018427387904) (hr : lastIndex s.data.toList sub.data.toList = r) :
    Calls Try.prog 53 #[.string s, .string sub] w fun e w' => e = .returned (.int .i64 r) ∧ w = w' :=
  (Try.strings_LastIndex s sub hs w).mono fun e w' ⟨he, hw⟩ => ⟨by rw [he, hr], hw.symm⟩

set_option maxRecDepth 100000 in
set_option maxHeartbeats 800000 in
theorem last_any (n s : ByteArray) (t : Int) (w : World) (hn : n.size ≤ 400) (hs : s.size ≤ 400) :
    Calls Try.prog 17 #[.string n, .string s, .int .i64 t] w fun e w' => e = .returned (.int .i64 (lastOf s.data.toList n.data.toList t)) ∧ w = w' := by
  by_cases hE : n.toList.isEmpty = true
  · have H := Lib.hid (show lastOf s.data.toList n.data.toList t = -1 by unfold lastOf; rw [if_pos (.inl ((empty_iff n).1 hE))])
    go_enter Try.func17, Try.ntmps17
    go_wp2
    go_ret
    exact ⟨by rw [H.out]; rfl, rfl⟩
  · have hE' : n.toList.isEmpty = false := by simpa using hE
    have hne : n.data.toList ≠ [] := fun h => hE ((empty_iff n).2 h)
    clear hE
    by_cases hf : t < 0
    · have H := Lib.hid (show lastOf s.data.toList n.data.toList t = -1 by unfold lastOf; rw [if_pos (.inr hf)])
      clear hne
      go_enter Try.func17, Try.ntmps17
      go_wp2
      go_ret
      exact ⟨by rw [H.out]; rfl, rfl⟩
    · have hx : (s.extract 0 (min (min t (s.size : Int) + (n.size : Int)) (s.size : Int)).toNat).data.toList = s.data.toList.take (min (min t.toNat s.data.toList.length + n.data.toList.length) s.data.toList.length) := by
        rw [Lib.extract_data, List.drop_zero, ← Lib.size_eq, ← Lib.size_eq]
        congr 1
        omega
      have HR : Hid (lastIndex (s.extract 0 (min (min t (s.size : Int) + (n.size : Int)) (s.size : Int)).toNat).data.toList n.data.toList = lastOf s.data.toList n.data.toList t) := by
        show _ = _
        rw [hx]
        unfold lastOf
        rw [if_neg (by simp; exact ⟨fun h => hne (by simpa using h), by omega⟩)]
      clear hx hne
      go_enter Try.func17, Try.ntmps17
      go_wp2_with (go_at_call 53; refine (lastIndex_val _ _ _ _ (by simp; omega) HR.out).mono ?_; rintro e w' ⟨rfl, rfl⟩)
      go_ret
      exact ⟨rfl, rfl⟩

/-- What is left for a loop over places: nothing at -1. -/
def leftOf : Value → Nat
  | .int _ (.ofNat i) => 1000 - i
  | _ => 0
theorem left_lt {q : Int} {i : Nat} (h : q < 0 ∨ (i : Int) < q) (hi : i ≤ 400) : leftOf (.int .i64 q) < leftOf (.int .i64 i) := by
  rcases q with j | j
  · show 1000 - j < 1000 - i
    have : (i : Int) < (Int.ofNat j) := by
      rcases h with h | h
      · exact absurd h (by simp)
      · exact h
    have h2 : i < j := by simpa using this
    omega
  · show 0 < 1000 - i
    omega

/-- How often a text is found, without overlaps. -/
def countOf (l sub : List UInt8) : Nat := if sub = [] then 0 else count l sub

theorem count_val (s sub : ByteArray) (m : Int) (w : World) (hs : s.size < 4294967281) (hm : w.cell? ⟨0, 0, none⟩ = some (.int .i64 m)) (hne : sub.data.toList ≠ []) :
    Calls Try.prog 54 #[.string s, .string sub] w fun e w' => e = .returned (.int .i64 (count s.data.toList sub.data.toList : Nat)) ∧ w = w' := by
  by_cases h1 : sub.size = 1
  · obtain ⟨⟨l⟩⟩ := sub
    have hl : l.length = 1 := h1
    obtain ⟨c, rfl⟩ := List.length_eq_one_iff.1 hl
    exact (Try.strings_Count_one s c w).mono fun e w' ⟨he, hw⟩ => ⟨by rw [he]; show _ = Ending.returned (.int .i64 ((count s.data.toList [c] : Nat) : Int)); rw [count_one], hw.symm⟩
  · have h2 : 2 ≤ sub.size := by
      have : 0 < sub.data.toList.length := List.length_pos_iff.2 hne
      have h3 : sub.data.toList.length = sub.size := by simp
      omega
    exact (Try.strings_Count s sub m w hs hm h2).mono fun e w' ⟨he, hw⟩ => ⟨he, hw.symm⟩

set_option maxRecDepth 100000 in
set_option maxHeartbeats 800000 in
theorem count_any (n s : ByteArray) (m : Int) (w : World) (_hn : n.size ≤ 400) (hs : s.size ≤ 400) (hm : w.cell? ⟨0, 0, none⟩ = some (.int .i64 m)) :
    Calls Try.prog 19 #[.string n, .string s] w fun e w' => e = .returned (.int .i64 (countOf s.data.toList n.data.toList : Nat)) ∧ w = w' := by
  by_cases hE : n.toList.isEmpty = true
  · have H := Lib.hid (show countOf s.data.toList n.data.toList = 0 by unfold countOf; rw [if_pos ((empty_iff n).1 hE)])
    go_enter Try.func19, Try.ntmps19
    go_wp2
    go_ret
    exact ⟨by rw [H.out]; rfl, rfl⟩
  · have hE' : n.toList.isEmpty = false := by simpa using hE
    have hne : n.data.toList ≠ [] := fun h => hE ((empty_iff n).2 h)
    have H := Lib.hid (show countOf s.data.toList n.data.toList = count s.data.toList n.data.toList by unfold countOf; rw [if_neg hne])
    have HN := Lib.hid hne
    clear hE hne
    go_enter Try.func19, Try.ntmps19
    go_wp2_with (go_at_call 54; refine (count_val s n m _ (by omega) hm HN.out).mono ?_; rintro e w' ⟨rfl, rfl⟩)
    go_ret
    exact ⟨by rw [H.out]; rfl, rfl⟩

set_option maxRecDepth 100000 in
set_option maxHeartbeats 800000 in
theorem refCount_any (n s : ByteArray) (w : World) (hn : n.size ≤ 400) (hs : s.size ≤ 400) :
    Calls Try.prog 20 #[.string n, .string s] w fun e w' => e = .returned (.int .i64 (countOf s.data.toList n.data.toList : Nat)) ∧ w = w' := by
  by_cases hE : n.data.toList = []
  · have H := Lib.hid (show countOf s.data.toList n.data.toList = 0 by unfold countOf; rw [if_pos hE])
    have HF := Lib.hid (show firstOf s.data.toList n.data.toList 0 = -1 by unfold firstOf; rw [if_pos (.inl hE)])
    clear hE
    go_enter Try.func20, Try.ntmps20
    go_wp2_with (go_at_call 16; refine (refFirst_any n s 0 _ hn hs).mono ?_; rw [HF.out]; rintro e w' ⟨rfl, rfl⟩)
    refine wp_loop_rounds 1 ?_
    rw [rounds_succ]
    go_wp2
    go_ret
    exact ⟨by rw [H.out]; rfl, rfl⟩
  · have HE := Lib.hid hE
    clear hE
    go_enter Try.func20, Try.ntmps20
    go_wp2_with (go_at_call 16; refine (refFirst_any n s 0 _ hn hs).mono ?_; rintro e w' ⟨rfl, rfl⟩)
    go_loop [5, 6] (fun c at_ => ∃ (f k : Nat) (a : Int), at_ = .int .i64 a ∧ c = .int .i64 k ∧ f ≤ s.size ∧ k ≤ f ∧ Hid (a = firstOf s.data.toList n.data.toList f) ∧ Hid (k + count (s.data.toList.drop f) n.data.toList = count s.data.toList n.data.toList)) (fun _ at_ => leftOf at_)
    case atStart => exact ⟨0, 0, _, rfl, rfl, Nat.zero_le _, Nat.le_refl _, rfl, by show _ = _; simp⟩
    case round =>
      obtain ⟨f, k, a, rfl, rfl, hf, hkf, hA, hC⟩ := hrel
      have hp : 0 < n.size := by
        have h1 : 0 < n.data.toList.length := List.length_pos_iff.2 HE.out
        have h2 : n.data.toList.length = n.size := by simp
        omega
      by_cases ha : 0 ≤ a
      · obtain ⟨i, rfl⟩ := Int.eq_ofNat_of_zero_le ha
        obtain ⟨h1, h2, h3⟩ := count_first_some HE.out (by simp; exact hf) hA.out.symm
        rw [← Lib.size_eq, ← Lib.size_eq] at h3
        rw [← Lib.size_eq] at h1
        have hc1 : Hid (k + 1 + count (s.data.toList.drop (i + n.size)) n.data.toList = count s.data.toList n.data.toList) := by
          have := hC.out
          show _ = _
          omega
        clear h1 hC hA
        have HK : Hid (firstOf s.data.toList n.data.toList ((i : Int) + (n.size : Int)) < 0 ∨ (i : Int) < firstOf s.data.toList n.data.toList ((i : Int) + (n.size : Int))) := by
          show _ ∨ _
          generalize hq : firstOf s.data.toList n.data.toList ((i : Int) + (n.size : Int)) = q
          by_cases hq0 : q < 0
          · exact .inl hq0
          · obtain ⟨j, rfl⟩ := Int.eq_ofNat_of_zero_le (show 0 ≤ q by omega)
            have := count_first_some (f := i + n.size) HE.out (by simp; omega) hq
            omega
        have hi4 : i ≤ 400 := by omega
        go_wp2_with (go_at_call 16; refine (refFirst_any n s _ _ hn hs).mono ?_; rintro e w' ⟨rfl, rfl⟩)
        go_round
        case rel => exact ⟨i + n.size, k + 1, _, rfl, by go_num, by omega, by omega, by show _ = _; congr 1, hc1⟩
        case measure =>
          have hk := HK.out
          exact left_lt hk hi4
      · have H := Lib.hid (show countOf s.data.toList n.data.toList = k by
          have h1 : a = -1 := by
            have := hA.out
            unfold firstOf at this
            split at this
            · exact this
            · split at this
              · exact this
              · omega
          have h2 := count_first_none HE.out (by simp; exact hf) (hA.out.symm.trans h1)
          have h3 := hC.out
          unfold countOf
          rw [if_neg HE.out]
          omega)
        clear hC hA
        go_wp2
        go_ret
        exact ⟨by rw [H.out]; rfl, rfl⟩
end Go.Proofs.Ytneklmalkmeohaa
