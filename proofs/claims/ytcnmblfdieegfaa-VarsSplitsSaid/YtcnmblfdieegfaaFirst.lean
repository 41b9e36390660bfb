/- First of the reference. -/
import Derived.Test.YtcnmblfdieegfaaPlain
import Derived.Test.YtcnmblfdieegfaaBase
import Derived.Sort.Walk0
namespace Go.Proofs.Ytcnmblfdieegfaa
open Go.RowKit Go.Lib

theorem stands_eq (n s : ByteArray) (i : Nat) (h : i + n.size ≤ s.size) : ((s.extract i (i + n.size)).toList == n.toList) = occAt s.data.toList n.data.toList i := by
  cases hc : ((s.extract i (i + n.size)).toList == n.toList)
  · rw [occ_no s n i h hc]
  · rw [occ_yes s n i h hc]
theorem stands_far (n s : ByteArray) (i : Nat) (hi : i ≤ s.size) (h : ¬ i + n.size ≤ s.size) : occAt s.data.toList n.data.toList i = false := by
  cases ho : occAt s.data.toList n.data.toList i
  · rfl
  · exfalso
    unfold occAt at ho
    have h1 := (List.isPrefixOf_iff_prefix.1 ho).length_le
    rw [List.length_drop] at h1
    simp at h1
    omega

set_option maxRecDepth 100000 in
set_option maxHeartbeats 800000 in
theorem stands_any (n s : ByteArray) (i : Nat) (w : World) (hn : n.size ≤ 400) (hs : s.size ≤ 400) (hi : i ≤ s.size) :
    Calls Try.prog 42 #[.string n, .string s, .int .i64 i] w fun e w' => e = .returned (.bool (occAt s.data.toList n.data.toList i)) ∧ w = w' := by
  by_cases h : i + n.size ≤ s.size
  · have h1 : (i : Int) ≤ (s.size : Int) - (n.size : Int) := by omega
    have h2 : (0 : Int) ≤ (i : Int) := by omega
    have H := Lib.hid (stands_eq n s i h)
    go_enter Try.func42, Try.ntmps42
    go_wp2
    go_ret
    exact ⟨by rw [H.out]; rfl, rfl⟩
  · have h1 : ¬ (i : Int) ≤ (s.size : Int) - (n.size : Int) := by omega
    have h2 : (0 : Int) ≤ (i : Int) := by omega
    have H := Lib.hid (stands_far n s i hi h)
    go_enter Try.func42, Try.ntmps42
    go_wp2
    go_ret
    exact ⟨by rw [H.out]; rfl, rfl⟩

theorem stands_val (n s : ByteArray) (i : Nat) (b : Bool) (w : World) (hn : n.size ≤ 400) (hs : s.size ≤ 400) (hi : i ≤ s.size) (hb : occAt s.data.toList n.data.toList i = b) :
    Calls Try.prog 42 #[.string n, .string s, .int .i64 i] w fun e w' => e = .returned (.bool b) ∧ w = w' := by
  subst hb
  exact stands_any n s i w hn hs hi

theorem empty_iff (n : ByteArray) : n.toList.isEmpty = true ↔ n.data.toList = [] := by rw [toList_data]; simp

set_option maxRecDepth 100000 in
set_option maxHeartbeats 800000 in
theorem refFirst_any (n s : ByteArray) (f : Int) (w : World) (hn : n.size ≤ 400) (hs : s.size ≤ 400) :
    Calls Try.prog 27 #[.string n, .string s, .int .i64 f] w fun e w' => e = .returned (.int .i64 (firstOf s.data.toList n.data.toList f)) ∧ w = w' := by
  go_enter Try.func27, Try.ntmps27
  go_wp2
  go_loop [7, 10] (fun _ i => ∃ k : Nat, k ≤ s.size ∧ i = .int .i64 k ∧ Hid (n.data.toList ≠ [] → ∀ j : Nat, j < k → f ≤ j → occAt s.data.toList n.data.toList j = false)) (fun _ i => s.size - (RowKit.intOf i).toNat)
  case atStart => exact ⟨0, Nat.zero_le _, rfl, fun _ j hj => by omega⟩
  case round =>
    obtain ⟨k, hk, rfl, hno⟩ := hrel
    by_cases hlt : k < s.size
    · by_cases hE : n.toList.isEmpty = true
      · have H : Hid (n.data.toList ≠ [] → ∀ j : Nat, j < k + 1 → f ≤ j → occAt s.data.toList n.data.toList j = false) := fun h => absurd ((empty_iff n).1 hE) h
        go_wp2
        go_round
        case rel => exact ⟨k + 1, by omega, by go_num, H⟩
        case measure => simp [RowKit.intOf]; omega
      · have hE' : n.toList.isEmpty = false := by simpa using hE
        have hne : n.data.toList ≠ [] := fun h => hE ((empty_iff n).2 h)
        have HN := Lib.hid hne
        clear hE hne
        by_cases hf : f ≤ k
        · cases ho : occAt s.data.toList n.data.toList k
          · have H : Hid (n.data.toList ≠ [] → ∀ j : Nat, j < k + 1 → f ≤ j → occAt s.data.toList n.data.toList j = false) := fun h j hj1 hj2 => by
              rcases Nat.lt_succ_iff_lt_or_eq.1 hj1 with h1 | h1
              · exact hno.out h j h1 hj2
              · rw [h1]; exact ho
            have HO := Lib.hid ho
            clear ho
            go_wp2_with (go_at_call 42; refine (stands_val n s k false _ hn hs hk HO.out).mono ?_; rintro e w' ⟨rfl, rfl⟩)
            go_round
            case rel => exact ⟨k + 1, by omega, by go_num, H⟩
            case measure => simp [RowKit.intOf]; omega
          · have H := Lib.hid (firstOf_hit HN.out hf ho (fun j h1 h2 => hno.out HN.out j h1 h2))
            have HO := Lib.hid ho
            clear ho
            go_wp2_with (go_at_call 42; refine (stands_val n s k true _ hn hs hk HO.out).mono ?_; rintro e w' ⟨rfl, rfl⟩)
            go_ret
            exact ⟨by rw [H.out]; rfl, rfl⟩
        · have H : Hid (n.data.toList ≠ [] → ∀ j : Nat, j < k + 1 → f ≤ j → occAt s.data.toList n.data.toList j = false) := fun h j hj1 hj2 => by
            rcases Nat.lt_succ_iff_lt_or_eq.1 hj1 with h1 | h1
            · exact hno.out h j h1 hj2
            · omega
          go_wp2
          go_round
          case rel => exact ⟨k + 1, by omega, by go_num, H⟩
          case measure => simp [RowKit.intOf]; omega
    · have H := Lib.hid (firstOf_none (l := s.data.toList) (sub := n.data.toList) (f := f) (fun h j hj1 hj2 => hno.out h j (by simp at hj1; omega) hj2))
      go_wp2
      go_ret
      exact ⟨by rw [H.out]; rfl, rfl⟩

end Go.Proofs.Ytcnmblfdieegfaa
