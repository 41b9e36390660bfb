/- First: what both answer. -/
import Derived.Test.YtneklmalkmeohaaFinds2
namespace Go.Proofs.Ytneklmalkmeohaa
open Go.RowKit Go.Lib

theorem stands_val (n s : ByteArray) (i : Nat) (b : Bool) (w : World) (hn : n.size ≤ 400) (hs : s.size ≤ 400) (hi : i ≤ s.size) (hb : occAt s.data.toList n.data.toList i = b) :
    Calls Try.prog 52 #[.string n, .string s, .int .i64 i] w fun e w' => e = .returned (.bool b) ∧ w = w' := by
  subst hb
  exact stands_any n s i w hn hs hi

theorem empty_iff (n : ByteArray) : n.toList.isEmpty = true ↔ n.data.toList = [] := by rw [toList_data]; simp

set_option maxRecDepth 100000 in
set_option maxHeartbeats 800000 in
theorem refFirst_any (n s : ByteArray) (f : Int) (w : World) (hn : n.size ≤ 400) (hs : s.size ≤ 400) :
    Calls Try.prog 16 #[.string n, .string s, .int .i64 f] w fun e w' => e = .returned (.int .i64 (firstOf s.data.toList n.data.toList f)) ∧ w = w' := by
  go_enter Try.func16, Try.ntmps16
  go_wp2
  go_loop [7, 10] (fun _ i => ∃ k : Nat, k ≤ s.size ∧ i = .int .i64 k ∧ Hid (n.data.toList ≠ [] → ∀ j : Nat, j < k → f ≤ j → occAt s.data.toList n.data.toList j = false)) (fun _ i => s.size - (RowKit.intOf i).toNat)
  case atStart => exact ⟨0, Nat.zero_le _, rfl, fun _ j hj => by omega⟩
  case round =>
    obtain ⟨k, hk, rfl, hno⟩ := hrel
    by_cases hlt : k < s.size
    · by_cases hE : n.toList.isEmpty = true
      · have H : Hid (n.data.toList ≠ [] → ∀ j : Nat, j < k + 1 → f ≤ j → occAt s.data.toList n.data.toList j = false) := fun h => absurd ((empty_iff n).1 hE) h
        go_wp2
        go_round
        case rel => exact ⟨k + 1, by omega, by go_num, H⟩
        case measure => simp [RowKit.intOf]; omega
      · have hE' : n.toList.isEmpty = false := by simpa using hE
        have hne : n.data.toList ≠ [] := fun h => hE ((empty_iff n).2 h)
        have HN := Lib.hid hne
        clear hE hne
        by_cases hf : f ≤ k
        · cases ho : occAt s.data.toList n.data.toList k
          · have H : Hid (n.data.toList ≠ [] → ∀ j : Nat, j < k + 1 → f ≤ j → occAt s.data.toList n.data.toList j = false) := fun h j hj1 hj2 => by
              rcases Nat.lt_succ_iff_lt_or_eq.1 hj1 with h1 | h1
              · exact hno.out h j h1 hj2
              · rw [h1]; exact ho
            have HO := Lib.hid ho
            clear ho
            go_wp2_with (go_at_call 52; refine (stands_val n s k false _ hn hs hk HO.out).mono ?_; rintro e w' ⟨rfl, rfl⟩)
            go_round
            case rel => exact ⟨k + 1, by omega, by go_num, H⟩
            case measure => simp [RowKit.intOf]; omega
          · have H := Lib.hid (firstOf_hit HN.out hf ho (fun j h1 h2 => hno.out HN.out j h1 h2))
            have HO := Lib.hid ho
            clear ho
            go_wp2_with (go_at_call 52; refine (stands_val n s k true _ hn hs hk HO.out).mono ?_; rintro e w' ⟨rfl, rfl⟩)
            go_ret
            exact ⟨by rw [H.out]; rfl, rfl⟩
        · have H : Hid (n.data.toList ≠ [] → ∀ j : Nat, j < k + 1 → f ≤ j → occAt s.data.toList n.data.toList j = false) := fun h j hj1 hj2 => by
            rcases Nat.lt_succ_iff_lt_or_eq.1 hj1 with h1 | h1
            · exact hno.out h j h1 hj2
            · omega
          go_wp2
          go_round
          case rel => exact ⟨k + 1, by omega, by go_num, H⟩
          case measure => simp [RowKit.intOf]; omega
    · have H := Lib.hid (firstOf_none (l := s.data.toList) (sub := n.data.toList) (f := f) (fun h j hj1 hj2 => hno.out h j (by simp at hj1; omega) hj2))
      go_wp2
      go_ret
      exact ⟨by rw [H.out]; rfl, rfl⟩

theorem index_val (s sub : ByteArray) (r m : Int) (w : World) (hs : s.size < 4294967281) (hm : w.cell? ⟨0, 0, none⟩ = some (.int .i64 m)) (hr : index s.data.toList sub.data.toList = r) :
    Calls Try.prog 51 #[.string s, .string sub] w fun e w' => e = .returned (.int .i64 r) ∧ w = w' :=
  (Try.strings_Index s sub m w hs hm).mono fun e w' ⟨he, hw⟩ => ⟨by rw [he, hr], hw.symm⟩

set_option maxRecDepth 100000 in
set_option maxHeartbeats 800000 in
theorem first_any (n s : ByteArray) (f m : Int) (w : World) (_hn : n.size ≤ 400) (hs : s.size ≤ 400) (hm : w.cell? ⟨0, 0, none⟩ = some (.int .i64 m)) :
    Calls Try.prog 15 #[.string n, .string s, .int .i64 f] w fun e w' => e = .returned (.int .i64 (firstOf s.data.toList n.data.toList f)) ∧ w = w' := by
  by_cases hE : n.toList.isEmpty = true
  · have H := Lib.hid (show firstOf s.data.toList n.data.toList f = -1 by unfold firstOf; rw [if_pos (.inl ((empty_iff n).1 hE))])
    go_enter Try.func15, Try.ntmps15
    go_wp2
    go_ret
    exact ⟨by rw [H.out]; rfl, rfl⟩
  · have hE' : n.toList.isEmpty = false := by simpa using hE
    have hne : n.data.toList ≠ [] := fun h => hE ((empty_iff n).2 h)
    clear hE
    by_cases hf : max f 0 > (s.size : Int)
    · have H := Lib.hid (show firstOf s.data.toList n.data.toList f = -1 by unfold firstOf; rw [if_pos (.inr (by simp; omega))])
      have HN := Lib.hid hne
      clear hne
      go_enter Try.func15, Try.ntmps15
      go_wp2
      go_ret
      exact ⟨by rw [H.out]; rfl, rfl⟩
    · have hx : (s.extract (max f 0).toNat s.size).data.toList = s.data.toList.drop f.toNat := by
        rw [Lib.extract_to_end, show (max f 0).toNat = f.toNat by omega]
      obtain ⟨r, hr⟩ : ∃ r, index (s.data.toList.drop f.toNat) n.data.toList = r := ⟨_, rfl⟩
      have hfo : firstOf s.data.toList n.data.toList f = if r < 0 then -1 else f.toNat + r := by unfold firstOf; rw [if_neg (by simp; exact ⟨fun h => hne (by simpa using h), by omega⟩), hr]
      have hge := index_ge (s.data.toList.drop f.toNat) n.data.toList
      have hle := index_le (s.data.toList.drop f.toNat) n.data.toList
      rw [hr] at hge hle
      rw [List.length_drop] at hle
      simp only [Array.length_toList] at hle
      have hle' : r ≤ 400 := by have : s.data.size = s.size := rfl; omega
      have HR : Hid (index (s.extract (max f 0).toNat s.size).data.toList n.data.toList = r) := by show _ = _; rw [hx]; exact hr
      have HN := Lib.hid hne
      clear hr hne hx hle
      by_cases hr0 : r < 0
      · rw [if_pos hr0] at hfo
        have H := Lib.hid hfo
        clear hfo
        go_enter Try.func15, Try.ntmps15
        go_wp2_with (go_at_call 51; refine (index_val _ _ r m _ (by simp; omega) hm HR.out).mono ?_; rintro e w' ⟨rfl, rfl⟩)
        go_ret
        exact ⟨by rw [H.out]; rfl, rfl⟩
      · rw [if_neg hr0] at hfo
        have H := Lib.hid (show firstOf s.data.toList n.data.toList f = max f 0 + r by omega)
        clear hfo
        go_enter Try.func15, Try.ntmps15
        go_wp2_with (go_at_call 51; refine (index_val _ _ r m _ (by simp; omega) hm HR.out).mono ?_; rintro e w' ⟨rfl, rfl⟩)
        go_ret
        exact ⟨by rw [H.out]; rfl, rfl⟩
end Go.Proofs.Ytneklmalkmeohaa
