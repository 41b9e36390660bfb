/- Repeat of the reference. -/
import Derived.Test.YtneklmalkmeohaaRepeats1
namespace Go.Proofs.Ytneklmalkmeohaa
open Go.RowKit Go.Lib

set_option maxHeartbeats 1600000 in
set_option maxRecDepth 100000 in
theorem refRepeat_none (s : ByteArray) (n : Int) (w : World) (hn : s.data.toList = [] ∨ n < 1) :
    Calls Try.prog 40 #[.string s, .int .i64 n] w fun e w' => e = .returned (.tuple #[.string ⟨#[]⟩, .int .i64 0]) ∧ w = w' := by
  have hconv : (convert 56 9 (.slice none 0 0)).run Try.prog w = .ok (.string ⟨#[]⟩) w := conv_own (base := 0) (l := []) (World.ownsRow_nil w 0 5 1)
  by_cases h1 : n < 1
  · have h1' : ¬ (0 : Int) < n := by omega
    go_enter Try.func40, Try.ntmps40
    go_wp2
    refine wp_loop_rounds 1 ?_
    rw [rounds_succ]
    go_wp2_with (go_at_call 68; refine (long_any ⟨#[]⟩ _).mono ?_; rintro e w' ⟨rfl, rfl⟩)
    go_ret2
    exact ⟨rfl, rfl⟩
  · have h1' : (0 : Int) < n := by omega
    have hE : s.toList.isEmpty = true := (empty_iff s).2 (by rcases hn with h | h; exact h; exact absurd h h1)
    go_enter Try.func40, Try.ntmps40
    go_wp2
    refine wp_loop_rounds 1 ?_
    rw [rounds_succ]
    go_wp2_with (go_at_call 68; refine (long_any ⟨#[]⟩ _).mono ?_; rintro e w' ⟨rfl, rfl⟩)
    go_ret2
    exact ⟨rfl, rfl⟩

set_option maxHeartbeats 1600000 in
set_option maxRecDepth 100000 in
theorem refRepeat_some (s : ByteArray) (n : Nat) (w : World) (hs : s.size ≤ 400) (hE : s.toList.isEmpty = false) (hpos : 0 < s.size) :
    Calls Try.prog 40 #[.string s, .int .i64 n] w fun e w' => e = .returned (.tuple #[.string ⟨(repText s.data.toList n).toArray⟩, .int .i64 (repErr s.data.toList n)]) ∧ Below w.heap.size w w' := by
  obtain ⟨i5, hi5, hy0, hy1, hy2⟩ := info_parts Try.info5
  have hlen : s.data.toList.length = s.size := (Lib.size_eq s).symm
  have hfin : ∀ k : Nat, k ≤ n → (k = 0 ∨ (k - 1) * s.size ≤ 65536) → (k = n ∨ 65536 < k * s.size) → longText (repeatL s.data.toList k) = repText s.data.toList n ∧ longErr (repeatL s.data.toList k) = repErr s.data.toList n := by
    intro k hk _ hor
    have hl : (repeatL s.data.toList k).length = k * s.size := by rw [repeatL_length, hlen]
    have hmono : k * s.size ≤ n * s.size := Nat.mul_le_mul_right _ hk
    unfold longText longErr repText repErr
    rw [hl, hlen, Int.toNat_natCast]
    rcases hor with rfl | h
    · exact ⟨rfl, rfl⟩
    · have h2 : 65536 < n * s.size := by omega
      rw [if_pos h, if_pos h2, if_pos h, if_pos h2]
      exact ⟨rfl, rfl⟩
  have HF := Lib.hid hfin
  clear hfin
  go_enter Try.func40, Try.ntmps40
  go_wp2
  go_loopg [6, 7] n (fun g v6 v7 wx => ∃ k : Nat, v7 = .int .i64 k ∧ k + g = n ∧ wx.ownsRow w.heap.size 5 1 v6 (repeatL s.data.toList k).length (byteCells (repeatL s.data.toList k)) ∧ Below w.heap.size w wx ∧ (k = 0 ∨ (k - 1) * s.size ≤ 65536))
  case atStart => exact ⟨0, rfl, by omega, World.ownsRow_nil _ _ _ _, Below.refl _ _, .inl rfl⟩
  case round =>
    obtain ⟨k, rfl, hkg, hown, hbx, hprev⟩ := hrel
    obtain ⟨L, hL⟩ : ∃ L, (repeatL s.data.toList k).length = L := ⟨_, rfl⟩
    have hLk : L = k * s.size := by rw [← hL, repeatL_length, hlen]
    rw [hL] at hown
    obtain ⟨ao, cc, rfl⟩ := slice_of_own hown
    by_cases hk : k < n
    · have hk1 : (k : Int) < (n : Int) := by omega
      by_cases hb : L ≤ 65536
      · have hb1 : (L : Int) ≤ 65536 := by omega
        have hkk := Lib.hid (show k * s.size ≤ 65536 by omega)
        have hk6 : k ≤ 65536 := Nat.le_trans (Nat.le_mul_of_pos_right _ hpos) hkk.out
        clear hLk
        obtain ⟨g, rfl⟩ : ∃ g, gk = g + 1 := ⟨gk - 1, by omega⟩
        have hne : repeatL s.data.toList k ++ s.data.toList = repeatL s.data.toList (k + 1) := by rw [repeatL_add, repeatL_one]
        have hl2 : (repeatL s.data.toList (k + 1)).length = L + s.size := by rw [← hne, List.length_append, hL, hlen]
        go_wp2_with (at_builtin; refine Lib.wpList_append_own_string _ rfl _ _ 56 9 rfl w.heap.size 5 i5 Try.underlying56 Try.underlying9 hi5 hy0 hy1 hy2 (.slice ao L cc) L _ rfl hown s rfl (by unfold maxLen; omega) (by omega) hbx.size ?_; intro v' w2 hown2 hgrow _)
        go_roundg g
        case measure => omega
        case rel =>
          refine ⟨k + 1, rfl, by omega, ?_, hbx.grown hgrow hbx.size (fun q hq => (hown.lt q hq).1), .inr (by simpa using hkk.out)⟩
          rw [hl2, ← hne, Lib.byteCells_append, ← Lib.strCells_eq]
          exact hown2
      · have hb1 : ¬ (L : Int) ≤ 65536 := by omega
        have hcv := conv_own (w := wr) (l := repeatL s.data.toList k) (v := .slice ao L cc) (by rw [hL]; exact hown)
        have HE := Lib.hid (HF.out k (by omega) hprev (.inr (by omega)))
        clear HF hown hL hLk
        go_wp2_with (go_at_call 68; refine (long_any _ _).mono ?_; rintro e w' ⟨rfl, rfl⟩)
        go_ret2
        exact ⟨by rw [← HE.out.1, ← HE.out.2]; rfl, hbx⟩
    · have hk1 : ¬ (k : Int) < (n : Int) := by omega
      have hcv := conv_own (w := wr) (l := repeatL s.data.toList k) (v := .slice ao L cc) (by rw [hL]; exact hown)
      have HE := Lib.hid (HF.out k (by omega) hprev (.inl (by omega)))
      clear HF hown hL hLk
      go_wp2_with (go_at_call 68; refine (long_any _ _).mono ?_; rintro e w' ⟨rfl, rfl⟩)
      go_ret2
      exact ⟨by rw [← HE.out.1, ← HE.out.2]; rfl, hbx⟩
theorem refRepeat_any (s : ByteArray) (n : Int) (w : World) (hs : s.size ≤ 400) :
    Calls Try.prog 40 #[.string s, .int .i64 n] w fun e w' => e = .returned (.tuple #[.string ⟨(repText s.data.toList n).toArray⟩, .int .i64 (repErr s.data.toList n)]) ∧ Below w.heap.size w w' := by
  by_cases h : s.data.toList = [] ∨ n < 1
  · refine (refRepeat_none s n w h).mono ?_
    rintro e w' ⟨rfl, rfl⟩
    refine ⟨?_, Below.refl _ _⟩
    have h1 : repText s.data.toList n = [] := by
      unfold repText
      rcases h with h | h
      · rw [h]; simp [repeatL_nil]
      · rw [show n.toNat = 0 by omega]; simp [repeatL]
    have h2 : repErr s.data.toList n = 0 := by
      unfold repErr
      rcases h with h | h
      · rw [h]; simp
      · rw [show n.toNat = 0 by omega]; simp
    rw [h1, h2]
  · have hne : s.data.toList ≠ [] := fun h' => h (.inl h')
    obtain ⟨c, rfl⟩ : ∃ c : Nat, n = c := ⟨n.toNat, by omega⟩
    refine refRepeat_some s c w hs ?_ ?_
    · cases hE : s.toList.isEmpty
      · rfl
      · exact absurd ((empty_iff s).1 hE) hne
    · rcases Nat.eq_zero_or_pos s.size with h0 | h0
      · exact absurd (List.eq_nil_of_length_eq_zero (by rw [← Lib.size_eq]; exact h0)) hne
      · exact h0
end Go.Proofs.Ytneklmalkmeohaa
