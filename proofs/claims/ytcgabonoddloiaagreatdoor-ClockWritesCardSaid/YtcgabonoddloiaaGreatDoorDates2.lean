/- Time, Leap, Days of the program; right, Date, Valid, Time, Leap, Days of the reference. -/
import Derived.Test.YtcgabonoddloiaaGreatDoorDates
import Derived.Test.YtcgabonoddloiaaGreatDoorRefDate
namespace Go.Proofs.YtcgabonoddloiaaGreatDoor
open Go.RowKit Clk

theorem vB_iff {y m d h i s : Int} : vB y m d h i s = true ↔ 1 ≤ y ∧ y ≤ 9999 ∧ 1 ≤ m ∧ m ≤ 12 ∧ 1 ≤ d ∧ d ≤ dim y m ∧ 0 ≤ h ∧ h ≤ 23 ∧ 0 ≤ i ∧ i ≤ 59 ∧ 0 ≤ s ∧ s ≤ 59 := by simp [vB]

/-- The time of a date. -/
def tOf (y m d h i s : Int) : Int := dTo y m d * 86400 + h * 3600 + i * 60 + s

set_option maxRecDepth 100000 in
set_option maxHeartbeats 800000 in
theorem time_ok (y m d h i s : Int) (w : World) (hv : vB y m d h i s = true) :
    Calls Tryz.prog 9 #[.agg #[.int .i64 y, .int .i64 m, .int .i64 d, .int .i64 h, .int .i64 i, .int .i64 s]] w fun e w' => e = .returned (.tuple #[.int .i64 (tOf y m d h i s), .int .i64 0]) ∧ Below w.heap.size w w' := by
  obtain ⟨y1, y2, m1, m2, d1, d2, h1, h2, i1, i2, s1, s2⟩ := vB_iff.1 hv
  have hd := (dim_bd y m).2
  have hT := fun w => timeOf_any y m d h i s w (by omega) (by omega) m1 m2 (by omega) (by omega) h1 (by omega) i1 (by omega) s1 (by omega)
  obtain ⟨T, hTT⟩ : ∃ T, tOf y m d h i s = T := ⟨_, rfl⟩
  have hTT' : dTo y m d * 86400 + h * 3600 + i * 60 + s = T := hTT
  rw [hTT'] at hT
  rw [hTT]
  have HT := Lib.hid hT
  have HV := Lib.hid (fun w => valid_any y m d h i s w)
  clear hT hTT hTT' hd
  go_enter Tryz.func9, Tryz.ntmps9
  go_wp2_with fail
  refine (HV.out _).mono ?_
  rintro e w1 ⟨rfl, hb1⟩
  rw [hv]
  obtain ⟨hc, hf⟩ := bcell hb1
  have hz : w.heap.size < w1.heap.size := by have := hb1.size; simp at this; omega
  go_wp2_with fail
  refine (HT.out _).mono ?_
  rintro e w2 ⟨rfl, hb2⟩
  go_wp2
  go_ret2
  exact ⟨rfl, (((Below.refl w.heap.size w).alloc (Nat.le_refl _) _).trans (hb1.mono (by simp))).trans (hb2.mono (by omega))⟩

set_option maxRecDepth 100000 in
set_option maxHeartbeats 800000 in
theorem time_no (y m d h i s : Int) (w : World) (hv : vB y m d h i s = false) :
    Calls Tryz.prog 9 #[.agg #[.int .i64 y, .int .i64 m, .int .i64 d, .int .i64 h, .int .i64 i, .int .i64 s]] w fun e w' => e = .returned (.tuple #[.int .i64 0, .int .i64 1]) ∧ Below w.heap.size w w' := by
  go_enter Tryz.func9, Tryz.ntmps9
  go_wp2_with fail
  refine (valid_any y m d h i s _).mono ?_
  rintro e w1 ⟨rfl, hb1⟩
  rw [hv]
  go_wp2
  go_ret2
  exact ⟨rfl, ((Below.refl w.heap.size w).alloc (Nat.le_refl _) _).trans (hb1.mono (by simp))⟩

set_option maxHeartbeats 400000 in
theorem refRight_any (t : Int) (w : World) :
    Calls Tryz.prog 36 #[.int .i64 t] w fun e w' => e = .returned (.bool (isT t)) ∧ w = w' := by
  have H : Hid (isT t = (decide (-62135596800 ≤ t) && decide (t ≤ 253402300799))) := Lib.hid rfl
  go_enter Tryz.func36, Tryz.ntmps36
  go_wp2_with (go_at_call 42; refine (in_any _ _ _ _).mono ?_; rintro e w' ⟨rfl, rfl⟩; rw [← H.out])
  go_ret
  exact ⟨rfl, rfl⟩

set_option maxHeartbeats 800000 in
theorem refDate_ok (t Y M D h i s : Int) (w : World) (A : AtIs t Y M D h i s) (ht : isT t = true) :
    Calls Tryz.prog 8 #[.int .i64 t] w fun e w' => e = .returned (.tuple #[.agg #[.int .i64 Y, .int .i64 M, .int .i64 D, .int .i64 h, .int .i64 i, .int .i64 s], .int .i64 0]) ∧ Below w.heap.size w w' := by
  have hb := isT_iff.1 ht
  go_enter Tryz.func8, Tryz.ntmps8
  go_wp2_with (first | (go_at_call 36; refine (refRight_any _ _).mono ?_; rintro e w' ⟨rfl, rfl⟩; rw [ht]) | (go_at_call 37; refine (refDate_any _ _ _ _ _ _ _ _ A (by omega) (by omega)).mono ?_; rintro e w1 ⟨rfl, hb1⟩; obtain ⟨hc, hf⟩ := bcell hb1; have hz : w.heap.size < w1.heap.size := by have := hb1.size; simp at this; omega))
  refine bodyPost_ret (v := .tuple #[.agg #[.int .i64 Y, .int .i64 M, .int .i64 D, .int .i64 h, .int .i64 i, .int .i64 s], .int .i64 0]) ?_ rfl ⟨rfl, ?_⟩
  · simp [results, Tryz.results8, go_sem, hc]
  · have h0 := ((Below.refl w.heap.size w).alloc (Nat.le_refl _) (.cells #[.int .i64 0, .int .i64 0, .int .i64 0, .int .i64 0, .int .i64 0, .int .i64 0] 23)).trans (hb1.mono (by simp))
    exact (((((h0.setCell (by simp) _).setCell (by simp) _).setCell (by simp) _).setCell (by simp) _).setCell (by simp) _).setCell (by simp) _

set_option maxHeartbeats 800000 in
theorem refDate_no (t : Int) (w : World) (ht : isT t = false) :
    Calls Tryz.prog 8 #[.int .i64 t] w fun e w' => e = .returned (.tuple #[.agg #[.int .i64 0, .int .i64 0, .int .i64 0, .int .i64 0, .int .i64 0, .int .i64 0], .int .i64 7]) ∧ Below w.heap.size w w' := by
  go_enter Tryz.func8, Tryz.ntmps8
  go_wp2_with (first | (go_at_call 36; refine (refRight_any _ _).mono ?_; rintro e w' ⟨rfl, rfl⟩; rw [ht]))
  refine bodyPost_ret (v := .tuple #[.agg #[.int .i64 0, .int .i64 0, .int .i64 0, .int .i64 0, .int .i64 0, .int .i64 0], .int .i64 7]) ?_ rfl ⟨rfl, ?_⟩
  · simp [results, Tryz.results8, go_sem]
  · exact (Below.refl w.heap.size w).alloc (Nat.le_refl _) _

/-- The program's leap answers the same. -/
theorem leap_any (y : Int) (w : World) (h1 : 0 ≤ y) (h2 : y ≤ 100000) :
    Calls Tryz.prog 41 #[.int .i64 y] w fun e w' => e = .returned (.bool (lpB y)) ∧ w = w' := by
  by_cases a : y % 4 = 0
  · by_cases b : y % 100 = 0
    · by_cases c : y % 400 = 0
      · have H := Lib.hid (lp_yes ⟨a, .inr c⟩)
        go_enter Tryz.func41, Tryz.ntmps41
        go_wp2
        go_ret
        exact ⟨by rw [H.out]; simp [c], rfl⟩
      · have H := Lib.hid (lp_no (y := y) (by omega))
        go_enter Tryz.func41, Tryz.ntmps41
        go_wp2
        go_ret
        exact ⟨by rw [H.out]; simp [c], rfl⟩
    · have H := Lib.hid (lp_yes ⟨a, .inl b⟩)
      go_enter Tryz.func41, Tryz.ntmps41
      go_wp2
      go_ret
      exact ⟨by rw [H.out]; simp, rfl⟩
  · have H := Lib.hid (lp_no (y := y) (by omega))
    have c : ¬ y % 400 = 0 := by omega
    go_enter Tryz.func41, Tryz.ntmps41
    go_wp2
    go_ret
    exact ⟨by rw [H.out]; simp, rfl⟩

set_option maxHeartbeats 400000 in
theorem daysIn_any (y m : Int) (w : World) (h1 : 0 ≤ y) (h2 : y ≤ 100000) :
    Calls Tryz.prog 44 #[.int .i64 y, .int .i64 m] w fun e w' => e = .returned (.int .i64 (dim y m)) ∧ w = w' := by
  by_cases hm : m = 2
  · subst hm
    cases hb : lpB y
    all_goals
      have H := Lib.hid (dim_2 hb)
      go_enter Tryz.func44, Tryz.ntmps44
      go_wp2_with (go_at_call 41; refine (leap_any _ _ h1 h2).mono ?_; rintro e w' ⟨rfl, rfl⟩; rw [hb])
      go_ret
      exact ⟨by rw [H.out]; rfl, rfl⟩
  · by_cases h4 : m = 4 ∨ m = 6 ∨ m = 9 ∨ m = 11
    · have H := Lib.hid (show dim y m = 30 by unfold dim; rw [if_neg hm, if_pos h4])
      rcases h4 with rfl | rfl | rfl | rfl
      all_goals
        go_enter Tryz.func44, Tryz.ntmps44
        go_wp2
        go_ret
        exact ⟨by rw [H.out]; rfl, rfl⟩
    · have H := Lib.hid (show dim y m = 31 by unfold dim; rw [if_neg hm, if_neg h4])
      have a0 : (m == 2) = false := by simpa using hm
      have a1 : (m == 4) = false := by simp; omega
      have a2 : (m == 6) = false := by simp; omega
      have a3 : (m == 9) = false := by simp; omega
      have a4 : (m == 11) = false := by simp; omega
      clear hm h4
      go_enter Tryz.func44, Tryz.ntmps44
      go_wp2
      go_ret
      exact ⟨by rw [H.out]; rfl, rfl⟩
end Go.Proofs.YtcgabonoddloiaaGreatDoor
