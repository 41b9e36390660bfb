/- Leap and Days of both, Valid and Time of the reference. -/
import Derived.Test.YtcgabonoddloiaaGreatDoorDates2
namespace Go.Proofs.YtcgabonoddloiaaGreatDoor
open Go.RowKit Clk

set_option maxHeartbeats 400000 in
theorem Leap_any (y : Int) (w : World) :
    Calls Tryz.prog 11 #[.int .i64 y] w fun e w' => e = .returned (.tuple #[.bool (isY y && lpB y), .int .i64 (if isY y then 0 else 7)]) ∧ w = w' := by
  cases hy : isY y
  · go_enter Tryz.func11, Tryz.ntmps11
    go_wp2_with (first | (go_at_call 40; refine (isYear_any _ _).mono ?_; rintro e w' ⟨rfl, rfl⟩; rw [hy]))
    go_ret2
    exact ⟨rfl, rfl⟩
  · have hb := isY_iff.1 hy
    go_enter Tryz.func11, Tryz.ntmps11
    go_wp2_with (first | (go_at_call 40; refine (isYear_any _ _).mono ?_; rintro e w' ⟨rfl, rfl⟩; rw [hy]) | (go_at_call 41; refine (leap_any _ _ (by omega) (by omega)).mono ?_; rintro e w' ⟨rfl, rfl⟩))
    go_ret2
    exact ⟨rfl, rfl⟩

set_option maxHeartbeats 400000 in
theorem refLeapE_any (y : Int) (w : World) :
    Calls Tryz.prog 12 #[.int .i64 y] w fun e w' => e = .returned (.tuple #[.bool (isY y && lpB y), .int .i64 (if isY y then 0 else 7)]) ∧ w = w' := by
  have hi : (decide (1 ≤ y) && decide (y ≤ 9999)) = isY y := rfl
  cases hy : isY y
  · rw [hy] at hi
    go_enter Tryz.func12, Tryz.ntmps12
    go_wp2_with (first | (go_at_call 42; refine (in_any _ _ _ _).mono ?_; rintro e w' ⟨rfl, rfl⟩; rw [hi]))
    go_ret2
    exact ⟨rfl, rfl⟩
  · have hb := isY_iff.1 hy
    rw [hy] at hi
    go_enter Tryz.func12, Tryz.ntmps12
    go_wp2_with (first | (go_at_call 42; refine (in_any _ _ _ _).mono ?_; rintro e w' ⟨rfl, rfl⟩; rw [hi]) | (go_at_call 43; refine (refLeap_any _ _ (by omega) (by omega)).mono ?_; rintro e w' ⟨rfl, rfl⟩))
    go_ret2
    exact ⟨rfl, rfl⟩

/-- Is it a month of a year? -/
def ymB (y m : Int) : Bool := isY y && (decide (1 ≤ m) && decide (m ≤ 12))

theorem ym_split (y m : Int) : ymB y m = (isY y && (decide (1 ≤ m) && decide (m ≤ 12))) := rfl

set_option maxHeartbeats 800000 in
theorem Days_yes (y m : Int) (w : World) (h : ymB y m = true) :
    Calls Tryz.prog 13 #[.int .i64 y, .int .i64 m] w fun e w' => e = .returned (.tuple #[.int .i64 (dim y m), .int .i64 0]) ∧ w = w' := by
  rw [ym_split] at h
  simp only [Bool.and_eq_true, decide_eq_true_eq] at h
  obtain ⟨hy, m1, m2⟩ := h
  have hb := isY_iff.1 hy
  go_enter Tryz.func13, Tryz.ntmps13
  go_wp2_with (first | (go_at_call 40; refine (isYear_any _ _).mono ?_; rintro e w' ⟨rfl, rfl⟩; rw [hy]) | (go_at_call 44; refine (daysIn_any _ _ _ (by omega) (by omega)).mono ?_; rintro e w' ⟨rfl, rfl⟩))
  go_ret2
  exact ⟨rfl, rfl⟩

set_option maxHeartbeats 800000 in
theorem Days_no (y m : Int) (w : World) (h : ymB y m = false) :
    Calls Tryz.prog 13 #[.int .i64 y, .int .i64 m] w fun e w' => e = .returned (.tuple #[.int .i64 0, .int .i64 7]) ∧ w = w' := by
  rw [ym_split] at h
  cases hy : isY y
  · clear h
    go_enter Tryz.func13, Tryz.ntmps13
    go_wp2_with (first | (go_at_call 40; refine (isYear_any _ _).mono ?_; rintro e w' ⟨rfl, rfl⟩; rw [hy]))
    go_ret2
    exact ⟨rfl, rfl⟩
  · rw [hy, Bool.true_and] at h
    by_cases m1 : m < 1
    · clear h
      go_enter Tryz.func13, Tryz.ntmps13
      go_wp2_with (first | (go_at_call 40; refine (isYear_any _ _).mono ?_; rintro e w' ⟨rfl, rfl⟩; rw [hy]))
      go_ret2
      exact ⟨rfl, rfl⟩
    · have m2 : 12 < m := by
        have : decide (1 ≤ m) = true := by simp; omega
        rw [this, Bool.true_and] at h
        simpa using h
      clear h
      go_enter Tryz.func13, Tryz.ntmps13
      go_wp2_with (first | (go_at_call 40; refine (isYear_any _ _).mono ?_; rintro e w' ⟨rfl, rfl⟩; rw [hy]))
      go_ret2
      exact ⟨rfl, rfl⟩

set_option maxHeartbeats 800000 in
theorem refDays_yes (y m : Int) (w : World) (h : ymB y m = true) :
    Calls Tryz.prog 14 #[.int .i64 y, .int .i64 m] w fun e w' => e = .returned (.tuple #[.int .i64 (dim y m), .int .i64 0]) ∧ w = w' := by
  have hi : (decide (1 ≤ y) && decide (y ≤ 9999)) = isY y := rfl
  rw [ym_split, Bool.and_eq_true] at h
  obtain ⟨hy, hm⟩ := h
  have hb := isY_iff.1 hy
  rw [hy] at hi
  go_enter Tryz.func14, Tryz.ntmps14
  go_wp2_with (first | (go_at_call 42; refine (in_any _ _ _ _).mono ?_; rintro e w' ⟨rfl, rfl⟩; first | rw [hi] | rw [hm]) | (go_at_call 45; refine (refLength_any _ _ _ (by omega) (by omega)).mono ?_; rintro e w' ⟨rfl, rfl⟩))
  go_ret2
  exact ⟨rfl, rfl⟩

set_option maxHeartbeats 800000 in
theorem refDays_no (y m : Int) (w : World) (h : ymB y m = false) :
    Calls Tryz.prog 14 #[.int .i64 y, .int .i64 m] w fun e w' => e = .returned (.tuple #[.int .i64 0, .int .i64 7]) ∧ w = w' := by
  have hi : (decide (1 ≤ y) && decide (y ≤ 9999)) = isY y := rfl
  rw [ym_split] at h
  cases hy : isY y
  · rw [hy] at hi
    clear h
    go_enter Tryz.func14, Tryz.ntmps14
    go_wp2_with (first | (go_at_call 42; refine (in_any _ _ _ _).mono ?_; rintro e w' ⟨rfl, rfl⟩; rw [hi]))
    go_ret2
    exact ⟨rfl, rfl⟩
  · rw [hy, Bool.true_and] at h
    rw [hy] at hi
    go_enter Tryz.func14, Tryz.ntmps14
    go_wp2_with (first | (go_at_call 42; refine (in_any _ _ _ _).mono ?_; rintro e w' ⟨rfl, rfl⟩; first | rw [hi] | rw [h]))
    go_ret2
    exact ⟨rfl, rfl⟩

end Go.Proofs.YtcgabonoddloiaaGreatDoor
