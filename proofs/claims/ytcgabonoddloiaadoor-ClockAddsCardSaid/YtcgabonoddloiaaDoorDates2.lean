/- Time, Leap, Days of the program; right, Date, Valid, Time, Leap, Days of the reference. -/
import Derived.Test.YtcgabonoddloiaaDoorDates
import Derived.Test.YtcgabonoddloiaaDoorRefDate
namespace Go.Proofs.YtcgabonoddloiaaDoor
open Go.RowKit Clk

theorem vB_iff {y m d h i s : Int} : vB y m d h i s = true ↔ 1 ≤ y ∧ y ≤ 9999 ∧ 1 ≤ m ∧ m ≤ 12 ∧ 1 ≤ d ∧ d ≤ dim y m ∧ 0 ≤ h ∧ h ≤ 23 ∧ 0 ≤ i ∧ i ≤ 59 ∧ 0 ≤ s ∧ s ≤ 59 := by simp [vB]

/-- The time of a date. -/
def tOf (y m d h i s : Int) : Int := dTo y m d * 86400 + h * 3600 + i * 60 + s

/-- The program's leap answers the same. -/
theorem leap_any (y : Int) (w : World) (h1 : 0 ≤ y) (h2 : y ≤ 100000) :
    Calls Tryd.prog 36 #[.int .i64 y] w fun e w' => e = .returned (.bool (lpB y)) ∧ w = w' := by
  by_cases a : y % 4 = 0
  · by_cases b : y % 100 = 0
    · by_cases c : y % 400 = 0
      · have H := Lib.hid (lp_yes ⟨a, .inr c⟩)
        go_enter Tryd.func36, Tryd.ntmps36
        go_wp2
        go_ret
        exact ⟨by rw [H.out]; simp [c], rfl⟩
      · have H := Lib.hid (lp_no (y := y) (by omega))
        go_enter Tryd.func36, Tryd.ntmps36
        go_wp2
        go_ret
        exact ⟨by rw [H.out]; simp [c], rfl⟩
    · have H := Lib.hid (lp_yes ⟨a, .inl b⟩)
      go_enter Tryd.func36, Tryd.ntmps36
      go_wp2
      go_ret
      exact ⟨by rw [H.out]; simp, rfl⟩
  · have H := Lib.hid (lp_no (y := y) (by omega))
    have c : ¬ y % 400 = 0 := by omega
    go_enter Tryd.func36, Tryd.ntmps36
    go_wp2
    go_ret
    exact ⟨by rw [H.out]; simp, rfl⟩

set_option maxHeartbeats 400000 in
theorem daysIn_any (y m : Int) (w : World) (h1 : 0 ≤ y) (h2 : y ≤ 100000) :
    Calls Tryd.prog 30 #[.int .i64 y, .int .i64 m] w fun e w' => e = .returned (.int .i64 (dim y m)) ∧ w = w' := by
  by_cases hm : m = 2
  · subst hm
    cases hb : lpB y
    all_goals
      have H := Lib.hid (dim_2 hb)
      go_enter Tryd.func30, Tryd.ntmps30
      go_wp2_with (go_at_call 36; refine (leap_any _ _ h1 h2).mono ?_; rintro e w' ⟨rfl, rfl⟩; rw [hb])
      go_ret
      exact ⟨by rw [H.out]; rfl, rfl⟩
  · by_cases h4 : m = 4 ∨ m = 6 ∨ m = 9 ∨ m = 11
    · have H := Lib.hid (show dim y m = 30 by unfold dim; rw [if_neg hm, if_pos h4])
      rcases h4 with rfl | rfl | rfl | rfl
      all_goals
        go_enter Tryd.func30, Tryd.ntmps30
        go_wp2
        go_ret
        exact ⟨by rw [H.out]; rfl, rfl⟩
    · have H := Lib.hid (show dim y m = 31 by unfold dim; rw [if_neg hm, if_neg h4])
      have a0 : (m == 2) = false := by simpa using hm
      have a1 : (m == 4) = false := by simp; omega
      have a2 : (m == 6) = false := by simp; omega
      have a3 : (m == 9) = false := by simp; omega
      have a4 : (m == 11) = false := by simp; omega
      clear hm h4
      go_enter Tryd.func30, Tryd.ntmps30
      go_wp2
      go_ret
      exact ⟨by rw [H.out]; rfl, rfl⟩
end Go.Proofs.YtcgabonoddloiaaDoor
