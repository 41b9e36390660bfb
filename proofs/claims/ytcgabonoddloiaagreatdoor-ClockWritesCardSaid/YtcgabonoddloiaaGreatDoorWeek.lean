/- weekday, Weekday, yearday, week of the program. -/
import Derived.Test.YtcgabonoddloiaaGreatDoorAt
namespace Go.Proofs.YtcgabonoddloiaaGreatDoor
open Go.RowKit Clk

set_option maxHeartbeats 400000 in
theorem weekday_any (n : Int) (w : World) (h1 : -100000000 ≤ n) (h2 : n ≤ 100000000) :
    Calls Tryz.prog 47 #[.int .i64 n] w fun e w' => e = .returned (.int .i64 ((n + 3) % 7 + 1)) ∧ w = w' := by
  go_enter Tryz.func47, Tryz.ntmps47
  go_wp2_with (go_at_call 48; refine (floor_any _ _ _ (by omega) (by omega) (by omega) (by omega)).mono ?_; rintro e w' ⟨rfl, rfl⟩)
  go_ret
  exact ⟨ret_int (by omega), rfl⟩

set_option maxHeartbeats 400000 in
theorem Weekday_ok (t : Int) (w : World) (h : isT t = true) :
    Calls Tryz.prog 18 #[.int .i64 t] w fun e w' => e = .returned (.tuple #[.int .i64 ((t / 86400 + 3) % 7 + 1), .int .i64 0]) ∧ w = w' := by
  have hb := isT_iff.1 h
  go_enter Tryz.func18, Tryz.ntmps18
  go_wp2_with (first | (go_at_call 34; refine (isTime_any _ _).mono ?_; rintro e w' ⟨rfl, rfl⟩; rw [h]) | (go_at_call 48; refine (floor_any _ _ _ (by omega) (by omega) (by omega) (by omega)).mono ?_; rintro e w' ⟨rfl, rfl⟩) | (go_at_call 47; refine (weekday_any _ _ (by omega) (by omega)).mono ?_; rintro e w' ⟨rfl, rfl⟩))
  go_ret2
  exact ⟨rfl, rfl⟩

set_option maxHeartbeats 400000 in
theorem Weekday_no (t : Int) (w : World) (h : isT t = false) :
    Calls Tryz.prog 18 #[.int .i64 t] w fun e w' => e = .returned (.tuple #[.int .i64 0, .int .i64 7]) ∧ w = w' := by
  go_enter Tryz.func18, Tryz.ntmps18
  go_wp2_with (first | (go_at_call 34; refine (isTime_any _ _).mono ?_; rintro e w' ⟨rfl, rfl⟩; rw [h]))
  go_ret2
  exact ⟨rfl, rfl⟩
end Go.Proofs.YtcgabonoddloiaaGreatDoor
