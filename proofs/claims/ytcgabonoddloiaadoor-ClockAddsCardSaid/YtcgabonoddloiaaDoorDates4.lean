/- Valid and Time of the reference. -/
import Derived.Test.YtcgabonoddloiaaDoorDates3
namespace Go.Proofs.YtcgabonoddloiaaDoor
open Go.RowKit Clk

/-- 'in' with a known answer. -/
theorem in_is (n lo hi : Int) (b : Bool) (w : World) (hb : (decide (lo ≤ n) && decide (n ≤ hi)) = b) :
    Calls Tryd.prog 20 #[.int .i64 n, .int .i64 lo, .int .i64 hi] w fun e w' => e = .returned (.bool b) ∧ w' = w :=
  (in_any n lo hi w).mono fun _ _ h => ⟨by rw [← hb]; exact h.1, h.2.symm⟩

end Go.Proofs.YtcgabonoddloiaaDoor
