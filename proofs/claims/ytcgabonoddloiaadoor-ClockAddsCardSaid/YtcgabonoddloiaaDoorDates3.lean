/- Leap and Days of both, Valid and Time of the reference. -/
import Derived.Test.YtcgabonoddloiaaDoorDates2
namespace Go.Proofs.YtcgabonoddloiaaDoor
open Go.RowKit Clk
/-- Is it a month of a year? -/
def ymB (y m : Int) : Bool := isY y && (decide (1 ≤ m) && decide (m ≤ 12))

theorem ym_split (y m : Int) : ymB y m = (isY y && (decide (1 ≤ m) && decide (m ≤ 12))) := rfl

end Go.Proofs.YtcgabonoddloiaaDoor
