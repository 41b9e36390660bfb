/- Start of the reference. -/
import Derived.Test.YtcgabonoddloiaaDoorStart
import Derived.Test.YtcgabonoddloiaaDoorRefUnits
namespace Go.Proofs.YtcgabonoddloiaaDoor
open Go.RowKit Clk
end Go.Proofs.YtcgabonoddloiaaDoor
