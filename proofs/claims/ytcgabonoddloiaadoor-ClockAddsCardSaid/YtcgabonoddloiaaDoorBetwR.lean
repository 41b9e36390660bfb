/- Between of the reference, of a time and one not ahead of it. -/
import Derived.Test.YtcgabonoddloiaaDoorBetwP
namespace Go.Proofs.YtcgabonoddloiaaDoor
open Go.RowKit Clk
end Go.Proofs.YtcgabonoddloiaaDoor
