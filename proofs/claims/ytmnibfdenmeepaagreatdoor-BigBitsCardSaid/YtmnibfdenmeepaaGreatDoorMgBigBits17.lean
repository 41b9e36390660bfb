/- The texts Frame, one behind the other. -/
import Derived.Test.YtmnibfdenmeepaaGreatDoorMgBigBits16
import Derived.Test.YtmnibfdenmeepaaGreatDoorRows
import Derived.Test.YtmnibfdenmeepaaGreatDoorTie
import Derived.Test.YtmnibfdenmeepaaGreatDoorCards
import Derived.ProofKit
import Derived.OpenShut
import Derived.LaidMore
import Derived.Lay
import Derived.LaidOnce
import Derived.SevenTiedAt
import Derived.Stop.Joined
import Derived.Deep.DeepHandedRow
/- The frame of the laws of layer 3: what the bound gives, the witness's world. -/
namespace Go.Proofs.YtmnibfdenmeepaaGreatDoor
open Go.ChangeShapes Go.WideShapes Go.ChangeAt Go.RowKit
open Go.ChangeMaps (open_string shut_string)

theorem Tryz.own : ownKnob Tryz.prog.godebug = none := by kernel_rfl
theorem Tryz.laidOut : laidOutB Tryz.prog = true := by kernel_rfl
theorem bulk_le {H : Type} {l : List (DataW H)} (hk : Rows.uptoSmall H l = true) : Rows.uptoBulkAll l ≤ 1048576 := of_decide_eq_true hk
end Go.Proofs.YtmnibfdenmeepaaGreatDoor
