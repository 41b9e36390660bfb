/- The texts Frame, one behind the other. -/
import Derived.Test.YtmnibfdenmeepaaDoorMgBigTimes17
import Derived.Test.YtmnibfdenmeepaaDoorRows
import Derived.Test.YtmnibfdenmeepaaDoorTie
import Derived.Test.YtmnibfdenmeepaaDoorCards
import Derived.ProofKit
import Derived.OpenShut
import Derived.LaidMore
import Derived.Lay
import Derived.LaidOnce
import Derived.SevenTiedAt
import Derived.Stop.Joined
import Derived.Deep.DeepHandedRow
/- The frame of the laws of layer 3: what the bound gives, the witness's world. -/
namespace Go.Proofs.YtmnibfdenmeepaaDoor
open Go.ChangeShapes Go.WideShapes Go.ChangeAt Go.RowKit
open Go.ChangeMaps (open_string shut_string)

theorem Tryd.own : ownKnob Tryd.prog.godebug = none := by kernel_rfl
theorem Tryd.laidOut : laidOutB Tryd.prog = true := by kernel_rfl
theorem bulk_le {H : Type} {l : List (DataW H)} (hk : Rows.uptoSmall H l = true) : Rows.uptoBulkAll l ≤ 1048576 := of_decide_eq_true hk
end Go.Proofs.YtmnibfdenmeepaaDoor
