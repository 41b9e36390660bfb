/-
  No cell of these rows narrows 'for every input' (looked for: loops, veiled, ifaces, maps, wideKeys, modest, calm, conditions, laid).
  DERIVED. THE GIVEN ROWS OF THIS SEAT. 2 by the template 'for every input the law returns true; each argument reads behind the call as it read before'; 0 by the template 'total and deterministic' (their statements: YtcnmblfdieegfaaTotals.lean).
  GIVEN WITH THE SEED: the statements are not yours to turn. If you find one false, say at which input.
  Laid BY PROGRAM, IN A SANDBOX (cutbox-rows.mjs): the forced cells as the released guide's own fill.sh prints them over the translation d571c916ae32c72b… (all of the seat's roots in one cut). By AI agents, Wed Nov 11 2026. No macro, syntax, notation, axiom, sorry.
-/
import Derived.Test.YtcnmblfdieegfaaChecked
import GoSem.Claim
import GoSem.ClaimJoined
import GoSem.ClaimMapViews
import Derived.JoinedTies
import Derived.KernelRfl
namespace Go.Proofs.Ytcnmblfdieegfaa
/- THE CELL 'sum', in the pinned program and in every row, IS THE sha256 OF THE DUMP (.gsa) THAT YtcnmblfdieegfaaProg.lean LOADS. Nothing in Lean hashes anything: it is a label: what it is worth is what the hold of that sum in a sandbox is worth. -/
noncomputable def Try.pinned : Pinned := { name := "ytcnmblfdieegfaa", sum := "d571c916ae32c72bed45904ca0cd5032966416523740ea4e7c021493c5aed0b0", checked := Try.checked }
namespace Rows
def none {H : Type} : Left H := { results := [], args := [] }

/-- 'threadbarelaw15.VarsSplits': WHATEVER THE INPUT: true; the input reads as it did. -/
def varsSplitsSpec : ChangeSpec := { name := "varsSplits", fn := fun _ => fun
  | [d] => { results := [.lit (.bool true)], args := [d] }
  | _ => none }
def varsSplitsRow : OpenClaim := { program := "ytcnmblfdieegfaa", sum := "d571c916ae32c72bed45904ca0cd5032966416523740ea4e7c021493c5aed0b0", func := "threadbare/threadbarelaw15.VarsSplits", spec := "varsSplits", inPlace := ["internal/bytealg.IndexByteString"], apart := false }
def VarsSplitsSaid : Prop := varsSplitsRow.holds Try.pinned (OpenSpec.ofChange varsSplitsSpec)

/-- ITS FALSE NEIGHBOUR: 'it returns false'. Refute it at one input. -/
def varsSplitsWrong : ChangeSpec := { name := "varsSplits", fn := fun _ => fun
  | [d] => { results := [.lit (.bool false)], args := [d] }
  | _ => none }
def VarsSplitsWrongFalsely : Prop := varsSplitsRow.holds Try.pinned (OpenSpec.ofChange varsSplitsWrong)

/-- 'threadbarelaw16.NamesPaths': WHATEVER THE INPUT: true; the input reads as it did. -/
def namesPathsSpec : ChangeSpec := { name := "namesPaths", fn := fun _ => fun
  | [d1, d2] => { results := [.lit (.bool true)], args := [d1, d2] }
  | _ => none }
def namesPathsRow : OpenClaim := { program := "ytcnmblfdieegfaa", sum := "d571c916ae32c72bed45904ca0cd5032966416523740ea4e7c021493c5aed0b0", func := "threadbare/threadbarelaw16.NamesPaths", spec := "namesPaths", inPlace := ["internal/abi.NoEscape", "internal/bytealg.MakeNoZero"], apart := false }
def NamesPathsSaid : Prop := namesPathsRow.holds Try.pinned (OpenSpec.ofChange namesPathsSpec)

/-- ITS FALSE NEIGHBOUR: 'it returns false'. Refute it at one input. -/
def namesPathsWrong : ChangeSpec := { name := "namesPaths", fn := fun _ => fun
  | [d1, d2] => { results := [.lit (.bool false)], args := [d1, d2] }
  | _ => none }
def NamesPathsWrongFalsely : Prop := namesPathsRow.holds Try.pinned (OpenSpec.ofChange namesPathsWrong)

/- THE SECOND FORM. 'bulk': how many values and letters a reading holds, each counted each time it is reached (what is shared counts as often as it is met; a slice's spare places count too). A statement '..UptoSaid' is the law's where the arguments, and the package variables that the reading takes, are together of bulk at most 1048576: NARROWER than '..Said'. Prove '..Said' where nothing that the law and all that it calls make is longer than what came in: it says more and counts as full. Else prove '..UptoSaid'. A law counts once. -/
mutual
def uptoBulk {H : Type} : DataW H → Nat
  | .lit (.string bytes) => bytes.length + 1
  | .lit _ => 1
  | .nil => 1
  | .ptr d => uptoBulk d + 1
  | .slice elems spare => uptoBulkAll elems + uptoBulkAll spare + 1
  | .agg parts => uptoBulkAll parts + 1
  | .iface _ d => uptoBulk d + 1
  | .map entries => uptoBulkEntries entries + 1
  | .held _ => 1
def uptoBulkAll {H : Type} : List (DataW H) → Nat
  | [] => 0
  | d :: r => uptoBulk d + uptoBulkAll r
def uptoBulkEntries {H : Type} : List (Lit × DataW H) → Nat
  | [] => 0
  | x :: r => uptoBulkEntry x + uptoBulkEntries r
def uptoBulkEntry {H : Type} : Lit × DataW H → Nat
  | (.string bytes, d) => bytes.length + uptoBulk d + 1
  | (_, d) => uptoBulk d + 1
 end
def uptoSmall : (H : Type) → List (DataW H) → Bool := fun _ ds => decide (uptoBulkAll ds ≤ 1048576)
def OpenSpec.upto (s : _root_.Go.ChangeSpec) : _root_.Go.OpenSpec := { _root_.Go.OpenSpec.ofChange s with cond := some uptoSmall }

/-- 'threadbarelaw15.VarsSplits', WHERE WHAT IT READS IS OF BULK AT MOST 1048576: true; the input reads as it did. -/
def varsSplitsUptoRow : OpenClaim := { program := "ytcnmblfdieegfaa", sum := "d571c916ae32c72bed45904ca0cd5032966416523740ea4e7c021493c5aed0b0", func := "threadbare/threadbarelaw15.VarsSplits", spec := "varsSplits", inPlace := ["internal/bytealg.IndexByteString"], apart := false, narrowed := true }
def VarsSplitsUptoSaid : Prop := varsSplitsUptoRow.holds Try.pinned (OpenSpec.upto varsSplitsSpec)

/-- 'threadbarelaw16.NamesPaths', WHERE WHAT IT READS IS OF BULK AT MOST 1048576: true; the input reads as it did. -/
def namesPathsUptoRow : OpenClaim := { program := "ytcnmblfdieegfaa", sum := "d571c916ae32c72bed45904ca0cd5032966416523740ea4e7c021493c5aed0b0", func := "threadbare/threadbarelaw16.NamesPaths", spec := "namesPaths", inPlace := ["internal/abi.NoEscape", "internal/bytealg.MakeNoZero"], apart := false, narrowed := true }
def NamesPathsUptoSaid : Prop := namesPathsUptoRow.holds Try.pinned (OpenSpec.upto namesPathsSpec)

end Rows
end Go.Proofs.Ytcnmblfdieegfaa
