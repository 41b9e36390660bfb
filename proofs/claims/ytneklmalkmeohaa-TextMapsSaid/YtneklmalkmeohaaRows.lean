/-
  No cell of these rows narrows 'for every input' (looked for: loops, veiled, ifaces, maps, wideKeys, modest, calm, conditions, laid).
  DERIVED. THE GIVEN ROWS OF THIS SEAT. 6 by the template 'for every input the law returns true; each argument reads behind the call as it read before'; 0 by the template 'total and deterministic' (their statements: YtneklmalkmeohaaTotals.lean).
  GIVEN WITH THE SEED: the statements are not yours to turn. If you find one false, say at which input.
  Laid BY PROGRAM, IN A SANDBOX (cutbox-rows.mjs): the forced cells as the released guide's own fill.sh prints them over the translation 6fc8e334660963db… (all of the seat's roots in one cut). By AI agents, Wed Nov 11 2026. No macro, syntax, notation, axiom, sorry.
-/
import Derived.Test.YtneklmalkmeohaaChecked
import GoSem.Claim
import GoSem.ClaimJoined
import GoSem.ClaimMapViews
import Derived.JoinedTies
import Derived.KernelRfl
namespace Go.Proofs.Ytneklmalkmeohaa
/- THE CELL 'sum', in the pinned program and in every row, IS THE sha256 OF THE DUMP (.gsa) THAT YtneklmalkmeohaaProg.lean LOADS. Nothing in Lean hashes anything: it is a label: what it is worth is what the hold of that sum in a sandbox is worth. -/
noncomputable def Try.pinned : Pinned := { name := "ytneklmalkmeohaa", sum := "6fc8e334660963db68a45dd737e4b142617df57a0e8a4cd42b440466c1879196", checked := Try.checked }
namespace Rows
def none {H : Type} : Left H := { results := [], args := [] }

/-- 'threadbarelaw01.TextFinds': WHATEVER THE INPUT: true; the input reads as it did. -/
def textFindsSpec : ChangeSpec := { name := "textFinds", fn := fun _ => fun
  | [d1, d2, d3] => { results := [.lit (.bool true)], args := [d1, d2, d3] }
  | _ => none }
def textFindsRow : OpenClaim := { program := "ytneklmalkmeohaa", sum := "6fc8e334660963db68a45dd737e4b142617df57a0e8a4cd42b440466c1879196", func := "threadbare/threadbarelaw01.TextFinds", spec := "textFinds", inPlace := ["internal/abi.NoEscape", "internal/bytealg.IndexByteString", "internal/bytealg.IndexString", "internal/bytealg.abigen_runtime_cmpstring", "internal/bytealg.CountString"], unfollowed := true, recurses := true, named := ["internal/bytealg.MaxLen"], apart := false }
def TextFindsSaid : Prop := textFindsRow.holds Try.pinned (OpenSpec.ofChange textFindsSpec)

/-- ITS FALSE NEIGHBOUR: 'it returns false'. Refute it at one input. -/
def textFindsWrong : ChangeSpec := { name := "textFinds", fn := fun _ => fun
  | [d1, d2, d3] => { results := [.lit (.bool false)], args := [d1, d2, d3] }
  | _ => none }
def TextFindsWrongFalsely : Prop := textFindsRow.holds Try.pinned (OpenSpec.ofChange textFindsWrong)

/-- 'threadbarelaw01.TextForms': WHATEVER THE INPUT: true; the input reads as it did. -/
def textFormsSpec : ChangeSpec := { name := "textForms", fn := fun _ => fun
  | [d1, d2, d3] => { results := [.lit (.bool true)], args := [d1, d2, d3] }
  | _ => none }
def textFormsRow : OpenClaim := { program := "ytneklmalkmeohaa", sum := "6fc8e334660963db68a45dd737e4b142617df57a0e8a4cd42b440466c1879196", func := "threadbare/threadbarelaw01.TextForms", spec := "textForms", inPlace := ["internal/abi.NoEscape", "internal/bytealg.IndexByteString", "internal/bytealg.IndexString"], unfollowed := true, recurses := true, named := ["internal/bytealg.MaxLen"], apart := false }
def TextFormsSaid : Prop := textFormsRow.holds Try.pinned (OpenSpec.ofChange textFormsSpec)

/-- ITS FALSE NEIGHBOUR: 'it returns false'. Refute it at one input. -/
def textFormsWrong : ChangeSpec := { name := "textForms", fn := fun _ => fun
  | [d1, d2, d3] => { results := [.lit (.bool false)], args := [d1, d2, d3] }
  | _ => none }
def TextFormsWrongFalsely : Prop := textFormsRow.holds Try.pinned (OpenSpec.ofChange textFormsWrong)

/-- 'threadbarelaw01.TextRepeats': WHATEVER THE INPUT: true; the input reads as it did. -/
def textRepeatsSpec : ChangeSpec := { name := "textRepeats", fn := fun _ => fun
  | [d1, d2, d3] => { results := [.lit (.bool true)], args := [d1, d2, d3] }
  | _ => none }
def textRepeatsRow : OpenClaim := { program := "ytneklmalkmeohaa", sum := "6fc8e334660963db68a45dd737e4b142617df57a0e8a4cd42b440466c1879196", func := "threadbare/threadbarelaw01.TextRepeats", spec := "textRepeats", inPlace := ["internal/abi.NoEscape", "internal/bytealg.IndexByteString", "internal/bytealg.IndexString", "internal/bytealg.MakeNoZero"], unfollowed := true, recurses := true, named := ["internal/bytealg.MaxLen"], apart := false }
def TextRepeatsSaid : Prop := textRepeatsRow.holds Try.pinned (OpenSpec.ofChange textRepeatsSpec)

/-- ITS FALSE NEIGHBOUR: 'it returns false'. Refute it at one input. -/
def textRepeatsWrong : ChangeSpec := { name := "textRepeats", fn := fun _ => fun
  | [d1, d2, d3] => { results := [.lit (.bool false)], args := [d1, d2, d3] }
  | _ => none }
def TextRepeatsWrongFalsely : Prop := textRepeatsRow.holds Try.pinned (OpenSpec.ofChange textRepeatsWrong)

/-- 'threadbarelaw01.TextMaps': WHATEVER THE INPUT: true; the input reads as it did. -/
def textMapsSpec : ChangeSpec := { name := "textMaps", fn := fun _ => fun
  | [d1, d2, d3] => { results := [.lit (.bool true)], args := [d1, d2, d3] }
  | _ => none }
def textMapsRow : OpenClaim := { program := "ytneklmalkmeohaa", sum := "6fc8e334660963db68a45dd737e4b142617df57a0e8a4cd42b440466c1879196", func := "threadbare/threadbarelaw01.TextMaps", spec := "textMaps", inPlace := ["internal/abi.NoEscape", "internal/bytealg.IndexByteString", "internal/bytealg.IndexString"], unfollowed := true, recurses := true, named := ["internal/bytealg.MaxLen"], apart := false }
def TextMapsSaid : Prop := textMapsRow.holds Try.pinned (OpenSpec.ofChange textMapsSpec)

/-- ITS FALSE NEIGHBOUR: 'it returns false'. Refute it at one input. -/
def textMapsWrong : ChangeSpec := { name := "textMaps", fn := fun _ => fun
  | [d1, d2, d3] => { results := [.lit (.bool false)], args := [d1, d2, d3] }
  | _ => none }
def TextMapsWrongFalsely : Prop := textMapsRow.holds Try.pinned (OpenSpec.ofChange textMapsWrong)

/-- 'threadbarelaw01.TextGlobs': WHATEVER THE INPUT: true; the input reads as it did. -/
def textGlobsSpec : ChangeSpec := { name := "textGlobs", fn := fun _ => fun
  | [d1, d2, d3] => { results := [.lit (.bool true)], args := [d1, d2, d3] }
  | _ => none }
def textGlobsRow : OpenClaim := { program := "ytneklmalkmeohaa", sum := "6fc8e334660963db68a45dd737e4b142617df57a0e8a4cd42b440466c1879196", func := "threadbare/threadbarelaw01.TextGlobs", spec := "textGlobs", inPlace := ["internal/abi.NoEscape", "internal/bytealg.IndexByteString", "internal/bytealg.IndexString"], unfollowed := true, recurses := true, named := ["internal/bytealg.MaxLen"], apart := false }
def TextGlobsSaid : Prop := textGlobsRow.holds Try.pinned (OpenSpec.ofChange textGlobsSpec)

/-- ITS FALSE NEIGHBOUR: 'it returns false'. Refute it at one input. -/
def textGlobsWrong : ChangeSpec := { name := "textGlobs", fn := fun _ => fun
  | [d1, d2, d3] => { results := [.lit (.bool false)], args := [d1, d2, d3] }
  | _ => none }
def TextGlobsWrongFalsely : Prop := textGlobsRow.holds Try.pinned (OpenSpec.ofChange textGlobsWrong)

/-- 'threadbarelaw01.TextBack': WHATEVER THE INPUT: true; the input reads as it did. -/
def textBackSpec : ChangeSpec := { name := "textBack", fn := fun _ => fun
  | [d1, d2, d3] => { results := [.lit (.bool true)], args := [d1, d2, d3] }
  | _ => none }
def textBackRow : OpenClaim := { program := "ytneklmalkmeohaa", sum := "6fc8e334660963db68a45dd737e4b142617df57a0e8a4cd42b440466c1879196", func := "threadbare/threadbarelaw01.TextBack", spec := "textBack", inPlace := ["internal/abi.NoEscape", "internal/bytealg.IndexByteString", "internal/bytealg.IndexString", "internal/bytealg.MakeNoZero"], unfollowed := true, recurses := true, named := ["internal/bytealg.MaxLen"], apart := false }
def TextBackSaid : Prop := textBackRow.holds Try.pinned (OpenSpec.ofChange textBackSpec)

/-- ITS FALSE NEIGHBOUR: 'it returns false'. Refute it at one input. -/
def textBackWrong : ChangeSpec := { name := "textBack", fn := fun _ => fun
  | [d1, d2, d3] => { results := [.lit (.bool false)], args := [d1, d2, d3] }
  | _ => none }
def TextBackWrongFalsely : Prop := textBackRow.holds Try.pinned (OpenSpec.ofChange textBackWrong)

/- THE SECOND FORM. 'bulk': how many values and letters a reading holds, each counted each time it is reached (what is shared counts as often as it is met; a slice's spare places count too). A statement '..UptoSaid' is the law's where the arguments, and the package variables that the reading takes, are together of bulk at most 1048576: NARROWER than '..Said'. Prove '..Said' where nothing that the law and all that it calls make is longer than what came in: it says more and counts as full. Else prove '..UptoSaid'. A law counts once. -/
mutual
def uptoBulk {H : Type} : DataW H → Nat
  | .lit (.string bytes) => bytes.length + 1
  | .lit _ => 1
  | .nil => 1
  | .ptr d => uptoBulk d + 1
  | .slice elems spare => uptoBulkAll elems + uptoBulkAll spare + 1
  | .agg parts => uptoBulkAll parts + 1
  | .iface _ d => uptoBulk d + 1
  | .map entries => uptoBulkEntries entries + 1
  | .held _ => 1
def uptoBulkAll {H : Type} : List (DataW H) → Nat
  | [] => 0
  | d :: r => uptoBulk d + uptoBulkAll r
def uptoBulkEntries {H : Type} : List (Lit × DataW H) → Nat
  | [] => 0
  | x :: r => uptoBulkEntry x + uptoBulkEntries r
def uptoBulkEntry {H : Type} : Lit × DataW H → Nat
  | (.string bytes, d) => bytes.length + uptoBulk d + 1
  | (_, d) => uptoBulk d + 1
 end
def uptoSmall : (H : Type) → List (DataW H) → Bool := fun _ ds => decide (uptoBulkAll ds ≤ 1048576)
def OpenSpec.upto (s : _root_.Go.ChangeSpec) : _root_.Go.OpenSpec := { _root_.Go.OpenSpec.ofChange s with cond := some uptoSmall }

/-- 'threadbarelaw01.TextFinds', WHERE WHAT IT READS IS OF BULK AT MOST 1048576: true; the input reads as it did. -/
def textFindsUptoRow : OpenClaim := { program := "ytneklmalkmeohaa", sum := "6fc8e334660963db68a45dd737e4b142617df57a0e8a4cd42b440466c1879196", func := "threadbare/threadbarelaw01.TextFinds", spec := "textFinds", inPlace := ["internal/abi.NoEscape", "internal/bytealg.IndexByteString", "internal/bytealg.IndexString", "internal/bytealg.abigen_runtime_cmpstring", "internal/bytealg.CountString"], unfollowed := true, recurses := true, named := ["internal/bytealg.MaxLen"], apart := false, narrowed := true }
def TextFindsUptoSaid : Prop := textFindsUptoRow.holds Try.pinned (OpenSpec.upto textFindsSpec)

/-- 'threadbarelaw01.TextForms', WHERE WHAT IT READS IS OF BULK AT MOST 1048576: true; the input reads as it did. -/
def textFormsUptoRow : OpenClaim := { program := "ytneklmalkmeohaa", sum := "6fc8e334660963db68a45dd737e4b142617df57a0e8a4cd42b440466c1879196", func := "threadbare/threadbarelaw01.TextForms", spec := "textForms", inPlace := ["internal/abi.NoEscape", "internal/bytealg.IndexByteString", "internal/bytealg.IndexString"], unfollowed := true, recurses := true, named := ["internal/bytealg.MaxLen"], apart := false, narrowed := true }
def TextFormsUptoSaid : Prop := textFormsUptoRow.holds Try.pinned (OpenSpec.upto textFormsSpec)

/-- 'threadbarelaw01.TextRepeats', WHERE WHAT IT READS IS OF BULK AT MOST 1048576: true; the input reads as it did. -/
def textRepeatsUptoRow : OpenClaim := { program := "ytneklmalkmeohaa", sum := "6fc8e334660963db68a45dd737e4b142617df57a0e8a4cd42b440466c1879196", func := "threadbare/threadbarelaw01.TextRepeats", spec := "textRepeats", inPlace := ["internal/abi.NoEscape", "internal/bytealg.IndexByteString", "internal/bytealg.IndexString", "internal/bytealg.MakeNoZero"], unfollowed := true, recurses := true, named := ["internal/bytealg.MaxLen"], apart := false, narrowed := true }
def TextRepeatsUptoSaid : Prop := textRepeatsUptoRow.holds Try.pinned (OpenSpec.upto textRepeatsSpec)

/-- 'threadbarelaw01.TextMaps', WHERE WHAT IT READS IS OF BULK AT MOST 1048576: true; the input reads as it did. -/
def textMapsUptoRow : OpenClaim := { program := "ytneklmalkmeohaa", sum := "6fc8e334660963db68a45dd737e4b142617df57a0e8a4cd42b440466c1879196", func := "threadbare/threadbarelaw01.TextMaps", spec := "textMaps", inPlace := ["internal/abi.NoEscape", "internal/bytealg.IndexByteString", "internal/bytealg.IndexString"], unfollowed := true, recurses := true, named := ["internal/bytealg.MaxLen"], apart := false, narrowed := true }
def TextMapsUptoSaid : Prop := textMapsUptoRow.holds Try.pinned (OpenSpec.upto textMapsSpec)

/-- 'threadbarelaw01.TextGlobs', WHERE WHAT IT READS IS OF BULK AT MOST 1048576: true; the input reads as it did. -/
def textGlobsUptoRow : OpenClaim := { program := "ytneklmalkmeohaa", sum := "6fc8e334660963db68a45dd737e4b142617df57a0e8a4cd42b440466c1879196", func := "threadbare/threadbarelaw01.TextGlobs", spec := "textGlobs", inPlace := ["internal/abi.NoEscape", "internal/bytealg.IndexByteString", "internal/bytealg.IndexString"], unfollowed := true, recurses := true, named := ["internal/bytealg.MaxLen"], apart := false, narrowed := true }
def TextGlobsUptoSaid : Prop := textGlobsUptoRow.holds Try.pinned (OpenSpec.upto textGlobsSpec)

/-- 'threadbarelaw01.TextBack', WHERE WHAT IT READS IS OF BULK AT MOST 1048576: true; the input reads as it did. -/
def textBackUptoRow : OpenClaim := { program := "ytneklmalkmeohaa", sum := "6fc8e334660963db68a45dd737e4b142617df57a0e8a4cd42b440466c1879196", func := "threadbare/threadbarelaw01.TextBack", spec := "textBack", inPlace := ["internal/abi.NoEscape", "internal/bytealg.IndexByteString", "internal/bytealg.IndexString", "internal/bytealg.MakeNoZero"], unfollowed := true, recurses := true, named := ["internal/bytealg.MaxLen"], apart := false, narrowed := true }
def TextBackUptoSaid : Prop := textBackUptoRow.holds Try.pinned (OpenSpec.upto textBackSpec)

end Rows
end Go.Proofs.Ytneklmalkmeohaa
