/- The frame of the laws of layer 1: an array of integers among the arguments, what the world's shape tells. -/
import Derived.Test.YtneklmalkmeohaaRows
import Derived.ProofKit
import Derived.HandedShaped
import Derived.Shelf.Vars
import Derived.Below
import Derived.ChangeSame
namespace Go.Proofs.Ytneklmalkmeohaa
open Go.ChangeShapes Go.WideShapes Go.ChangeAt Go.RowKit
open Go.ChangeMaps (open_string shut_string)

theorem Try.own : ownKnob Try.prog.godebug = none := by kernel_rfl
theorem Try.laidOut : laidOutB Try.prog = true := by kernel_rfl
theorem Try.maxLen (w : World) (h : w.ShapedOpen Try.prog) : ∃ m, w.cell? ⟨0, 0, none⟩ = some (.int .i64 m) :=
  cell_of_shapedOpen_int (t := 3) (zero := #[.int .i64 0]) h (of_decide_eq_true (by kernel_rfl)) (by kernel_rfl) rfl (by kernel_rfl) (by kernel_rfl) Try.underlying3
theorem Try.two22 : Try.prog.cellsOf 22 = 2 := by kernel_rfl
theorem Try.types22 : Try.prog.cellTypes Try.prog.depth 22 = some [3, 3] := by kernel_rfl

section
variable {H : Type} {enc : TypeId × Value → H} {P : Program}

/-- An array of two integers, by value. -/
theorem open_two_ints {r : Reach} {b0 : Nat} {t e : TypeId} {k : IntKind} {n : Nat} {W : World} {v : Value} (hu : P.underlying t = some (.array n e)) (hC : P.cellsOf t = 2) (hT : P.cellTypes P.depth t = some [e, e]) (he : P.underlying e = some (.int k))
    (h : Value.okWide P W r b0 t v) : ∃ x y : Int, v = Value.agg #[.int k x, .int k y] := by
  simp only [Value.okWide, hu] at h
  obtain ⟨cs, rfl, hs, ts, hts, _, hall⟩ := h
  rw [hT] at hts
  cases hts
  rw [hC] at hs
  have hcell : ∀ (i : Nat) (v : Value), cs[i]? = some v → ∃ x, v = Value.int k x := by
    intro i v hv
    obtain ⟨u, hu', hc⟩ := hall i v hv
    have e1 : u = e := by
      have h2 : i % 2 < 2 := Nat.mod_lt _ (by decide)
      have h3 : [e, e][i % 2]? = some u := hu'
      match hm : i % 2, h2, h3 with
      | 0, _, h3 => simpa using h3.symm
      | 1, _, h3 => simpa using h3.symm
    subst e1
    exact okWide_int (base := b0) (r := r) (w := W) he (by simpa [Value.okWide, he] using hc)
  obtain ⟨l⟩ := cs
  match l, hs with
  | [c0, c1], _ =>
    obtain ⟨x, rfl⟩ := hcell 0 c0 rfl
    obtain ⟨y, rfl⟩ := hcell 1 c1 rfl
    exact ⟨x, y, rfl⟩
end
end Go.Proofs.Ytneklmalkmeohaa
