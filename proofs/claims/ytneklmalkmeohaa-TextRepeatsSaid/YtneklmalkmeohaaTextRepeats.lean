/- TextRepeats returns true for every input and leaves its arguments as they were: Repeat and Replace of the program answer as those of the reference do, for all texts and numbers. No condition. -/
import Derived.Test.YtneklmalkmeohaaFrame
import Derived.Test.YtneklmalkmeohaaRepeats3
namespace Go.Proofs.Ytneklmalkmeohaa
open Go.ChangeShapes Go.WideShapes Go.ChangeAt Go.RowKit
open Go.ChangeMaps (open_string shut_string)

theorem Try.three36 : Try.prog.cellsOf 36 = 3 := by kernel_rfl
theorem Try.types36 : Try.prog.cellTypes Try.prog.depth 36 = some [3, 3, 3] := by kernel_rfl

/-- An array of three integers, by value. -/
theorem open_three_ints {P : Program} {r : Reach} {b0 : Nat} {t e : TypeId} {k : IntKind} {n : Nat} {W : World} {v : Value} (hu : P.underlying t = some (.array n e)) (hC : P.cellsOf t = 3) (hT : P.cellTypes P.depth t = some [e, e, e]) (he : P.underlying e = some (.int k))
    (h : Value.okWide P W r b0 t v) : ∃ x y z : Int, v = Value.agg #[.int k x, .int k y, .int k z] := by
  simp only [Value.okWide, hu] at h
  obtain ⟨cs, rfl, hs, ts, hts, _, hall⟩ := h
  rw [hT] at hts
  cases hts
  rw [hC] at hs
  have hcell : ∀ (i : Nat) (v : Value), cs[i]? = some v → ∃ x, v = Value.int k x := by
    intro i v hv
    obtain ⟨u, hu', hc⟩ := hall i v hv
    have e1 : u = e := by
      have h2 : i % 3 < 3 := Nat.mod_lt _ (by decide)
      have h3 : [e, e, e][i % 3]? = some u := hu'
      match hm : i % 3, h2, h3 with
      | 0, _, h3 => simpa using h3.symm
      | 1, _, h3 => simpa using h3.symm
      | 2, _, h3 => simpa using h3.symm
    subst e1
    exact okWide_int (base := b0) (r := r) (w := W) he (by simpa [Value.okWide, he] using hc)
  obtain ⟨l⟩ := cs
  match l, hs with
  | [c0, c1, c2], _ =>
    obtain ⟨x, rfl⟩ := hcell 0 c0 rfl
    obtain ⟨y, rfl⟩ := hcell 1 c1 rfl
    obtain ⟨z, rfl⟩ := hcell 2 c2 rfl
    exact ⟨x, y, z, rfl⟩

set_option maxRecDepth 100000 in
theorem repeats_lifted (os : Os) (started : os.Started) (H : Type) (enc : TypeId × Value → H) :
    ReturnsInHanded {} Try.checked os 5 .any (Rows.textRepeatsSpec.pre6 enc Try.prog Try.f5 Rows.textRepeatsRow.domain false) (Rows.textRepeatsSpec.post enc Try.prog Try.f5 false true false false) := by
  refine returnsInHanded_of_change_shaped (C := Try.checked) Try.own started (by kernel_rfl) Try.func5
    (ChangeSpec.witness6 (enc := enc) (C := Try.checked) false ⟨#[], #[.string ⟨#[]⟩, .string ⟨#[]⟩, .agg #[.int .i64 0, .int .i64 0, .int .i64 0]], []⟩ 8 (by kernel_rfl) (by kernel_rfl) (by kernel_rfl) (by kernel_rfl)) ?_
  intro W base args ds gs before hval0 hW hcnd _ hsh _
  have hval : ∀ (j : Nat) t v, Try.f5.params[j]? = some t → args[j]? = some v → Value.okWide Try.prog W .any base t v := hval0
  have hW' := hW
  obtain ⟨p, q, hA0, hV, rfl, hfz, hnd⟩ := hW
  have hA : DataW.TrodAll enc Try.prog W 0 (fun _ => true) true Try.f5.params.toList args.toList ds p := hA0
  rw [Try.params5] at hA hval
  obtain ⟨v0, v1, v2, d0, d1, d2, p0, p1, p2, rfl, rfl, rfl, h0, h1, h2⟩ := trodAll_three hA
  obtain ⟨rfl, rfl⟩ := trodVars_none hV
  obtain ⟨a, rfl, rfl, rfl, wa⟩ := open_string Try.underlying9 (hval 0 9 v0 rfl rfl) h0
  obtain ⟨b, rfl, rfl, rfl, wb⟩ := open_string Try.underlying9 (hval 1 9 v1 rfl rfl) h1
  obtain ⟨x, y, z, rfl⟩ := open_three_ints Try.underlying36 Try.three36 Try.types36 Try.underlying3 (hval 2 36 v2 rfl rfl)
  have lt2 : ∀ x ∈ p2, x.block < W.heap.size := fun x hx => hW'.lt x (by simp [hx])
  clear hA0 hval0
  refine (repeats_any a b x y z W).mono fun e W' ⟨he, bel⟩ => ?_
  subst he
  exact ⟨_, rfl, _, _, _, [], _, [], hW', trodAll_mk1 (shut_bool Try.underlying4 _), trodAll_mk3 (shut_string Try.underlying9 wa) (shut_string Try.underlying9 wb) (Below.trod Try.laidOut (by kernel_rfl) (of_decide_eq_true (by kernel_rfl)) h2 bel lt2), rfl, bel.frame _, fun h => by cases h⟩

theorem repeats_holds : Rows.TextRepeatsSaid :=
  OpenClaim.holds_of_wide 5 Try.f5 rfl rfl rfl rfl rfl rfl rfl ⟨rfl, rfl, rfl, rfl, rfl⟩ rfl rfl rfl rfl rfl (by kernel_rfl) Try.func5 (by kernel_rfl)
    (of_decide_eq_true (by kernel_rfl)) (by unfold Func.isWrapper; first | (rw [if_pos (by decide +kernel)]; kernel_rfl) | (rw [if_neg (by decide +kernel)]; exact ⟨rfl, rfl⟩))
    (fun os started H enc _ => repeats_lifted os started H enc)
end Go.Proofs.Ytneklmalkmeohaa
