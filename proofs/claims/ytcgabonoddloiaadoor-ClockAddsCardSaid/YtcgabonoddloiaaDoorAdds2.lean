/- Add of the reference, of months and years; Add of both. -/
import Derived.Test.YtcgabonoddloiaaDoorAdds
namespace Go.Proofs.YtcgabonoddloiaaDoor
open Go.RowKit Clk

theorem refAdd_sums (Y M k : Int) (_hY : 1 ≤ Y) (_hY2 : Y ≤ 9999) (_hM : 1 ≤ M) (_hM2 : M ≤ 12) (_k1 : -4800000000000 ≤ k) (_k2 : k ≤ 4800000000000) :
    (isY (amY Y M k) = false ∧ (12 * Y + M - 1 + k < 12 ∨ (¬ 12 * Y + M - 1 + k < 12 ∧ 120000 ≤ 12 * Y + M - 1 + k))) ∨ (isY (amY Y M k) = true ∧ 12 ≤ 12 * Y + M - 1 + k ∧ 12 * Y + M - 1 + k < 120000) := by
  cases h : isY (amY Y M k) with
  | true =>
    have := isY_iff.1 h
    unfold amY at this
    exact .inr ⟨rfl, by omega, by omega⟩
  | false =>
    refine .inl ⟨rfl, ?_⟩
    by_cases h1 : 12 * Y + M - 1 + k < 12
    · exact .inl h1
    · by_cases h2 : 120000 ≤ 12 * Y + M - 1 + k
      · exact .inr ⟨h1, h2⟩
      · exfalso
        have : isY (amY Y M k) = true := isY_iff.2 (by unfold amY; omega)
        rw [this] at h
        cases h

end Go.Proofs.YtcgabonoddloiaaDoor
