/- Long of the reference. -/
import Derived.Test.YtmnibfdenmeepaaDoorRDigs
namespace Go.Proofs.YtmnibfdenmeepaaDoor
open Go.RowKit Go.Shelf Big

theorem tool_len (n : Nat) : tooL n = decide (600 < (lims 10 n).length) := by
  have h2 := lims_len_le (B := 10) (by omega) n k600
  have h3 : (10 : Nat) ^ k600 = lim600 := rfl
  have h4 : k600 = 600 := rfl
  unfold tooL
  rw [h3] at h2
  by_cases h : lim600 ≤ n
  · rw [decide_eq_true h, decide_eq_true (by omega)]
  · rw [decide_eq_false h, decide_eq_false (by omega)]
theorem rLong_any (B n : Nat) (s : Bool) (v : Value) (w : World) (h : DecIs w B v n) :
    Calls Tryd.prog 80 #[.agg #[.bool s, v]] w fun e w' => e = .returned (.bool (tooL n)) ∧ Below w.heap.size w w' := by
  have HT := Lib.hid (tool_len n)
  obtain ⟨av, c, rfl⟩ := h.slice
  revert HT
  generalize (lims 10 n).length = l
  intro HT
  clear h
  by_cases h1 : 600 < l
  · have k1 : (l : Int) > 600 := by omega
    have HR := Lib.hid (show tooL n = true by rw [HT.out, decide_eq_true h1])
    clear h1
    go_enter Tryd.func80, Tryd.ntmps80
    go_wp2
    go_ret
    exact ⟨by rw [HR.out]; simp, (Below.refl _ w).alloc (Nat.le_refl _) _⟩
  · have k1 : ¬ (l : Int) > 600 := by omega
    have HR := Lib.hid (show tooL n = false by rw [HT.out, decide_eq_false h1])
    clear h1
    go_enter Tryd.func80, Tryd.ntmps80
    go_wp2
    go_ret
    exact ⟨by rw [HR.out]; simp, (Below.refl _ w).alloc (Nat.le_refl _) _⟩
end Go.Proofs.YtmnibfdenmeepaaDoor
