/- Long of two texts, and the world in which a law asks. -/
import Derived.Test.YtneklmalkmeohaaGlob
namespace Go.Proofs.Ytneklmalkmeohaa
open Go.RowKit Go.Lib

set_option maxRecDepth 100000 in
set_option maxHeartbeats 800000 in
theorem long_two (a b : ByteArray) (gb : Nat) (w : World) (c0 : w.cell? ⟨gb, 0, none⟩ = some (.string a)) (c1 : w.cell? ⟨gb, 1, none⟩ = some (.string b)) :
    Calls Try.prog 9 #[.slice (some ⟨gb, 0, none⟩) 2 2] w fun e w' => e = .returned (.bool (decide (400 < a.size) || decide (400 < b.size))) ∧ w = w' := by
  by_cases h1 : 400 < a.size
  · have h1' : (400 : Int) < (a.size : Int) := by omega
    have H := Lib.hid (show (decide (400 < a.size) || decide (400 < b.size)) = true by simp [h1])
    go_enter Try.func9, Try.ntmps9
    go_wp2
    refine wp_loop_rounds 3 ?_
    rw [rounds_succ]
    go_wp2
    go_ret
    exact ⟨by rw [H.out]; rfl, rfl⟩
  · have h1' : ¬ (400 : Int) < (a.size : Int) := by omega
    by_cases h2 : 400 < b.size
    · have h2' : (400 : Int) < (b.size : Int) := by omega
      have H := Lib.hid (show (decide (400 < a.size) || decide (400 < b.size)) = true by simp [h2])
      go_enter Try.func9, Try.ntmps9
      go_wp2
      refine wp_loop_rounds 3 ?_
      rw [rounds_succ]
      go_wp2
      rw [rounds_succ]
      go_wp2
      go_ret
      exact ⟨by rw [H.out]; rfl, rfl⟩
    · have h2' : ¬ (400 : Int) < (b.size : Int) := by omega
      have H := Lib.hid (show (decide (400 < a.size) || decide (400 < b.size)) = false by simp [h1, h2])
      go_enter Try.func9, Try.ntmps9
      go_wp2
      refine wp_loop_rounds 3 ?_
      rw [rounds_succ]
      go_wp2
      rw [rounds_succ]
      go_wp2
      rw [rounds_succ]
      go_wp2
      go_ret
      exact ⟨by rw [H.out]; rfl, rfl⟩

/-- The world in which the law asks: the box of the numbers, the two texts. -/
theorem two_boxes (w : World) (A B : Obj) : Below w.heap.size w ((w.alloc A).alloc B) := ((Below.refl _ w).alloc (Nat.le_refl _) _).alloc (by simp) _

theorem Below.behind {w W W' : World} (hB : Below w.heap.size w W) (hb : Below W.heap.size W W') : Below w.heap.size w W' := hB.trans (hb.mono hB.size)
theorem Below.drewAt {w W : World} (hB : Below w.heap.size w W) (n : Nat) : Below w.heap.size w (W.drewN n) := hB.trans ⟨rfl, rfl, rfl, Nat.le_refl _, fun _ _ => rfl⟩
end Go.Proofs.Ytneklmalkmeohaa
