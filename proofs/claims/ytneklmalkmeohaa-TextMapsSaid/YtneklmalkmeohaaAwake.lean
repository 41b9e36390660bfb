/- The examples of the document, as the law functions ask them: awake answers true in whatever world. -/
import Derived.Test.YtneklmalkmeohaaMap
import Derived.Test.YtneklmalkmeohaaPlace
import Derived.Test.YtneklmalkmeohaaGlob
namespace Go.Proofs.Ytneklmalkmeohaa
open Go.RowKit

set_option maxRecDepth 100000 in
set_option maxHeartbeats 1600000 in
theorem awake_any (w : World) : Calls Try.prog 10 #[] w fun e w' => e = .returned (.bool true) ∧ Below w.heap.size w w' := by
  go_enter Try.func10, Try.ntmps10
  go_wp2_with fail
  refine (map_at w.heap.size _ (Has.new w 9 _)).mono ?_
  rintro e w1 ⟨rfl, hb1⟩
  have b1 : Below w.heap.size w w1 := ((Below.refl _ w).alloc (Nat.le_refl _) _).trans (hb1.mono (by simp))
  clear hb1
  go_wp2_with fail
  refine (place_at _).mono ?_
  rintro e w' ⟨rfl, rfl⟩
  go_wp2_with fail
  refine (glob_at _).mono ?_
  rintro e w2 ⟨rfl, hb2⟩
  have b2 := b1.trans (hb2.mono b1.size)
  clear hb2 b1
  go_wp2
  go_ret
  exact ⟨rfl, b2⟩
end Go.Proofs.Ytneklmalkmeohaa
