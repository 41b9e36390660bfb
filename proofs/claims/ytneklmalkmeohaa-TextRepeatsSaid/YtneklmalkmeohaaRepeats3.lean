/- The walk of the law TextRepeats. -/
import Derived.Test.YtneklmalkmeohaaLong
import Derived.Test.YtneklmalkmeohaaAwake
import Derived.Test.YtneklmalkmeohaaRepeats2
import Derived.Test.YtneklmalkmeohaaReplaces2
import Derived.Deep.RegionHeld3
namespace Go.Proofs.Ytneklmalkmeohaa
open Go.RowKit Go.Lib

/-- A box of three numbers that stands in a world. -/
structure Box3 (w : World) (x y z : Int) (W : World) : Prop where
  c0 : W.cell? ⟨w.heap.size, 0, none⟩ = some (.int .i64 x)
  c1 : W.cell? ⟨w.heap.size, 1, none⟩ = some (.int .i64 y)
  c2 : W.cell? ⟨w.heap.size, 2, none⟩ = some (.int .i64 z)
  b : Below w.heap.size w W
theorem Box3.later {w W W' : World} {x y z : Int} (h : Box3 w x y z W) (hb : Below W.heap.size W W') : Box3 w x y z W' :=
  ⟨cell_keep h.c0 hb, cell_keep h.c1 hb, cell_keep h.c2 hb, Below.behind h.b hb⟩

set_option maxRecDepth 100000 in
set_option maxHeartbeats 3200000 in
theorem repeats_any (s x : ByteArray) (a b c : Int) (w : World) :
    Calls Try.prog 5 #[.string s, .string x, .agg #[.int .i64 a, .int .i64 b, .int .i64 c]] w fun e w' => e = .returned (.bool true) ∧ Below w.heap.size w w' := by
  obtain ⟨lg, hlg⟩ : ∃ lg : Bool, (decide (400 < s.size) || decide (400 < x.size)) = lg := ⟨_, rfl⟩
  go_enter Try.func5, Try.ntmps5
  go_wp2_with fail
  refine (long_two s x _ _ ?_ ?_).mono ?_
  · simp [*]
  · simp [*]
  rintro e w' ⟨rfl, rfl⟩
  rw [hlg]
  have hB := two_boxes w (Obj.cells #[Value.int IntKind.i64 a, Value.int IntKind.i64 b, Value.int IntKind.i64 c] 36) (Obj.cells #[Value.string s, Value.string x] 9)
  have hx : Box3 w a b c ((w.alloc (Obj.cells #[Value.int IntKind.i64 a, Value.int IntKind.i64 b, Value.int IntKind.i64 c] 36)).alloc (Obj.cells #[Value.string s, Value.string x] 9)) :=
    ⟨by simp, by simp, by simp, hB⟩
  clear hB
  generalize ((w.alloc (Obj.cells #[Value.int IntKind.i64 a, Value.int IntKind.i64 b, Value.int IntKind.i64 c] 36)).alloc (Obj.cells #[Value.string s, Value.string x] 9)) = W at hx ⊢
  cases lg
  · have hs : s.size ≤ 400 := by
      have : ¬ (400 < s.size) := fun h => by simp [h] at hlg
      omega
    have hxs : x.size ≤ 400 := by
      have : ¬ (400 < x.size) := fun h => by simp [h] at hlg
      omega
    clear hlg
    have k0 := hx.c0
    go_wp2_with fail
    refine (repeat_any s a _ hs).mono ?_
    rintro e W1 ⟨rfl, b1⟩
    have h1 := hx.later b1
    have k0 := h1.c0
    go_wp2_with fail
    refine (refRepeat_any s a _ hs).mono ?_
    rintro e W2 ⟨rfl, b2⟩
    have h2 := h1.later b2
    have k1 := h2.c1
    have k2 := h2.c2
    go_wp2_with fail
    refine (replace_walk s x b c _ hs hxs).mono ?_
    rintro e W3 ⟨rfl, b3⟩
    have h3 := h2.later b3
    have k1 := h3.c1
    have k2 := h3.c2
    go_wp2_with fail
    refine (refReplace_any s x b c _ hs hxs).mono ?_
    rintro e W4 ⟨rfl, b4⟩
    have h4 := h3.later b4
    go_wp2_with fail
    refine (awake_any _).mono ?_
    rintro e W5 ⟨rfl, b5⟩
    have h5 := h4.later b5
    go_wp2
    go_ret
    exact ⟨rfl, h5.b⟩
  · clear hlg
    go_wp2_with fail
    refine (awake_any _).mono ?_
    rintro e w' ⟨rfl, hb'⟩
    go_wp2
    go_ret
    exact ⟨rfl, Below.behind hx.b hb'⟩
end Go.Proofs.Ytneklmalkmeohaa
