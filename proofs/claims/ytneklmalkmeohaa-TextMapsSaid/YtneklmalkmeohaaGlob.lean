/- Glob at the example of the document: a*[x-z]? matches abczq. -/
import Derived.Test.YtneklmalkmeohaaRead
import Derived.Deep.RegionHeld3
import Derived.Laws.EntriesVeiled
attribute [local go_sem ↓] Go.wp_at_zero Go.wp_at_succ
namespace Go.Proofs.Ytneklmalkmeohaa
open Go.RowKit

/-- The memory that the matching of a*[x-z]? reads. -/
structure Ok (w : World) (lb g0 c0 g2 c2 sb : Nat) (cs : Array Value) (W : World) : Prop where
  has : Has W lb 84 cs
  p0 : cs[0]? = some (.slice (some ⟨g0, 0, none⟩) 1 c0)
  p1 : cs[1]? = some (.string ⟨#[97]⟩)
  p2 : cs[2]? = some (.bool true)
  p3 : cs[3]? = some (.slice (some ⟨g2, 0, none⟩) 2 c2)
  p5 : cs[5]? = some (.bool false)
  q : ∀ (j : Nat) (u : Value), [Value.bool false, .pointer (some ⟨sb, 0, none⟩), .int .u8 0, .bool true, .pointer none, .int .u8 0][j]? = some u → W.cell? ⟨g2, j, none⟩ = some u
  z : W.cell? ⟨sb, 122, none⟩ = some (.bool true)
  b : Below w.heap.size w W

section
variable {w : World} {lb g0 c0 g2 c2 sb : Nat} {cs : Array Value} {W W' : World}
theorem Ok.later (h : Ok w lb g0 c0 g2 c2 sb cs W) (hb : Below W.heap.size W W') (hw : w.heap.size ≤ W.heap.size) : Ok w lb g0 c0 g2 c2 sb cs W' where
  has := (hb.block lb h.has.lt).trans h.has
  p0 := h.p0
  p1 := h.p1
  p2 := h.p2
  p3 := h.p3
  p5 := h.p5
  q := fun j u hj => (hb.cell (p := ⟨g2, j, none⟩) (World.block_lt_of_cell? W _ (h.q j u hj))).trans (h.q j u hj)
  z := (hb.cell (p := ⟨sb, 122, none⟩) (World.block_lt_of_cell? W _ h.z)).trans h.z
  b := h.b.trans (hb.mono hw)
theorem Ok.drewN (h : Ok w lb g0 c0 g2 c2 sb cs W) (n : Nat) : Ok w lb g0 c0 g2 c2 sb cs (W.drewN n) := h.later ⟨rfl, rfl, rfl, Nat.le_refl _, fun _ _ => rfl⟩ h.b.size
theorem Ok.drew (h : Ok w lb g0 c0 g2 c2 sb cs W) : Ok w lb g0 c0 g2 c2 sb cs W.drew := h.drewN 1
theorem Ok.undrew (h : Ok w lb g0 c0 g2 c2 sb cs W.drew) : Ok w lb g0 c0 g2 c2 sb cs W := h.later ⟨rfl, rfl, rfl, Nat.le_refl _, fun _ _ => rfl⟩ h.b.size
theorem Ok.alloc (h : Ok w lb g0 c0 g2 c2 sb cs W) (o : Obj) : Ok w lb g0 c0 g2 c2 sb cs (W.alloc o) := h.later ((Below.refl _ W).alloc (Nat.le_refl _) o) h.b.size

theorem cell_keep {a : Addr} {v : Value} (h : W.cell? a = some v) (hb : Below W.heap.size W W') : W'.cell? a = some v := (hb.cell (World.block_lt_of_cell? W _ h)).trans h
theorem Ok.below (h : Ok w lb g0 c0 g2 c2 sb cs W) (hb : Below W.heap.size W W') : Ok w lb g0 c0 g2 c2 sb cs W' := h.later hb h.b.size

theorem at_first (h : Ok w lb g0 c0 g2 c2 sb cs W) : Calls Try.prog 74 #[.pointer (some ⟨lb, 0, none⟩), .string ⟨#[97, 98, 99, 122, 113]⟩, .int .i64 0] W fun e w' => e = .returned (.bool true) ∧ ∃ n, w' = W.drewN n :=
  at_plain lb 0 g0 c0 cs W h.has h.p0 h.p1 h.p2
theorem at_last (h : Ok w lb g0 c0 g2 c2 sb cs W) : Calls Try.prog 74 #[.pointer (some ⟨lb, 3, none⟩), .string ⟨#[97, 98, 99, 122, 113]⟩, .int .i64 3] W fun e w' => e = .returned (.bool true) ∧ Below W.heap.size W w' :=
  at_set lb 3 g2 c2 sb cs W h.has h.p3 h.p5 (h.q 0 _ rfl) (h.q 1 _ rfl) (h.q 2 _ rfl) (h.q 3 _ rfl) (h.q 4 _ rfl) (h.q 5 _ rfl) h.z
end

set_option maxHeartbeats 400000 in
theorem walk_any (x y z u : Value) (w : World) : Calls Try.prog 75 #[.int .i64 1, .int .i64 1, .int .i64 1, x, y, z, u] w fun e w' => e = .returned (.int .i64 1) ∧ w' = w := by
  go_enter Try.func75, Try.ntmps75
  go_wp2
  go_ret
  exact ⟨rfl, rfl⟩

set_option maxRecDepth 100000 in
set_option maxHeartbeats 1600000 in
theorem glob_at (w : World) :
    Calls Try.prog 45 #[.string ⟨#[97, 42, 91, 120, 45, 122, 93, 63]⟩, .string ⟨#[97, 98, 99, 122, 113]⟩, .bool false] w fun e w' => e = .returned (.bool true) ∧ Below w.heap.size w w' := by
  have hw3 : IntKind.i64.wrap 3 = 3 := by decide
  go_enter Try.func45, Try.ntmps45
  go_wp2_with fail
  refine (readGlob_at _).mono ?_
  rintro e w1 ⟨lb, lcap, g0, c0, g2, c2, sb, cs, rfl, has, p0, p1, p2, p3, p5, q, z, hb⟩
  have hs : Has w1 w.heap.size 9 #[.string ⟨#[97, 98, 99, 122, 113]⟩] := (hb.block w.heap.size (by simp)).trans (Has.new w 9 _)
  have hz := hb.size
  have ok1 : Ok w lb g0 c0 g2 c2 sb cs w1 := ⟨has, p0, p1, p2, p3, p5, q, z, ((Below.refl _ w).alloc (Nat.le_refl _) _).trans (hb.mono (by simp))⟩
  simp at hz
  clear hb has p0 p1 p2 p3 p5 q z
  go_wp2
  have aB := (hs.alloc (.cells #[.slice (some ⟨lb, 0, none⟩) 2 lcap] 79)).cell 0
  have ok2 := ok1.alloc (.cells #[.slice (some ⟨lb, 0, none⟩) 2 lcap] 79)
  have a0 := (ok2.has.cell 0).trans ok2.p0
  have a3 := (ok2.has.cell 3).trans ok2.p3
  have aV := (Has.new w1 79 #[.slice (some ⟨lb, 0, none⟩) 2 lcap]).cell 0
  simp only [List.getElem?_toArray, List.getElem?_cons_zero] at aB aV
  have lV : w1.heap.size < (w1.alloc (.cells #[.slice (some ⟨lb, 0, none⟩) 2 lcap] 79)).heap.size := by simp
  generalize w1.heap.size = V at *
  generalize (w1.alloc (.cells #[.slice (some ⟨lb, 0, none⟩) 2 lcap] 79)) = W2 at *
  have lb2 := ok2.has.lt
  clear hs ok1
  go_region_held3 (fun w' => w'.cell? ⟨w.heap.size, 0, none⟩ = some (.string ⟨#[97, 98, 99, 122, 113]⟩) ∧ w'.cell? ⟨V, 0, none⟩ = some (.slice (some ⟨lb, 0, none⟩) 2 lcap) ∧ w'.cell? ⟨lb, 3, none⟩ = some (.slice (some ⟨g2, 0, none⟩) 2 c2)) (go_keep) (fail)
  have aE := (Has.new W2 3 #[.int .i64 3]).cell 0
  simp only [List.getElem?_toArray, List.getElem?_cons_zero] at aE
  have ok3 := (ok2.alloc (.cells #[.int .i64 3] 3)).drew
  have fB : (W2.alloc (.cells #[.int .i64 3] 3)).drew.cell? ⟨w.heap.size, 0, none⟩ = some (.string ⟨#[97, 98, 99, 122, 113]⟩) := (World.cell?_alloc_lt W2 _ _ (World.block_lt_of_cell? W2 _ aB)).trans aB
  have fV : (W2.alloc (.cells #[.int .i64 3] 3)).drew.cell? ⟨V, 0, none⟩ = some (.slice (some ⟨lb, 0, none⟩) 2 lcap) := (World.cell?_alloc_lt W2 _ _ lV).trans aV
  have f0 := (ok3.has.cell 0).trans ok3.p0
  have lE : W2.heap.size < (W2.alloc (.cells #[.int .i64 3] 3)).drew.heap.size := by simp
  go_wp2
  generalize W2.heap.size = E at *
  have fE : (W2.alloc (.cells #[.int .i64 3] 3)).drew.cell? ⟨E, 0, none⟩ = some (.int .i64 3) := aE
  clear aE a0 a3 aB aV ok2
  generalize (W2.alloc (.cells #[.int .i64 3] 3)).drew = W3 at *
  go_region_held3 (fun w' => w'.cell? ⟨w.heap.size, 0, none⟩ = some (.string ⟨#[97, 98, 99, 122, 113]⟩) ∧ w'.cell? ⟨V, 0, none⟩ = some (.slice (some ⟨lb, 0, none⟩) 2 lcap) ∧ w'.cell? ⟨E, 0, none⟩ = some (.int .i64 3) ∧ w'.cell? ⟨lb, 0, none⟩ = some (.slice (some ⟨g0, 0, none⟩) 1 c0) ∧ Ok w lb g0 c0 g2 c2 sb cs w')
    ((go_split_ands; refine ⟨?_, ?_, ?_, ?_, ?_⟩ <;> first | assumption | (exact Ok.drew (by assumption)) | (exact Ok.drewN (by assumption) _) | (exact Ok.below (by assumption) (by assumption)) | (exact cell_keep (by assumption) (by assumption)) | (simp [*]; done)))
    ((go_split_ands; first | (go_at_call 74; (with_reducible refine (at_first (w := w) (lb := lb) (g0 := g0) (c0 := c0) (g2 := g2) (c2 := c2) (sb := sb) (cs := cs) ?_).mono ?_); assumption; rintro e w' ⟨rfl, n1, rfl⟩) | (go_at_call 74; (with_reducible refine (at_last (w := w) (lb := lb) (g0 := g0) (c0 := c0) (g2 := g2) (c2 := c2) (sb := sb) (cs := cs) ?_).mono ?_); assumption; rintro e w' ⟨rfl, hb1⟩)))
  have hh : w'.cell? ⟨w.heap.size, 0, none⟩ = some (.string ⟨#[97, 98, 99, 122, 113]⟩) ∧ w'.cell? ⟨V, 0, none⟩ = some (.slice (some ⟨lb, 0, none⟩) 2 lcap) ∧ w'.cell? ⟨E, 0, none⟩ = some (.int .i64 3) ∧ w'.cell? ⟨lb, 0, none⟩ = some (.slice (some ⟨g0, 0, none⟩) 1 c0) ∧ Ok w lb g0 c0 g2 c2 sb cs w' := by assumption
  obtain ⟨-, gV, -, gL, ok4⟩ := hh
  have lV4 := World.block_lt_of_cell? w' _ gV
  have lL4 := World.block_lt_of_cell? w' _ gL
  clear ok3 fB fV f0 fE lE hb1 hz lV lb2
  go_wp2
  have b4 := ok4.b
  have HB := Lib.hid b4
  have HZ := Lib.hid b4.size
  clear b4 ok4
  go_quiet ((go_at_call 75; exact Calls.quiet_of_same (walk_any _ _ _ _ _)))
  go_wp2
  go_ret
  exact ⟨rfl, ((HB.out).alloc HZ.out _).trans ⟨rfl, rfl, rfl, Nat.le_refl _, fun _ _ => rfl⟩⟩
end Go.Proofs.Ytneklmalkmeohaa
