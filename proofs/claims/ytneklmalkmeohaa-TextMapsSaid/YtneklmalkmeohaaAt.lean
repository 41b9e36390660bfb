/- segment.spell, segment.at and item.fits at what the pattern a*[x-z]? makes. -/
import Derived.Test.YtneklmalkmeohaaSet
import Derived.Test.YtneklmalkmeohaaShelf
import Derived.Deep.RegionHeld3
attribute [local go_sem ↓] Go.wp_at_zero Go.wp_at_succ
namespace Go.Proofs.Ytneklmalkmeohaa
open Go.RowKit

theorem conv_one (W : World) (b : Nat) (h : W.cell? ⟨b, 0, none⟩ = some (.int .u8 97)) : (convert 56 9 (Value.slice (some ⟨b, 0, none⟩) 1 1)).run Try.prog W = .ok (.string ⟨#[97]⟩) W :=
  run_convert_bytes_back W 56 9 5 ⟨b, 0, none⟩ 1 [97] Try.underlying56 Try.underlying5 Try.underlying9 (fun j hj => by
    have : j = 0 := by simp at hj; exact hj
    subst this
    exact h)

set_option maxRecDepth 100000 in
set_option maxHeartbeats 1600000 in
theorem spell_not (gb go : Nat) (cs : Array Value) (w : World) (hg : Has w gb 84 cs) (h2 : cs[go + 2]? = some (.bool false)) :
    Calls Try.prog 94 #[.pointer (some ⟨gb, go, none⟩)] w fun e w' => e = .returned (.tuple #[]) ∧ w = w' := by
  have c2 := (hg.cell (go + 2)).trans h2
  go_enter Try.func94, Try.ntmps94
  go_wp2
  refine bodyPost_ret (results_none rfl _ _ _) rfl ?_
  exact ⟨rfl, rfl⟩

set_option maxRecDepth 100000 in
set_option maxHeartbeats 1600000 in
theorem spell_one (gb go ib cap : Nat) (cs : Array Value) (w : World) (hg : Has w gb 84 cs) (h0 : cs[go]? = some (.slice (some ⟨ib, 0, none⟩) 1 cap)) (h1 : ∃ u, cs[go + 1]? = some u) (h2 : cs[go + 2]? = some (.bool true))
    (i0 : w.cell? ⟨ib, 0, none⟩ = some (.bool false)) (i1 : w.cell? ⟨ib, 1, none⟩ = some (.pointer none)) (i2 : w.cell? ⟨ib, 2, none⟩ = some (.int .u8 97)) :
    Calls Try.prog 94 #[.pointer (some ⟨gb, go, none⟩)] w fun e w' => e = .returned (.tuple #[]) ∧ Has w' gb 84 (cs.setIfInBounds (go + 1) (.string ⟨#[97]⟩)) ∧ Kept (fun k => k = gb) w w' := by
  obtain ⟨u, h1⟩ := h1
  have c0 := (hg.cell go).trans h0
  have c1 := (hg.cell (go + 1)).trans h1
  have f1 := hg.free (go + 1)
  have c2 := (hg.cell (go + 2)).trans h2
  have hmk : ∀ w : World, (Instr.makeSlice 56 (.int .i64 1) (.int .i64 1)).run Try.prog w = .ok (.slice (some ⟨w.heap.size, 0, none⟩) 1 1) (w.alloc (.cells #[.int .u8 0] 5)) := fun _ => by kernel_rfl
  have lg := hg.lt
  have li := World.block_lt_of_cell? w _ i0
  have hc := fun (W : World) (h : W.cell? ⟨w.heap.size, 0, none⟩ = some (.int .u8 97)) => conv_one W w.heap.size h
  have hH := ((hg.put (go + 1) (.string ⟨#[97]⟩)).alloc (Obj.cells #[.int .u8 97] 5)).alloc (Obj.cells #[.bool false, .pointer none, .int .u8 97] 106)
  have hK := (((Kept.refl (fun k => k = gb) w).put (p := ⟨gb, go + 1, none⟩) (.inl rfl) (.string ⟨#[97]⟩)).alloc (Obj.cells #[.int .u8 97] 5)).alloc (Obj.cells #[.bool false, .pointer none, .int .u8 97] 106)
  have HH := Lib.hid hH
  have HK := Lib.hid hK
  clear hH hK hg h0 h1 h2
  go_enter Try.func94, Try.ntmps94
  go_wp2
  refine wp_loop_rounds 3 ?_
  rw [rounds_succ]
  go_wp2
  rw [rounds_succ]
  go_wp2
  go_end0
  exact ⟨rfl, HH.out, HK.out⟩
theorem prefix_at (w : World) (_h : Lib.hasPrefix [97, 98, 99, 122, 113] [97] = true := by rfl) :
    Calls Try.prog 71 #[.string ⟨#[97, 98, 99, 122, 113]⟩, .string ⟨#[97]⟩] w fun e w' => e = .returned (.bool true) ∧ w' = w :=
  (Try.strings_HasPrefix _ _ w).mono fun e w' ⟨he, hw⟩ => ⟨by rw [he]; rfl, hw⟩

set_option maxRecDepth 100000 in
set_option maxHeartbeats 1600000 in
theorem at_plain (gb go ib cap : Nat) (cs : Array Value) (w : World) (hg : Has w gb 84 cs) (h0 : cs[go]? = some (.slice (some ⟨ib, 0, none⟩) 1 cap)) (h1 : cs[go + 1]? = some (.string ⟨#[97]⟩)) (h2 : cs[go + 2]? = some (.bool true)) :
    Calls Try.prog 74 #[.pointer (some ⟨gb, go, none⟩), .string ⟨#[97, 98, 99, 122, 113]⟩, .int .i64 0] w fun e w' => e = .returned (.bool true) ∧ ∃ n, w' = w.drewN n := by
  have c0 := (hg.cell go).trans h0
  have c1 := (hg.cell (go + 1)).trans h1
  have c2 := (hg.cell (go + 2)).trans h2
  clear h0 h1 h2 hg
  go_enter Try.func74, Try.ntmps74
  go_wp2
  go_quiet ((go_at_call 71; exact Calls.quiet_of_same (prefix_at _)))
  go_wp2
  go_ret
  exact ⟨rfl, _, rfl⟩

set_option maxRecDepth 100000 in
set_option maxHeartbeats 1600000 in
theorem fits_any (w : World) (c : Int) :
    Calls Try.prog 95 #[.agg #[.bool true, .pointer none, .int .u8 0], .int .u8 c] w fun e w' => e = .returned (.bool true) ∧ w.alloc (.cells #[.bool true, .pointer none, .int .u8 0] 106) = w' := by
  go_enter Try.func95, Try.ntmps95
  go_wp2
  go_ret
  exact ⟨rfl, rfl⟩

set_option maxRecDepth 100000 in
set_option maxHeartbeats 1600000 in
theorem fits_set (w : World) (sb : Nat) (hc : w.cell? ⟨sb, 122, none⟩ = some (.bool true)) :
    Calls Try.prog 95 #[.agg #[.bool false, .pointer (some ⟨sb, 0, none⟩), .int .u8 0], .int .u8 122] w fun e w' => e = .returned (.bool true) ∧ w.alloc (.cells #[.bool false, .pointer (some ⟨sb, 0, none⟩), .int .u8 0] 106) = w' := by
  have hl : sb < w.heap.size := World.block_lt_of_cell? w _ hc
  go_enter Try.func95, Try.ntmps95
  go_wp2
  go_ret
  exact ⟨rfl, rfl⟩

set_option maxRecDepth 100000 in
set_option maxHeartbeats 1600000 in
theorem at_set (gb go ib cap sb : Nat) (cs : Array Value) (w : World) (hg : Has w gb 84 cs) (h0 : cs[go]? = some (.slice (some ⟨ib, 0, none⟩) 2 cap)) (h2 : cs[go + 2]? = some (.bool false))
    (i0 : w.cell? ⟨ib, 0, none⟩ = some (.bool false)) (i1 : w.cell? ⟨ib, 1, none⟩ = some (.pointer (some ⟨sb, 0, none⟩))) (i2 : w.cell? ⟨ib, 2, none⟩ = some (.int .u8 0))
    (i3 : w.cell? ⟨ib, 3, none⟩ = some (.bool true)) (i4 : w.cell? ⟨ib, 4, none⟩ = some (.pointer none)) (i5 : w.cell? ⟨ib, 5, none⟩ = some (.int .u8 0)) (hc : w.cell? ⟨sb, 122, none⟩ = some (.bool true)) :
    Calls Try.prog 74 #[.pointer (some ⟨gb, go, none⟩), .string ⟨#[97, 98, 99, 122, 113]⟩, .int .i64 3] w fun e w' => e = .returned (.bool true) ∧ Below w.heap.size w w' := by
  have c0 := (hg.cell go).trans h0
  have c2 := (hg.cell (go + 2)).trans h2
  have lg := hg.lt
  have li := World.block_lt_of_cell? w _ i0
  have ls := World.block_lt_of_cell? w _ hc
  clear h0 h2 hg
  go_enter Try.func74, Try.ntmps74
  go_wp2
  refine wp_loop_rounds 3 ?_
  rw [rounds_succ]
  go_wp2
  go_region_held3 (fun w' => w'.cell? ⟨w.heap.size, 0, none⟩ = some (.bool false) ∧ w'.cell? ⟨w.heap.size, 1, none⟩ = some (.pointer (some ⟨sb, 0, none⟩)) ∧ w'.cell? ⟨w.heap.size, 2, none⟩ = some (.int .u8 0) ∧ w'.cell? ⟨sb, 122, none⟩ = some (.bool true)) (go_keep)
    ((go_at_call 95; refine (fits_set _ sb ?_).mono ?_; (simp [*]); rintro e w' ⟨rfl, rfl⟩))
  go_wp2
  have hb : Below w.heap.size w (((w.alloc (Obj.cells #[Value.bool false, Value.pointer (some { block := sb, off := 0 }), Value.int IntKind.u8 0] 106)).alloc (Obj.cells #[Value.bool false, Value.pointer (some { block := sb, off := 0 }), Value.int IntKind.u8 0] 106)).drew) := (((Below.refl _ w).alloc (Nat.le_refl _) _).alloc (by simp) _).drew
  have j3 := (hb.cell (p := ⟨ib, 3, none⟩) li).trans i3
  have j4 := (hb.cell (p := ⟨ib, 4, none⟩) li).trans i4
  have j5 := (hb.cell (p := ⟨ib, 5, none⟩) li).trans i5
  have lz := hb.size
  generalize (((w.alloc (Obj.cells #[Value.bool false, Value.pointer (some { block := sb, off := 0 }), Value.int IntKind.u8 0] 106)).alloc (Obj.cells #[Value.bool false, Value.pointer (some { block := sb, off := 0 }), Value.int IntKind.u8 0] 106)).drew) = W1 at hb j3 j4 j5 lz ⊢
  have li1 : ib < W1.heap.size := by omega
  clear i0 i1 i2 i3 i4 i5 hc c0 c2 lg ls
  rw [rounds_succ]
  go_wp2
  go_region_held3 (fun w' => w'.cell? ⟨W1.heap.size, 0, none⟩ = some (.bool true) ∧ w'.cell? ⟨W1.heap.size, 1, none⟩ = some (.pointer none) ∧ w'.cell? ⟨W1.heap.size, 2, none⟩ = some (.int .u8 0)) (go_keep)
    ((go_at_call 95; refine (fits_any _ _).mono ?_; rintro e w' ⟨rfl, rfl⟩))
  go_wp2
  rw [rounds_succ]
  go_wp2
  go_ret
  exact ⟨rfl, ((hb.alloc lz _).alloc (by simp; omega) _).drew⟩
end Go.Proofs.Ytneklmalkmeohaa
