/- state: the kind of a place. -/
import Derived.Test.YtcnmblfdieegfaaSp2
namespace Go.Proofs.Ytcnmblfdieegfaa
open Go.RowKit Go.ChangeMaps

set_option maxHeartbeats 800000 in
set_option maxRecDepth 100000 in
theorem state_none (W : World) (cb : Nat) (v : Value) (ix : ByteArray) (hC : Has W cb 71 #[.int .i64 0, v, .map none]) :
    Calls Try.prog 40 #[.agg #[.pointer (some ⟨cb, 0, none⟩), .bool true, .string ix]] W fun e w' => e = .returned (.tuple #[.int .i64 0, .bool false]) ∧ Below W.heap.size W w' := by
  have hC1 := hC.alloc (.cells #[.pointer (some ⟨cb, 0, none⟩), .bool true, .string ix] 64)
  have hR1 := Has.new W 64 #[.pointer (some ⟨cb, 0, none⟩), .bool true, .string ix]
  have hB1 : Below W.heap.size W (W.alloc (.cells #[.pointer (some ⟨cb, 0, none⟩), .bool true, .string ix] 64)) := (Below.refl _ W).alloc (Nat.le_refl _) _
  have hl := fun W => map_nil (P := Try.prog) (w := W) (xT := 69) Try.underlying69 Try.underlying9 (key := .string ix) (by simp [MapKept.IsKey]) (Try.zero9 W) true
  simp only [if_true] at hl
  have c0 := hC1.cell 0
  have c2 := hC1.cell 2
  have r0 := hR1.cell 0
  have r1 := hR1.cell 1
  have r2 := hR1.cell 2
  simp at c0 c2 r0 r1 r2
  go_enter Try.func40, Try.ntmps40
  go_wp2
  go_region
  go_wp2
  go_ret2
  exact ⟨rfl, hB1.drew⟩

set_option maxHeartbeats 800000 in
set_option maxRecDepth 100000 in
theorem state_some (W : World) (cb b i : Nat) (v u : Value) (ix : ByteArray) (es : Array MapEntry) (ck : Nat) (hC : Has W cb 71 #[.int .i64 2, v, .map (some b)]) (hM : HasM W b es ck) (hf : Instr.findNow .string (.string ix) es.toList 0 = some (some (i, u))) :
    Calls Try.prog 40 #[.agg #[.pointer (some ⟨cb, 0, none⟩), .bool true, .string ix]] W fun e w' => e = .returned (.tuple #[.int .i64 1, .bool false]) ∧ Below W.heap.size W w' := by
  have hC1 := hC.alloc (.cells #[.pointer (some ⟨cb, 0, none⟩), .bool true, .string ix] 64)
  have hM1 := hM.alloc (.cells #[.pointer (some ⟨cb, 0, none⟩), .bool true, .string ix] 64)
  have hR1 := Has.new W 64 #[.pointer (some ⟨cb, 0, none⟩), .bool true, .string ix]
  have hB1 : Below W.heap.size W (W.alloc (.cells #[.pointer (some ⟨cb, 0, none⟩), .bool true, .string ix] 64)) := (Below.refl _ W).alloc (Nat.le_refl _) _
  have hl := map_look (P := Try.prog) (xT := 69) Try.underlying69 Try.underlying9 (key := .string ix) (by simp [MapKept.IsKey]) hM1 hf true
  have hM2 : HasM (W.alloc (.cells #[.pointer (some ⟨cb, 0, none⟩), .bool true, .string ix] 64)).drew b es ck := hM1
  have hl2 := map_look (P := Try.prog) (xT := 69) Try.underlying69 Try.underlying9 (key := .string ix) (by simp [MapKept.IsKey]) hM2 hf true
  simp only [if_true] at hl hl2
  have c0 := hC1.cell 0
  have c2 := hC1.cell 2
  have r0 := hR1.cell 0
  have r1 := hR1.cell 1
  have r2 := hR1.cell 2
  simp at c0 c2 r0 r1 r2
  go_enter Try.func40, Try.ntmps40
  go_wp2
  go_region
  go_wp2
  go_ret2
  exact ⟨rfl, hB1.drew⟩

set_option maxHeartbeats 800000 in
set_option maxRecDepth 100000 in
theorem state_whole (W : World) (cb : Nat) (v u : Value) (k : Int) (ix : ByteArray) (hC : Has W cb 71 #[.int .i64 k, v, u]) :
    Calls Try.prog 40 #[.agg #[.pointer (some ⟨cb, 0, none⟩), .bool false, .string ix]] W fun e w' => e = .returned (.tuple #[.int .i64 k, .bool false]) ∧ Below W.heap.size W w' := by
  have hC1 := hC.alloc (.cells #[.pointer (some ⟨cb, 0, none⟩), .bool false, .string ix] 64)
  have hR1 := Has.new W 64 #[.pointer (some ⟨cb, 0, none⟩), .bool false, .string ix]
  have hB1 : Below W.heap.size W (W.alloc (.cells #[.pointer (some ⟨cb, 0, none⟩), .bool false, .string ix] 64)) := (Below.refl _ W).alloc (Nat.le_refl _) _
  have c0 := hC1.cell 0
  have r0 := hR1.cell 0
  have r1 := hR1.cell 1
  simp at c0 r0 r1
  go_enter Try.func40, Try.ntmps40
  go_wp2
  go_ret2
  exact ⟨rfl, hB1⟩
end Go.Proofs.Ytcnmblfdieegfaa
