/- place and state: what a word means. -/
import Derived.Test.YtcnmblfdieegfaaSp2
import Derived.Test.YtcnmblfdieegfaaSplit
import Derived.Laws.ResultCell
import Derived.Laws.Rows
import Derived.Deep.MidRow
namespace Go.Proofs.Ytcnmblfdieegfaa
open Go.RowKit Go.ChangeMaps
attribute [local go_sem] put_size

theorem Try.size64 : (Try.prog.info? 64).map (·.size) = some 3 := by kernel_rfl

theorem results_cell_row_tmp {fn : Func} {p u : Tmp} {ty : TypeId} (h : fn.results = #[.cell p ty, .tmp u]) (tmps : Array Value) (w : World) (g : Nat) (t : TypeId) (cs : List Value) (d : TypeDesc)
    (hp : tmps.getD p undef = .pointer (some ⟨g, 0, none⟩)) (hg : Has w g t cs.toArray) (hu : Try.prog.underlying ty = some d) (hd : d.isRow = true) (hi : (Try.prog.info? ty).map (·.size) = some cs.length) :
    (results fn tmps).run Try.prog w = .ok (.tuple #[.agg cs.toArray, tmps.getD u undef]) w := by
  have hc : w.rangeAt g 0 cs := fun k v hv => by
    rw [Nat.zero_add]
    exact (hg.cell k).trans (by simpa using hv)
  have hp' : tmps[p]?.getD undef = .pointer (some ⟨g, 0, none⟩) := by simpa using hp
  simp [results, h, hp', asAddr, run_loadVar_mid w g 0 ty cs d hc hu hd hi]

theorem Below.drewAt' {B : Nat} {w W : World} (hB : Below B w W) (n : Nat) : Below B w (W.drewN n) := hB.trans ⟨rfl, rfl, rfl, Nat.le_refl _, fun _ _ => rfl⟩

set_option maxHeartbeats 1600000 in
set_option maxRecDepth 100000 in
theorem place_plain (W : World) (p S g N cb i i2 : Nat) (R C l : Value) (n : Int) (word base idx ix : ByteArray) (el mk : Bool) (lk : Value) (es es2 : Array MapEntry) (ck ck2 : Nat)
    (hP : Has W p 60 #[.map (some S), R, C, l]) (hS : HasM W S es ck) (hf : Instr.findNow (.int .i64) (.int .i64 n) es.toList 0 = some (some (i, .map (some g))))
    (hG : HasM W g es2 ck2) (hf2 : Instr.findNow .string (.string base) es2.toList 0 = some (some (i2, .pointer (some ⟨N, 0, none⟩))))
    (hN : Has W N 89 #[.pointer (some ⟨cb, 0, none⟩), .bool false, .string ix, lk]) (hw : splitVal word = .tuple #[.string base, .string idx, .bool el]) (hw4 : word.size ≤ 400) :
    Calls Try.prog 39 #[.pointer (some ⟨p, 0, none⟩), .int .i64 n, .string word, .bool mk] W fun e w' => e = .returned (.tuple #[.agg #[.pointer (some ⟨cb, 0, none⟩), .bool el, .string idx], .int .i64 0]) ∧ Below W.heap.size W w' := by
  have hP1 := hP.alloc (.cells #[.pointer none, .bool false, .string ⟨#[]⟩] 64)
  have hS1 := hS.alloc (.cells #[.pointer none, .bool false, .string ⟨#[]⟩] 64)
  have hG1 := hG.alloc (.cells #[.pointer none, .bool false, .string ⟨#[]⟩] 64)
  have hN1 := hN.alloc (.cells #[.pointer none, .bool false, .string ⟨#[]⟩] 64)
  have hR1 := Has.new W 64 #[.pointer none, .bool false, .string ⟨#[]⟩]
  have hB1 : Below W.heap.size W (W.alloc (.cells #[.pointer none, .bool false, .string ⟨#[]⟩] 64)) := (Below.refl _ W).alloc (Nat.le_refl _) _
  have hsp := fun W => split_any word W hw4
  rw [hw] at hsp
  go_enter Try.func39, Try.ntmps39
  go_wp2_with fail
  generalize W.alloc (.cells #[.pointer none, .bool false, .string ⟨#[]⟩] 64) = W1 at *
  go_wp2_with (go_at_call 49; refine (scope_at _ p S g i R C l n es ck hP1 hS1 hf).mono ?_; rintro e w' ⟨rfl, rfl⟩)
  refine (hsp _).mono ?_
  rintro e w' ⟨rfl, m, rfl⟩
  have hG2 : HasM (W1.drewN m) g es2 ck2 := hG1
  have hN2 : Has (W1.drewN m) N 89 #[.pointer (some ⟨cb, 0, none⟩), .bool false, .string ix, lk] := hN1
  have hR2 : Has (W1.drewN m) W.heap.size 64 #[.pointer none, .bool false, .string ⟨#[]⟩] := hR1
  have hB2 := Below.drewAt' hB1 m
  clear hP1 hS1 hG1 hN1 hR1 hB1
  generalize W1.drewN m = W2 at *
  have n0 := hN2.cell 0
  have n1 := hN2.cell 1
  have n2 := hN2.cell 2
  have r0 := hR2.cell 0
  have r1 := hR2.cell 1
  have r2 := hR2.cell 2
  have q0 := hR2.free 0
  have q1 := hR2.free 1
  have q2 := hR2.free 2
  simp at n0 n1 n2 r0 r1 r2
  go_wp2_with (go_at_call 50; refine (named_hit _ g i2 N base mk es2 ck2 hG2 hf2).mono ?_; rintro e w' ⟨rfl, rfl⟩)
  try simp only [Exit.inBlock, Exit.then]
  have hR3 := ((hR2.put 0 (.pointer (some ⟨cb, 0, none⟩))).put 1 (.bool el)).put 2 (.string idx)
  refine bodyPost_ret (results_cell_row_tmp rfl _ _ W.heap.size 64 [.pointer (some ⟨cb, 0, none⟩), .bool el, .string idx] _ rfl hR3 Try.underlying64 rfl Try.size64) rfl ?_
  exact ⟨rfl, ((hB2.setCell (p := ⟨W.heap.size, 0, none⟩) (Nat.le_refl _) _).setCell (p := ⟨W.heap.size, 1, none⟩) (Nat.le_refl _) _).setCell (p := ⟨W.heap.size, 2, none⟩) (Nat.le_refl _) _⟩
set_option maxHeartbeats 1600000 in
set_option maxRecDepth 100000 in
theorem place_link (W : World) (p S g N cb i i2 : Nat) (R C l : Value) (n : Int) (word base idx ix : ByteArray) (mk : Bool) (lk : Value) (es es2 : Array MapEntry) (ck ck2 : Nat)
    (hP : Has W p 60 #[.map (some S), R, C, l]) (hS : HasM W S es ck) (hf : Instr.findNow (.int .i64) (.int .i64 n) es.toList 0 = some (some (i, .map (some g))))
    (hG : HasM W g es2 ck2) (hf2 : Instr.findNow .string (.string base) es2.toList 0 = some (some (i2, .pointer (some ⟨N, 0, none⟩))))
    (hN : Has W N 89 #[.pointer (some ⟨cb, 0, none⟩), .bool true, .string ix, lk]) (hw : splitVal word = .tuple #[.string base, .string idx, .bool false]) (hw4 : word.size ≤ 400) :
    Calls Try.prog 39 #[.pointer (some ⟨p, 0, none⟩), .int .i64 n, .string word, .bool mk] W fun e w' => e = .returned (.tuple #[.agg #[.pointer (some ⟨cb, 0, none⟩), .bool true, .string ix], .int .i64 0]) ∧ Below W.heap.size W w' := by
  have hP1 := hP.alloc (.cells #[.pointer none, .bool false, .string ⟨#[]⟩] 64)
  have hS1 := hS.alloc (.cells #[.pointer none, .bool false, .string ⟨#[]⟩] 64)
  have hG1 := hG.alloc (.cells #[.pointer none, .bool false, .string ⟨#[]⟩] 64)
  have hN1 := hN.alloc (.cells #[.pointer none, .bool false, .string ⟨#[]⟩] 64)
  have hR1 := Has.new W 64 #[.pointer none, .bool false, .string ⟨#[]⟩]
  have hB1 : Below W.heap.size W (W.alloc (.cells #[.pointer none, .bool false, .string ⟨#[]⟩] 64)) := (Below.refl _ W).alloc (Nat.le_refl _) _
  have hsp := fun W => split_any word W hw4
  rw [hw] at hsp
  go_enter Try.func39, Try.ntmps39
  go_wp2_with fail
  generalize W.alloc (.cells #[.pointer none, .bool false, .string ⟨#[]⟩] 64) = W1 at *
  go_wp2_with (go_at_call 49; refine (scope_at _ p S g i R C l n es ck hP1 hS1 hf).mono ?_; rintro e w' ⟨rfl, rfl⟩)
  refine (hsp _).mono ?_
  rintro e w' ⟨rfl, m, rfl⟩
  have hG2 : HasM (W1.drewN m) g es2 ck2 := hG1
  have hN2 : Has (W1.drewN m) N 89 #[.pointer (some ⟨cb, 0, none⟩), .bool true, .string ix, lk] := hN1
  have hR2 : Has (W1.drewN m) W.heap.size 64 #[.pointer none, .bool false, .string ⟨#[]⟩] := hR1
  have hB2 := Below.drewAt' hB1 m
  clear hP1 hS1 hG1 hN1 hR1 hB1
  generalize W1.drewN m = W2 at *
  have n0 := hN2.cell 0
  have n1 := hN2.cell 1
  have n2 := hN2.cell 2
  have r0 := hR2.cell 0
  have r1 := hR2.cell 1
  have r2 := hR2.cell 2
  have q0 := hR2.free 0
  have q1 := hR2.free 1
  have q2 := hR2.free 2
  simp at n0 n1 n2 r0 r1 r2
  go_wp2_with (go_at_call 50; refine (named_hit _ g i2 N base mk es2 ck2 hG2 hf2).mono ?_; rintro e w' ⟨rfl, rfl⟩)
  go_region
  go_wp2
  try simp only [Exit.inBlock, Exit.then]
  have hR3 := ((hR2.put 0 (.pointer (some ⟨cb, 0, none⟩))).put 1 (.bool true)).put 2 (.string ix)
  refine bodyPost_ret (results_cell_row_tmp rfl _ _ W.heap.size 64 [.pointer (some ⟨cb, 0, none⟩), .bool true, .string ix] _ rfl hR3 Try.underlying64 rfl Try.size64) rfl ?_
  exact ⟨rfl, (((hB2.setCell (p := ⟨W.heap.size, 0, none⟩) (Nat.le_refl _) _).setCell (p := ⟨W.heap.size, 1, none⟩) (Nat.le_refl _) _).setCell (p := ⟨W.heap.size, 2, none⟩) (Nat.le_refl _) _).drew⟩
end Go.Proofs.Ytcnmblfdieegfaa
