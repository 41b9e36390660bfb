/- Set, Get and Kind at the words of the sanity check. -/
import Derived.Test.YtcnmblfdieegfaaLink
namespace Go.Proofs.Ytcnmblfdieegfaa
open Go.RowKit Go.ChangeMaps
attribute [local go_sem] put_size

theorem Try.nil69 (w : World) : (binOp .eql 69 (.map none) (.map none)).run Try.prog w = .ok (.bool true) w := by kernel_rfl

set_option maxHeartbeats 3200000 in
set_option maxRecDepth 100000 in
theorem set_at (W : World) (p S g1 M cb nb i1 : Nat) (R C l : Value) (es : Array MapEntry) (ck : Nat) (hP : Has W p 60 #[.map (some S), R, C, l]) (hS : HasM W S es ck)
    (hf1 : Instr.findNow (.int .i64) (.int .i64 1) es.toList 0 = some (some (i1, .map (some g1))))
    (hG1 : HasM W g1 #[ent (.string ⟨#[120]⟩) (.pointer (some ⟨M, 0, none⟩)) 0] 1) (hM : Has W M 89 #[.pointer (some ⟨cb, 0, none⟩), .bool true, .string ⟨#[49]⟩, .pointer (some ⟨nb, 0, none⟩)]) (hC : Has W cb 71 #[.int .i64 0, .string ⟨#[]⟩, .map none]) :
    Calls Try.prog 23 #[.pointer (some ⟨p, 0, none⟩), .int .i64 1, .string ⟨#[120]⟩, .string ⟨#[53]⟩] W fun e w' => e = .returned (.int .i64 0) ∧
      ∃ mb, HasM w' mb #[ent (.string ⟨#[49]⟩) (.string ⟨#[53]⟩) 0] 1 ∧ Has w' cb 71 #[.int .i64 2, .string ⟨#[]⟩, .map (some mb)] ∧ Kept (fun k => k = cb) W w' := by
  have hmm := @run_makeMap Try.prog
  go_enter Try.func23, Try.ntmps23
  go_wp2_with fail
  refine (place_link W p S g1 M cb i1 0 R C l 1 ⟨#[120]⟩ ⟨#[120]⟩ ⟨#[]⟩ ⟨#[49]⟩ true (.pointer (some ⟨nb, 0, none⟩)) es _ ck _ hP hS hf1 hG1 rfl hM val_x (by decide)).mono ?_
  rintro e W1 ⟨rfl, hB1⟩
  have hC1 := hC.below hB1
  have K1 : Kept (fun k => k = cb) W W1 := Kept.of_below hB1
  clear hP hS hG1 hM hC hB1
  go_wp2_with fail
  have hC2 := hC1.alloc (.cells #[.pointer (some ⟨cb, 0, none⟩), .bool true, .string ⟨#[49]⟩] 64)
  have hT2 := Has.new W1 64 #[.pointer (some ⟨cb, 0, none⟩), .bool true, .string ⟨#[49]⟩]
  have K2 := K1.alloc (.cells #[.pointer (some ⟨cb, 0, none⟩), .bool true, .string ⟨#[49]⟩] 64)
  have lc1 := hC1.lt
  clear hC1 K1
  generalize W1.alloc (.cells #[.pointer (some ⟨cb, 0, none⟩), .bool true, .string ⟨#[49]⟩] 64) = W2 at *
  generalize W1.heap.size = tb at *
  refine (state_none W2 cb _ ⟨#[49]⟩ hC2).mono ?_
  rintro e W3 ⟨rfl, hB3⟩
  have hC3 := hC2.below hB3
  have hT3 := hT2.below hB3
  have K3 := K2.trans (Kept.of_below hB3)
  clear hC2 hT2 K2 hB3
  have t0 := hT3.cell 0
  have t1 := hT3.cell 1
  have t2 := hT3.cell 2
  have c0 := hC3.cell 0
  have c2 := hC3.cell 2
  have f0 := hC3.free 0
  have f2 := hC3.free 2
  simp at t0 t1 t2 c0 c2
  have heq := Try.nil69
  have hC4 : Has (W3.setCell ⟨cb, 0, none⟩ (.int .i64 2)) cb 71 #[.int .i64 2, .string ⟨#[]⟩, .map none] := hC3.put 0 (.int .i64 2)
  have hT4 := hT3.far (p := ⟨cb, 0, none⟩) (by simp; omega) (.int .i64 2)
  have K4 := K3.put (p := ⟨cb, 0, none⟩) (.inl rfl) (.int .i64 2)
  have z4 : (W3.setCell ⟨cb, 0, none⟩ (.int .i64 2)).heap.size = W3.heap.size := by simp
  have hC5 := hC4.alloc (.map #[] 0)
  have hT5 := hT4.alloc (.map #[] 0)
  have hM5 := HasM.fresh z4
  have K5 := K4.alloc (.map #[] 0)
  have d2 := hC5.cell 2
  have g2 := hC5.free 2
  simp at d2
  have lc3 := hC3.lt
  have hz3 := K3.size
  have hC6 : Has (((W3.setCell ⟨cb, 0, none⟩ (.int .i64 2)).setCell ⟨cb, 2, none⟩ (.map (some W3.heap.size))).alloc (.map #[] 0)) cb 71 #[.int .i64 2, .string ⟨#[]⟩, .map (some W3.heap.size)] := (hC4.put 2 (.map (some W3.heap.size))).alloc _
  have hT6 := (hT4.far (p := ⟨cb, 2, none⟩) (by simp; omega) (.map (some W3.heap.size))).alloc (.map #[] 0)
  have hM6 : HasM (((W3.setCell ⟨cb, 0, none⟩ (.int .i64 2)).setCell ⟨cb, 2, none⟩ (.map (some W3.heap.size))).alloc (.map #[] 0)) W3.heap.size #[] 0 := HasM.fresh (by simp)
  have K6 := (K4.put (p := ⟨cb, 2, none⟩) (.inl rfl) (.map (some W3.heap.size))).alloc (.map #[] 0)
  clear hC5 hT5 hM5 K5
  go_wp2
  generalize (((W3.setCell ⟨cb, 0, none⟩ (.int .i64 2)).setCell ⟨cb, 2, none⟩ (.map (some W3.heap.size))).alloc (.map #[] 0)) = W6 at *
  generalize W3.heap.size = mb at *
  have u0 := hT6.cell 0
  have u2 := hT6.cell 2
  have e2 := hC6.cell 2
  simp at u0 u2 e2
  have hM7 : HasM W6.drew mb #[] 0 := hM6
  have hput : (Instr.mapUpdate 69 (.map (some mb)) (.string ⟨#[49]⟩) (.string ⟨#[53]⟩)).run Try.prog W6.drew = .ok () (setBlock W6.drew mb (.map #[ent (.string ⟨#[49]⟩) (.string ⟨#[53]⟩) 0] 1)) :=
    map_put (P := Try.prog) (xT := 69) Try.underlying69 Try.underlying9 (key := .string ⟨#[49]⟩) (by simp [MapKept.IsKey]) hM7 rfl (.string ⟨#[53]⟩)
  have hput' : (Instr.mapUpdate 69 (.map (some mb)) (.string ⟨#[49]⟩) (.string ⟨#[53]⟩)).run Try.prog W6 = .ok () (setBlock W6 mb (.map #[ent (.string ⟨#[49]⟩) (.string ⟨#[53]⟩) 0] 1)) :=
    map_put (P := Try.prog) (xT := 69) Try.underlying69 Try.underlying9 (key := .string ⟨#[49]⟩) (by simp [MapKept.IsKey]) hM6 rfl (.string ⟨#[53]⟩)
  go_region
  go_wp2
  have hC7 : Has W6.drew cb 71 #[.int .i64 2, .string ⟨#[]⟩, .map (some mb)] := hC6
  go_ret
  exact ⟨rfl, mb, hM7.laid _ _, hC7.beside (by omega) _, K6.drew.lay (.inr hz3) _⟩

set_option maxHeartbeats 3200000 in
set_option maxRecDepth 100000 in
theorem get_at (W : World) (p S g0 N cb mb i0 : Nat) (R C l : Value) (es : Array MapEntry) (ck : Nat) (hP : Has W p 60 #[.map (some S), R, C, l]) (hS : HasM W S es ck)
    (hf0 : Instr.findNow (.int .i64) (.int .i64 0) es.toList 0 = some (some (i0, .map (some g0))))
    (hG0 : HasM W g0 #[ent (.string ⟨#[97]⟩) (.pointer (some ⟨N, 0, none⟩)) 0] 1) (hN : Has W N 89 #[.pointer (some ⟨cb, 0, none⟩), .bool false, .string ⟨#[]⟩, .pointer (some ⟨cb, 0, none⟩)])
    (hC : Has W cb 71 #[.int .i64 2, .string ⟨#[]⟩, .map (some mb)]) (hM : HasM W mb #[ent (.string ⟨#[49]⟩) (.string ⟨#[53]⟩) 0] 1) :
    Calls Try.prog 24 #[.pointer (some ⟨p, 0, none⟩), .int .i64 0, .string ⟨#[97, 40, 49, 41]⟩] W fun e w' => e = .returned (.tuple #[.string ⟨#[53]⟩, .int .i64 0]) ∧ Below W.heap.size W w' := by
  go_enter Try.func24, Try.ntmps24
  go_wp2_with fail
  refine (place_plain W p S g0 N cb i0 0 R C l 0 ⟨#[97, 40, 49, 41]⟩ ⟨#[97]⟩ ⟨#[49]⟩ ⟨#[]⟩ true false (.pointer (some ⟨cb, 0, none⟩)) es _ ck _ hP hS hf0 hG0 rfl hN val_a1 (by decide)).mono ?_
  rintro e W1 ⟨rfl, hB1⟩
  have hC1 := hC.below hB1
  have hM1 := hM.below hB1
  clear hP hS hG0 hN hC hM
  go_wp2_with fail
  have hC2 := hC1.alloc (.cells #[.pointer (some ⟨cb, 0, none⟩), .bool true, .string ⟨#[49]⟩] 64)
  have hM2 := hM1.alloc (.cells #[.pointer (some ⟨cb, 0, none⟩), .bool true, .string ⟨#[49]⟩] 64)
  have hT2 := Has.new W1 64 #[.pointer (some ⟨cb, 0, none⟩), .bool true, .string ⟨#[49]⟩]
  have hB2 := hB1.alloc hB1.size (.cells #[.pointer (some ⟨cb, 0, none⟩), .bool true, .string ⟨#[49]⟩] 64)
  clear hC1 hM1 hB1
  generalize W1.alloc (.cells #[.pointer (some ⟨cb, 0, none⟩), .bool true, .string ⟨#[49]⟩] 64) = W2 at *
  generalize W1.heap.size = tb at *
  refine (state_some W2 cb mb 0 _ (.string ⟨#[53]⟩) ⟨#[49]⟩ _ _ hC2 hM2 rfl).mono ?_
  rintro e W3 ⟨rfl, hB3⟩
  have hC3 := hC2.below hB3
  have hT3 := hT2.below hB3
  have hM3 := hM2.below hB3
  have B3 := hB2.trans (hB3.mono hB2.size)
  clear hC2 hT2 hM2 hB2 hB3
  have t0 := hT3.cell 0
  have t1 := hT3.cell 1
  have t2 := hT3.cell 2
  have c2 := hC3.cell 2
  simp at t0 t1 t2 c2
  have hl := map_look (P := Try.prog) (xT := 69) Try.underlying69 Try.underlying9 (key := .string ⟨#[49]⟩) (by simp [MapKept.IsKey]) hM3 (i := 0) (v := .string ⟨#[53]⟩) rfl false
  have hM4 : HasM W3.drew mb #[ent (.string ⟨#[49]⟩) (.string ⟨#[53]⟩) 0] 1 := hM3
  have hl2 := map_look (P := Try.prog) (xT := 69) Try.underlying69 Try.underlying9 (key := .string ⟨#[49]⟩) (by simp [MapKept.IsKey]) hM4 (i := 0) (v := .string ⟨#[53]⟩) rfl false
  rw [if_neg (by simp)] at hl hl2
  go_wp2
  go_region
  go_wp2
  go_ret2
  exact ⟨rfl, B3.drew⟩

set_option maxHeartbeats 3200000 in
set_option maxRecDepth 100000 in
theorem kind_at (W : World) (p S g0 N cb i0 : Nat) (R C l u : Value) (es : Array MapEntry) (ck : Nat) (hP : Has W p 60 #[.map (some S), R, C, l]) (hS : HasM W S es ck)
    (hf0 : Instr.findNow (.int .i64) (.int .i64 0) es.toList 0 = some (some (i0, .map (some g0))))
    (hG0 : HasM W g0 #[ent (.string ⟨#[97]⟩) (.pointer (some ⟨N, 0, none⟩)) 0] 1) (hN : Has W N 89 #[.pointer (some ⟨cb, 0, none⟩), .bool false, .string ⟨#[]⟩, .pointer (some ⟨cb, 0, none⟩)])
    (hC : Has W cb 71 #[.int .i64 2, .string ⟨#[]⟩, u]) :
    Calls Try.prog 25 #[.pointer (some ⟨p, 0, none⟩), .int .i64 0, .string ⟨#[97]⟩] W fun e w' => e = .returned (.int .i64 2) ∧ Below W.heap.size W w' := by
  go_enter Try.func25, Try.ntmps25
  go_wp2_with fail
  refine (place_plain W p S g0 N cb i0 0 R C l 0 ⟨#[97]⟩ ⟨#[97]⟩ ⟨#[]⟩ ⟨#[]⟩ false false (.pointer (some ⟨cb, 0, none⟩)) es _ ck _ hP hS hf0 hG0 rfl hN val_a (by decide)).mono ?_
  rintro e W1 ⟨rfl, hB1⟩
  have hC1 := hC.below hB1
  clear hP hS hG0 hN hC
  go_wp2_with fail
  have hC2 := hC1.alloc (.cells #[.pointer (some ⟨cb, 0, none⟩), .bool false, .string ⟨#[]⟩] 64)
  have hB2 := hB1.alloc hB1.size (.cells #[.pointer (some ⟨cb, 0, none⟩), .bool false, .string ⟨#[]⟩] 64)
  clear hC1 hB1
  generalize W1.alloc (.cells #[.pointer (some ⟨cb, 0, none⟩), .bool false, .string ⟨#[]⟩] 64) = W2 at *
  refine (state_whole W2 cb _ _ 2 ⟨#[]⟩ hC2).mono ?_
  rintro e W3 ⟨rfl, hB3⟩
  have B3 := hB2.trans (hB3.mono hB2.size)
  go_wp2
  go_ret
  exact ⟨rfl, B3⟩

set_option maxRecDepth 100000 in
theorem link_outer (W : World) (p S g0 g1 i0 i1 : Nat) (R C l : Value) (es : Array MapEntry) (ck : Nat) (hP : Has W p 60 #[.map (some S), R, C, l]) (hS : HasM W S es ck)
    (hf0 : Instr.findNow (.int .i64) (.int .i64 0) es.toList 0 = some (some (i0, .map (some g0)))) (hf1 : Instr.findNow (.int .i64) (.int .i64 1) es.toList 0 = some (some (i1, .map (some g1))))
    (hG0 : HasM W g0 #[] 0) (hG1 : HasM W g1 #[] 0) (hS0 : S ≠ g0) (hS1 : S ≠ g1) (hgg : g0 ≠ g1) :
    Calls Try.prog 22 #[.pointer (some ⟨p, 0, none⟩), .int .i64 1, .string ⟨#[120]⟩, .int .i64 0, .string ⟨#[97, 40, 49, 41]⟩] W fun e w' => e = .returned (.int .i64 0) ∧
      ∃ cb nb N M, HasM w' g0 #[ent (.string ⟨#[97]⟩) (.pointer (some ⟨N, 0, none⟩)) 0] 1 ∧ HasM w' g1 #[ent (.string ⟨#[120]⟩) (.pointer (some ⟨M, 0, none⟩)) 0] 1 ∧ Has w' cb 71 #[.int .i64 0, .string ⟨#[]⟩, .map none]
        ∧ Has w' N 89 #[.pointer (some ⟨cb, 0, none⟩), .bool false, .string ⟨#[]⟩, .pointer (some ⟨cb, 0, none⟩)] ∧ Has w' M 89 #[.pointer (some ⟨cb, 0, none⟩), .bool true, .string ⟨#[49]⟩, .pointer (some ⟨nb, 0, none⟩)] ∧ W.heap.size ≤ cb ∧ cb < N ∧ N < M ∧ Kept (fun k => k = g0 ∨ k = g1) W w' := by
  have hL := link_at W p S g0 g1 i0 i1 R C l es ck hP hS hf0 hf1 hG0 hG1 hS0 hS1 hgg
  have HL := Lib.hid hL
  clear hL hP hS hf0 hf1 hG0 hG1 hS0 hS1 hgg
  go_enter Try.func22, Try.ntmps22
  go_wp2_with fail
  refine HL.out.mono ?_
  rintro e w' ⟨rfl, h⟩
  go_wp2
  go_ret
  exact ⟨rfl, h⟩
end Go.Proofs.Ytcnmblfdieegfaa
