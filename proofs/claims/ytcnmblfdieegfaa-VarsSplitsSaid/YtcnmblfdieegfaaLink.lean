/- Link at the words of the sanity check. -/
import Derived.Test.YtcnmblfdieegfaaPlace
import Derived.Test.YtcnmblfdieegfaaState
namespace Go.Proofs.Ytcnmblfdieegfaa
open Go.RowKit Go.ChangeMaps
attribute [local go_sem] put_size

theorem split_x (W : World) : Calls Try.prog 6 #[.string ⟨#[120]⟩] W fun e w' => e = .returned (.tuple #[.string ⟨#[120]⟩, .string ⟨#[]⟩, .bool false]) ∧ ∃ n, w' = W.drewN n :=
  (split_any ⟨#[120]⟩ W (by decide)).mono fun _ _ ⟨he, hw⟩ => ⟨by rw [he]; rfl, hw⟩
theorem val_x : splitVal ⟨#[120]⟩ = .tuple #[.string ⟨#[120]⟩, .string ⟨#[]⟩, .bool false] := rfl
theorem val_a : splitVal ⟨#[97]⟩ = .tuple #[.string ⟨#[97]⟩, .string ⟨#[]⟩, .bool false] := rfl
theorem val_a1 : splitVal ⟨#[97, 40, 49, 41]⟩ = .tuple #[.string ⟨#[97]⟩, .string ⟨#[49]⟩, .bool true] := rfl
theorem split_a1 (W : World) : Calls Try.prog 6 #[.string ⟨#[97, 40, 49, 41]⟩] W fun e w' => e = .returned (.tuple #[.string ⟨#[97]⟩, .string ⟨#[49]⟩, .bool true]) ∧ ∃ n, w' = W.drewN n :=
  (split_any ⟨#[97, 40, 49, 41]⟩ W (by decide)).mono fun _ _ ⟨he, hw⟩ => ⟨by rw [he]; rfl, hw⟩

theorem Kept.drewN' {S : Nat → Prop} {a b : World} (h : Kept S a b) (n : Nat) : Kept S a (b.drewN n) := h.drewN n

set_option maxHeartbeats 3200000 in
set_option maxRecDepth 100000 in
theorem link_at (W : World) (p S g0 g1 i0 i1 : Nat) (R C l : Value) (es : Array MapEntry) (ck : Nat) (hP : Has W p 60 #[.map (some S), R, C, l]) (hS : HasM W S es ck)
    (hf0 : Instr.findNow (.int .i64) (.int .i64 0) es.toList 0 = some (some (i0, .map (some g0)))) (hf1 : Instr.findNow (.int .i64) (.int .i64 1) es.toList 0 = some (some (i1, .map (some g1))))
    (hG0 : HasM W g0 #[] 0) (hG1 : HasM W g1 #[] 0) (hS0 : S ≠ g0) (hS1 : S ≠ g1) (hgg : g0 ≠ g1) :
    Calls Try.prog 38 #[.pointer (some ⟨p, 0, none⟩), .int .i64 1, .string ⟨#[120]⟩, .pointer (some ⟨p, 0, none⟩), .int .i64 0, .string ⟨#[97, 40, 49, 41]⟩] W fun e w' => e = .returned (.int .i64 0) ∧
      ∃ cb nb N M, HasM w' g0 #[ent (.string ⟨#[97]⟩) (.pointer (some ⟨N, 0, none⟩)) 0] 1 ∧ HasM w' g1 #[ent (.string ⟨#[120]⟩) (.pointer (some ⟨M, 0, none⟩)) 0] 1 ∧ Has w' cb 71 #[.int .i64 0, .string ⟨#[]⟩, .map none]
        ∧ Has w' N 89 #[.pointer (some ⟨cb, 0, none⟩), .bool false, .string ⟨#[]⟩, .pointer (some ⟨cb, 0, none⟩)] ∧ Has w' M 89 #[.pointer (some ⟨cb, 0, none⟩), .bool true, .string ⟨#[49]⟩, .pointer (some ⟨nb, 0, none⟩)] ∧ W.heap.size ≤ cb ∧ cb < N ∧ N < M ∧ Kept (fun k => k = g0 ∨ k = g1) W w' := by
  have hpg : ∀ g, HasM W g #[] 0 → p ≠ g := fun g h => by
    rintro rfl
    have h1 : W.heap[p]? = _ := hP
    rw [show W.heap[p]? = _ from h] at h1
    cases h1
  have hp0 := hpg g0 hG0
  have hp1 := hpg g1 hG1
  clear hpg
  go_enter Try.func38, Try.ntmps38
  go_wp2_with fail
  refine (scope_at W p S g1 i1 R C l 1 es ck hP hS hf1).mono ?_
  rintro e w' ⟨rfl, rfl⟩
  go_wp2_with fail
  refine (scope_at W p S g0 i0 R C l 0 es ck hP hS hf0).mono ?_
  rintro e w' ⟨rfl, rfl⟩
  go_wp2_with fail
  refine (split_x _).mono ?_
  rintro e w' ⟨rfl, m, rfl⟩
  have K1 : Kept (fun k => k = g0 ∨ k = g1) W (W.drewN m) := (Kept.refl _ W).drewN m
  have hP1 : Has (W.drewN m) p 60 #[.map (some S), R, C, l] := hP
  have hS1' : HasM (W.drewN m) S es ck := hS
  have hG01 : HasM (W.drewN m) g0 #[] 0 := hG0
  have hG11 : HasM (W.drewN m) g1 #[] 0 := hG1
  clear hP hS hG0 hG1
  generalize W.drewN m = W1 at *
  go_wp2_with fail
  refine (split_a1 _).mono ?_
  rintro e w' ⟨rfl, m2, rfl⟩
  have K2 := K1.drewN' m2
  have hP2 : Has (W1.drewN m2) p 60 #[.map (some S), R, C, l] := hP1
  have hS2 : HasM (W1.drewN m2) S es ck := hS1'
  have hG02 : HasM (W1.drewN m2) g0 #[] 0 := hG01
  have hG12 : HasM (W1.drewN m2) g1 #[] 0 := hG11
  clear hP1 hS1' hG01 hG11 K1
  generalize W1.drewN m2 = W2 at *
  go_wp2_with fail
  refine (named_new W2 g0 ⟨#[97]⟩ #[] 0 hG02 rfl).mono ?_
  rintro e W3 ⟨rfl, hG03, hC3, hN3, K23⟩
  have z2 := K2.size
  have hP3 := K23.has hP2 hp0
  have hS3 := K23.hasM hS2 hS0
  have hG13 := K23.hasM hG12 (Ne.symm hgg)
  have K3 : Kept (fun k => k = g0 ∨ k = g1) W W3 := K2.trans (K23.widen (fun _ _ h => .inl h))
  obtain ⟨cb, hcb⟩ : ∃ cb, W2.heap.size = cb := ⟨_, rfl⟩
  rw [hcb] at hG03 hC3 hN3 z2
  rw [hcb]
  clear hP2 hS2 hG02 hG12 K2 K23 hcb
  go_wp2_with fail
  refine (named_free W3 g1 ⟨#[120]⟩ #[] 0 hG13 rfl).mono ?_
  rintro e X3 ⟨rfl, hD3, hF3, hBX⟩
  have lcb := hC3.lt
  have hP3 := hP3.below hBX
  have hS3 := hS3.below hBX
  have hG03 := hG03.below hBX
  have hG13 := hG13.below hBX
  have hC3 := hC3.below hBX
  have hN3 := hN3.below hBX
  have K3 := K3.trans (Kept.of_below hBX)
  clear hBX
  obtain ⟨nb, hnb⟩ : ∃ nb, W3.heap.size = nb := ⟨_, rfl⟩
  rw [hnb] at hD3 hF3 lcb
  rw [hnb]
  go_wp2_with fail
  refine (linked_own X3 (nb + 1) nb _ _ hF3).mono ?_
  rintro e Y3 ⟨rfl, hBY⟩
  have hP3 := hP3.below hBY
  have hS3 := hS3.below hBY
  have hG03 := hG03.below hBY
  have hG13 := hG13.below hBY
  have hC3 := hC3.below hBY
  have hN3 := hN3.below hBY
  have hD3 := hD3.below hBY
  have hF3 := hF3.below hBY
  have K3 := K3.trans (Kept.of_below hBY)
  clear hBY
  have f0 : Y3.cell? ⟨nb + 1, 0, none⟩ = some (.pointer (some ⟨nb, 0, none⟩)) := hF3.cell 0
  have f3 : Y3.cell? ⟨nb + 1, 3, none⟩ = some (.pointer (some ⟨nb, 0, none⟩)) := hF3.cell 3
  have d0 : Y3.cell? ⟨nb, 0, none⟩ = some (.int .i64 0) := hD3.cell 0
  have n0 : Y3.cell? ⟨cb + 1, 0, none⟩ = some (.pointer (some ⟨cb, 0, none⟩)) := hN3.cell 0
  have pe := ptr_eql cb nb Y3 (by omega) hC3 hD3
  have pe2 := ptr_eql cb nb Y3.drew (by omega) hC3.drew hD3.drew
  go_wp2
  go_region
  have hP3 : Has Y3.drew p 60 #[.map (some S), R, C, l] := hP3
  have hS3 : HasM Y3.drew S es ck := hS3
  have hG03 : HasM Y3.drew g0 _ _ := hG03
  have hG13 : HasM Y3.drew g1 #[] 0 := hG13
  have hC3 : Has Y3.drew cb 71 _ := hC3
  have hN3 : Has Y3.drew (cb + 1) 89 _ := hN3
  have hF3 : Has Y3.drew (nb + 1) 89 _ := hF3
  have K3 := K3.drew
  clear hD3 f0 f3 d0 n0 pe pe2
  generalize Y3.drew = Z3 at *
  go_wp2_with fail
  have hG03' : HasM Z3 g0 #[ent (.string ⟨#[97]⟩) (.pointer (some ⟨cb + 1, 0, none⟩)) 0] 1 := hG03
  refine (place_plain Z3 p S g0 (cb + 1) cb i0 0 R C l 0 ⟨#[97, 40, 49, 41]⟩ ⟨#[97]⟩ ⟨#[49]⟩ ⟨#[]⟩ true true (.pointer (some ⟨cb, 0, none⟩)) es _ ck _ hP3 hS3 hf0 hG03' rfl hN3 val_a1 (by decide)).mono ?_
  rintro e W4 ⟨rfl, hB4⟩
  have hG04 := hG03'.below hB4
  have hG14 := hG13.below hB4
  have hC4 := hC3.below hB4
  have hN4 := hN3.below hB4
  have hF4 := hF3.below hB4
  have K4 := K3.trans (Kept.of_below hB4)
  have z4 := hB4.size
  have lC := hC3.lt
  have lN := hN3.lt
  have lF := hF3.lt
  clear hP3 hS3 hG03 hG03' hG13 hC3 hN3 hF3 K3 hB4
  go_wp2_with fail
  have hG05 := hG04.alloc (.cells #[.pointer (some ⟨cb, 0, none⟩), .bool true, .string ⟨#[49]⟩] 64)
  have hG15 := hG14.alloc (.cells #[.pointer (some ⟨cb, 0, none⟩), .bool true, .string ⟨#[49]⟩] 64)
  have hC5 := hC4.alloc (.cells #[.pointer (some ⟨cb, 0, none⟩), .bool true, .string ⟨#[49]⟩] 64)
  have hN5 := hN4.alloc (.cells #[.pointer (some ⟨cb, 0, none⟩), .bool true, .string ⟨#[49]⟩] 64)
  have hF5 := hF4.alloc (.cells #[.pointer (some ⟨cb, 0, none⟩), .bool true, .string ⟨#[49]⟩] 64)
  have hT5 := Has.new W4 64 #[.pointer (some ⟨cb, 0, none⟩), .bool true, .string ⟨#[49]⟩]
  have K5 := K4.alloc (.cells #[.pointer (some ⟨cb, 0, none⟩), .bool true, .string ⟨#[49]⟩] 64)
  clear hG04 hG14 hC4 hN4 hF4 K4
  have lN4 : cb + 1 < W4.heap.size := by omega
  generalize W4.alloc (.cells #[.pointer (some ⟨cb, 0, none⟩), .bool true, .string ⟨#[49]⟩] 64) = W5 at *
  generalize W4.heap.size = tb at *
  refine (state_none W5 cb _ ⟨#[49]⟩ hC5).mono ?_
  rintro e W6 ⟨rfl, hB6⟩
  have hG06 := hG05.below hB6
  have hG16 := hG15.below hB6
  have hC6 := hC5.below hB6
  have hN6 := hN5.below hB6
  have hT6 := hT5.below hB6
  have hF6 := hF5.below hB6
  have K6 := K5.trans (Kept.of_below hB6)
  have t0 := hT6.cell 0
  have t1 := hT6.cell 1
  have t2 := hT6.cell 2
  simp at t0 t1 t2
  have lT := hT6.lt
  clear hG05 hG15 hC5 hN5 hT5 hF5 K5 hB6
  have f3 : W6.cell? ⟨nb + 1, 3, none⟩ = some (.pointer (some ⟨nb, 0, none⟩)) := hF6.cell 3
  have hG17 : HasM (W6.alloc (.cells #[.pointer (some ⟨cb, 0, none⟩), .bool true, .string ⟨#[49]⟩, .pointer (some ⟨nb, 0, none⟩)] 89)).drew g1 #[] 0 := hG16.alloc _
  have hput : (Instr.mapUpdate 55 (.map (some g1)) (.string ⟨#[120]⟩) (.pointer (some ⟨W6.heap.size, 0, none⟩))).run Try.prog (W6.alloc (.cells #[.pointer (some ⟨cb, 0, none⟩), .bool true, .string ⟨#[49]⟩, .pointer (some ⟨nb, 0, none⟩)] 89)).drew = .ok () (setBlock (W6.alloc (.cells #[.pointer (some ⟨cb, 0, none⟩), .bool true, .string ⟨#[49]⟩, .pointer (some ⟨nb, 0, none⟩)] 89)).drew g1 (.map #[ent (.string ⟨#[120]⟩) (.pointer (some ⟨W6.heap.size, 0, none⟩)) 0] 1)) :=
    map_put (P := Try.prog) (xT := 55) Try.underlying55 Try.underlying9 (key := .string ⟨#[120]⟩) (by simp [MapKept.IsKey]) hG17 rfl (.pointer (some ⟨W6.heap.size, 0, none⟩))
  have lg1 := hG16.lt
  have lg0 := hG06.lt
  have ne : ∀ {g t cs}, Has W6 g t cs → g ≠ g1 := fun h => by
    rintro rfl
    have h1 : W6.heap[_]? = _ := h
    rw [show W6.heap[_]? = _ from hG16] at h1
    cases h1
  have hG07 : HasM (W6.alloc (.cells #[.pointer (some ⟨cb, 0, none⟩), .bool true, .string ⟨#[49]⟩, .pointer (some ⟨nb, 0, none⟩)] 89)).drew g0 _ _ := hG06.alloc _
  have hC7 : Has (W6.alloc (.cells #[.pointer (some ⟨cb, 0, none⟩), .bool true, .string ⟨#[49]⟩, .pointer (some ⟨nb, 0, none⟩)] 89)).drew cb 71 _ := hC6.alloc _
  have hN7 : Has (W6.alloc (.cells #[.pointer (some ⟨cb, 0, none⟩), .bool true, .string ⟨#[49]⟩, .pointer (some ⟨nb, 0, none⟩)] 89)).drew (cb + 1) 89 _ := hN6.alloc _
  have hM7 : Has (W6.alloc (.cells #[.pointer (some ⟨cb, 0, none⟩), .bool true, .string ⟨#[49]⟩, .pointer (some ⟨nb, 0, none⟩)] 89)).drew W6.heap.size 89 _ := Has.new W6 89 _
  have K7 := (K6.alloc (.cells #[.pointer (some ⟨cb, 0, none⟩), .bool true, .string ⟨#[49]⟩, .pointer (some ⟨nb, 0, none⟩)] 89)).drew
  have ne1 := ne hC6
  have ne2 := ne hN6
  clear ne
  go_wp2
  go_region
  all_goals go_wp2
  all_goals go_ret
  all_goals exact ⟨rfl, cb, nb, cb + 1, W6.heap.size, hG07.beside hgg _, hG17.laid _ _, hC7.beside ne1 _, hN7.beside ne2 _, hM7.beside (by omega) _, z2, by omega, by omega, K7.lay (.inl (.inr rfl)) _⟩
end Go.Proofs.Ytcnmblfdieegfaa
