/- Push; what the getters of the space find. -/
import Derived.Test.YtcnmblfdieegfaaSp1
import Derived.Test.YtcnmblfdieegfaaOwn
import Derived.Test.YtcnmblfdieegfaaPtr
namespace Go.Proofs.Ytcnmblfdieegfaa
open Go.RowKit Go.ChangeMaps
attribute [local go_sem] put_size

theorem Try.info3 : (Try.prog.info? 3).map (fun i => (i.zero, i.size, i.bytes)) = some (some (.int .i64 0), 1, 8) := by kernel_rfl


set_option maxHeartbeats 800000 in
set_option maxRecDepth 100000 in
theorem push_at (W : World) (p S : Nat) (R : Value) (es : Array MapEntry) (ck : Nat) (hP : Has W p 60 #[.map (some S), R, .slice none 0 0, .int .i64 0]) (hS : HasM W S es ck) (hf : Instr.findNow (.int .i64) (.int .i64 1) es.toList 0 = some none) :
    Calls Try.prog 21 #[.pointer (some ⟨p, 0, none⟩)] W fun e w' => e = .returned (.int .i64 1) ∧ HasM w' S (es.push (ent (.int .i64 1) (.map (some W.heap.size)) ck)) (ck + 1) ∧ HasM w' W.heap.size #[] 0
      ∧ (∃ C, Has w' p 60 #[.map (some S), R, C, .int .i64 1]) ∧ Kept (fun k => k = p ∨ k = S) W w' := by
  obtain ⟨i3, hi3, hy0, hy1, hy2⟩ := info_parts Try.info3
  have lS := hS.lt
  have lp := hP.lt
  have hpS : p ≠ S := by
    rintro rfl
    have h1 : W.heap[p]? = _ := hP
    rw [show W.heap[p]? = _ from hS] at h1
    cases h1
  go_enter Try.func21, Try.ntmps21
  go_wp2_with (first
    | (go_at_call 37; refine (add_at W p S R (.slice none 0 0) es ck hP hS hf).mono ?_; rintro e w1 ⟨rfl, hS1, hG1, hP1, hK1⟩; have a2 := hP1.cell 2; simp at a2; have hz1 := hK1.size)
    | (at_builtin; refine wpList_append_own _ rfl _ _ 58 rfl w1.heap.size 3 i3 (.int .i64 0) 1 8 Try.underlying58 hi3 hy0 hy1 hy2 rfl (by decide) (.slice none 0 0) 0 [] rfl (World.ownsRow_nil _ _ _ _) ⟨w1.heap.size, 0, none⟩ 1 1 [.int .i64 1] rfl rfl (cell_one_new _ _ _) (by intro u hu; simp at hu; subst hu; rfl) (by unfold maxLen; omega) (by omega) (by simp) ?_; intro v' w2 hown2 hgrow _; obtain ⟨ao, cc, rfl⟩ := slice_of_own hown2; have hP2 := (hP1.alloc (.cells #[.int .i64 1] 3)).grown hgrow (by simp [Value.ownBlock]); have b2 := hP2.cell 2; simp at b2; have f2 := hP2.free 2))
  go_ret
  have hS2 := ((hS1.alloc (.cells #[.int .i64 1] 3)).grown hgrow (by simp [Value.ownBlock]))
  have hG2 := ((hG1.alloc (.cells #[.int .i64 1] 3)).grown hgrow (by simp [Value.ownBlock]))
  have lG := hG1.lt
  exact ⟨rfl, hS2.far (p := ⟨p, 2, none⟩) (Ne.symm hpS) _, hG2.far (p := ⟨p, 2, none⟩) (by simp; omega) _, ⟨_, hP2.put 2 _⟩, ((hK1.alloc _).grown hgrow (by simp [Value.ownBlock])).put (.inl (.inl rfl)) _⟩

set_option maxHeartbeats 800000 in
set_option maxRecDepth 100000 in
theorem scope_at (W : World) (p S g i : Nat) (R C l : Value) (n : Int) (es : Array MapEntry) (ck : Nat) (hP : Has W p 60 #[.map (some S), R, C, l]) (hS : HasM W S es ck) (hf : Instr.findNow (.int .i64) (.int .i64 n) es.toList 0 = some (some (i, .map (some g)))) :
    Calls Try.prog 49 #[.pointer (some ⟨p, 0, none⟩), .int .i64 n] W fun e w' => e = .returned (.tuple #[.map (some g), .bool true]) ∧ W = w' := by
  have a0 := hP.cell 0
  simp at a0
  have hl := map_look (P := Try.prog) (xT := 56) Try.underlying56 Try.underlying3 (key := .int .i64 n) (by simp [MapKept.IsKey]) hS hf true
  rw [if_pos rfl] at hl
  go_enter Try.func49, Try.ntmps49
  go_wp2
  go_ret2
  exact ⟨rfl, rfl⟩

set_option maxHeartbeats 800000 in
set_option maxRecDepth 100000 in
theorem named_hit (W : World) (g i N : Nat) (b : ByteArray) (mk : Bool) (es : Array MapEntry) (ck : Nat) (hS : HasM W g es ck) (hf : Instr.findNow .string (.string b) es.toList 0 = some (some (i, .pointer (some ⟨N, 0, none⟩)))) :
    Calls Try.prog 50 #[.map (some g), .string b, .bool mk] W fun e w' => e = .returned (.pointer (some ⟨N, 0, none⟩)) ∧ W = w' := by
  have hl := map_look (P := Try.prog) (xT := 55) Try.underlying55 Try.underlying9 (key := .string b) (by simp [MapKept.IsKey]) hS hf false
  rw [if_neg (by simp)] at hl
  go_enter Try.func50, Try.ntmps50
  go_wp2
  go_ret
  exact ⟨rfl, rfl⟩

theorem Try.zero86 (w : World) : (zeroValue 86).run Try.prog w = .ok (.pointer none) w := by kernel_rfl
theorem Try.zero9 (w : World) : (zeroValue 9).run Try.prog w = .ok (.string ⟨#[]⟩) w := by kernel_rfl

set_option maxHeartbeats 800000 in
set_option maxRecDepth 100000 in
theorem named_new (W : World) (g : Nat) (b : ByteArray) (es : Array MapEntry) (ck : Nat) (hS : HasM W g es ck) (hf : Instr.findNow .string (.string b) es.toList 0 = some none) :
    Calls Try.prog 50 #[.map (some g), .string b, .bool true] W fun e w' => e = .returned (.pointer (some ⟨W.heap.size + 1, 0, none⟩)) ∧ HasM w' g (es.push (ent (.string b) (.pointer (some ⟨W.heap.size + 1, 0, none⟩)) ck)) (ck + 1)
      ∧ Has w' W.heap.size 71 #[.int .i64 0, .string ⟨#[]⟩, .map none] ∧ Has w' (W.heap.size + 1) 89 #[.pointer (some ⟨W.heap.size, 0, none⟩), .bool false, .string ⟨#[]⟩, .pointer (some ⟨W.heap.size, 0, none⟩)] ∧ Kept (fun k => k = g) W w' := by
  have lg := hS.lt
  have hl := map_miss (P := Try.prog) (xT := 55) Try.underlying55 Try.underlying9 (key := .string b) (by simp [MapKept.IsKey]) hS hf (Try.zero86 W) false
  rw [if_neg (by simp)] at hl
  have hS2 := (hS.alloc (.cells #[.int .i64 0, .string ⟨#[]⟩, .map none] 71)).alloc (.cells #[.pointer (some ⟨W.heap.size, 0, none⟩), .bool false, .string ⟨#[]⟩, .pointer (some ⟨W.heap.size, 0, none⟩)] 89)
  have hput := map_put (P := Try.prog) (xT := 55) Try.underlying55 Try.underlying9 (key := .string b) (by simp [MapKept.IsKey]) hS2 hf (.pointer (some ⟨W.heap.size + 1, 0, none⟩))
  go_enter Try.func50, Try.ntmps50
  go_wp2
  go_ret
  exact ⟨rfl, hS2.laid _ _, ((Has.new W 71 _).alloc _).beside (by omega) _, (Has.fresh (by simp) _ _).beside (by omega) _, (((Kept.refl (fun k => k = g) W).alloc _).alloc _).lay (.inl rfl) _⟩

set_option maxHeartbeats 800000 in
set_option maxRecDepth 100000 in
theorem named_free (W : World) (g : Nat) (b : ByteArray) (es : Array MapEntry) (ck : Nat) (hS : HasM W g es ck) (hf : Instr.findNow .string (.string b) es.toList 0 = some none) :
    Calls Try.prog 50 #[.map (some g), .string b, .bool false] W fun e w' => e = .returned (.pointer (some ⟨W.heap.size + 1, 0, none⟩))
      ∧ Has w' W.heap.size 71 #[.int .i64 0, .string ⟨#[]⟩, .map none] ∧ Has w' (W.heap.size + 1) 89 #[.pointer (some ⟨W.heap.size, 0, none⟩), .bool false, .string ⟨#[]⟩, .pointer (some ⟨W.heap.size, 0, none⟩)] ∧ Below W.heap.size W w' := by
  have hl := map_miss (P := Try.prog) (xT := 55) Try.underlying55 Try.underlying9 (key := .string b) (by simp [MapKept.IsKey]) hS hf (Try.zero86 W) false
  rw [if_neg (by simp)] at hl
  go_enter Try.func50, Try.ntmps50
  go_wp2
  go_ret
  exact ⟨rfl, (Has.new W 71 _).alloc _, Has.fresh (by simp) _ _, ((Below.refl _ W).alloc (Nat.le_refl _) _).alloc (by simp) _⟩

set_option maxHeartbeats 800000 in
/-- A name that leads to its own variable is no link. -/
theorem linked_own (W : World) (N cb : Nat) (x y : Value) (hN : Has W N 89 #[.pointer (some ⟨cb, 0, none⟩), x, y, .pointer (some ⟨cb, 0, none⟩)]) :
    Calls Try.prog 51 #[.pointer (some ⟨N, 0, none⟩)] W fun e w' => e = .returned (.bool false) ∧ Below W.heap.size W w' := by
  have c0 : W.cell? ⟨N, 0, none⟩ = some (.pointer (some ⟨cb, 0, none⟩)) := hN.cell 0
  have c3 : W.cell? ⟨N, 3, none⟩ = some (.pointer (some ⟨cb, 0, none⟩)) := hN.cell 3
  have q0 := ptr_neq ⟨cb, 0, none⟩ W
  have q1 := ptr_neq ⟨cb, 0, none⟩ W.drew
  go_enter Try.func51, Try.ntmps51
  go_wp2
  go_region
  all_goals go_wp2
  all_goals go_ret
  all_goals exact ⟨by simp, ⟨rfl, rfl, rfl, Nat.le_refl _, fun _ _ => rfl⟩⟩
end Go.Proofs.Ytcnmblfdieegfaa
