/- New, Push: the space of the sanity check. -/
import Derived.Test.YtcnmblfdieegfaaMapOps
namespace Go.Proofs.Ytcnmblfdieegfaa
open Go.RowKit Go.ChangeMaps

attribute [local go_sem] put_size

/-- The block that a store has laid, and those beside it. -/
theorem HasM.laid {w : World} {b : Nat} {es : Array MapEntry} {clock : Nat} (h : HasM w b es clock) (es' : Array MapEntry) (c' : Nat) : HasM (setBlock w b (.map es' c')) b es' c' := put_same h _
theorem HasM.beside {w : World} {b g : Nat} {es : Array MapEntry} {clock : Nat} (h : HasM w g es clock) (hg : g ≠ b) (o : Obj) : HasM (setBlock w b o) g es clock := (put_other hg w o).trans h
theorem Has.beside {w : World} {b g : Nat} {t : TypeId} {cs : Array Value} (h : Has w g t cs) (hg : g ≠ b) (o : Obj) : Has (setBlock w b o) g t cs := (put_other hg w o).trans h
theorem Has.fresh {w : World} {g : Nat} (h : w.heap.size = g) (t : TypeId) (cs : Array Value) : Has (w.alloc (.cells cs t)) g t cs := h ▸ Has.new w t cs
theorem HasM.fresh {w : World} {g : Nat} (h : w.heap.size = g) : HasM (w.alloc (.map #[] 0)) g #[] 0 := h ▸ HasM.new w
theorem below_put {B b : Nat} {a w : World} (h : Below B a w) (hb : B ≤ b) (o : Obj) : Below B a (setBlock w b o) :=
  ⟨h.os, h.tape, h.output, by rw [put_size]; exact h.size, fun k hk => (put_other (by omega) w o).trans (h.block k hk)⟩

set_option maxHeartbeats 800000 in
set_option maxRecDepth 100000 in
theorem new_at (w : World) :
    Calls Try.prog 20 #[] w fun e w' => e = .returned (.pointer (some ⟨w.heap.size + 3, 0, none⟩)) ∧ HasM w' w.heap.size #[ent (.int .i64 0) (.map (some (w.heap.size + 1))) 0] 1 ∧ HasM w' (w.heap.size + 1) #[] 0
      ∧ Has w' (w.heap.size + 3) 60 #[.map (some w.heap.size), .map (some (w.heap.size + 2)), .slice none 0 0, .int .i64 0] ∧ Below w.heap.size w w' := by
  have hmm := @run_makeMap Try.prog
  have m0 : HasM ((w.alloc (.map #[] 0)).alloc (.map #[] 0)) w.heap.size #[] 0 := (HasM.new w).alloc _
  have m1 : HasM ((w.alloc (.map #[] 0)).alloc (.map #[] 0)) (w.heap.size + 1) #[] 0 := by
    have := HasM.new (w.alloc (.map #[] 0))
    rwa [World.size_alloc] at this
  have p0 : (Instr.mapUpdate 56 (.map (some w.heap.size)) (.int .i64 0) (.map (some (w.heap.size + 1)))).run Try.prog ((w.alloc (.map #[] 0)).alloc (.map #[] 0)) = .ok () (setBlock ((w.alloc (.map #[] 0)).alloc (.map #[] 0)) w.heap.size (.map #[ent (.int .i64 0) (.map (some (w.heap.size + 1))) 0] 1)) := map_put (P := Try.prog) (xT := 56) Try.underlying56 Try.underlying3 (key := .int .i64 0) (by simp [MapKept.IsKey]) m0 rfl (.map (some (w.heap.size + 1)))
  have q0 := m0.laid #[ent (.int .i64 0) (.map (some (w.heap.size + 1))) 0] 1
  have q1 := m1.beside (b := w.heap.size) (by omega) (.map #[ent (.int .i64 0) (.map (some (w.heap.size + 1))) 0] 1)
  have b0 := below_put (((Below.refl w.heap.size w).alloc (Nat.le_refl _) (.map #[] 0)).alloc (by simp) (.map #[] 0)) (Nat.le_refl _) (.map #[ent (.int .i64 0) (.map (some (w.heap.size + 1))) 0] 1)
  have z0 : (setBlock ((w.alloc (.map #[] 0)).alloc (.map #[] 0)) w.heap.size (.map #[ent (.int .i64 0) (.map (some (w.heap.size + 1))) 0] 1)).heap.size = w.heap.size + 2 := by rw [put_size]; simp
  generalize setBlock ((w.alloc (.map #[] 0)).alloc (.map #[] 0)) w.heap.size (.map #[ent (.int .i64 0) (.map (some (w.heap.size + 1))) 0] 1) = W1 at *
  have m2 : HasM (W1.alloc (.map #[] 0)) (w.heap.size + 2) #[] 0 := by
    have := HasM.new W1
    rwa [z0] at this
  have p1 : (Instr.mapUpdate 57 (.map (some (w.heap.size + 2))) (.string ⟨#[]⟩) (.int .i64 0)).run Try.prog (W1.alloc (.map #[] 0)) = .ok () (setBlock (W1.alloc (.map #[] 0)) (w.heap.size + 2) (.map #[ent (.string ⟨#[]⟩) (.int .i64 0) 0] 1)) := map_put (P := Try.prog) (xT := 57) Try.underlying57 Try.underlying9 (key := .string ⟨#[]⟩) (by simp [MapKept.IsKey]) m2 rfl (.int .i64 0)
  go_enter Try.func20, Try.ntmps20
  go_wp2
  go_ret
  have z1 : (setBlock (W1.alloc (.map #[] 0)) (w.heap.size + 2) (.map #[ent (.string ⟨#[]⟩) (.int .i64 0) 0] 1)).heap.size = w.heap.size + 3 := by rw [put_size]; simp [z0]
  exact ⟨rfl, ((q0.alloc _).beside (by omega) _).alloc _, ((q1.alloc _).beside (by omega) _).alloc _, Has.fresh z1 _ _, (below_put (b0.alloc (by omega) _) (by omega) _).alloc (by rw [put_size]; simp; omega) _⟩

theorem Kept.lay {S : Nat → Prop} {a b : World} (h : Kept S a b) {k : Nat} (hk : S k ∨ a.heap.size ≤ k) (o : Obj) : Kept S a (setBlock b k o) :=
  ⟨h.os, h.tape, h.output, by rw [put_size]; exact h.size, fun i hi hs => (put_other (by
    rintro rfl
    rcases hk with hk | hk
    · exact hs hk
    · omega) b o).trans (h.block i hi hs)⟩
theorem Kept.hasM {S : Nat → Prop} {a b : World} (h : Kept S a b) {g : Nat} {es : Array MapEntry} {c : Nat} (hg : HasM a g es c) (hs : ¬ S g) : HasM b g es c := (h.block g hg.lt hs).trans hg

set_option maxHeartbeats 800000 in
set_option maxRecDepth 100000 in
theorem add_at (W : World) (p S : Nat) (R C : Value) (es : Array MapEntry) (ck : Nat) (hP : Has W p 60 #[.map (some S), R, C, .int .i64 0]) (hS : HasM W S es ck) (hf : Instr.findNow (.int .i64) (.int .i64 1) es.toList 0 = some none) :
    Calls Try.prog 37 #[.pointer (some ⟨p, 0, none⟩)] W fun e w' => e = .returned (.int .i64 1) ∧ HasM w' S (es.push (ent (.int .i64 1) (.map (some W.heap.size)) ck)) (ck + 1) ∧ HasM w' W.heap.size #[] 0
      ∧ Has w' p 60 #[.map (some S), R, C, .int .i64 1] ∧ Kept (fun k => k = p ∨ k = S) W w' := by
  have hmm := @run_makeMap Try.prog
  have c3 := hP.cell 3
  have f3 := hP.free 3
  have lS := hS.lt
  have lp := hP.lt
  have hpS : p ≠ S := by
    rintro rfl
    have h1 : W.heap[p]? = _ := hP
    rw [show W.heap[p]? = _ from hS] at h1
    cases h1
  have hP1 : Has (W.setCell ⟨p, 3, none⟩ (.int .i64 1)) p 60 #[.map (some S), R, C, .int .i64 1] := hP.put 3 (.int .i64 1)
  have hS1 : HasM (W.setCell ⟨p, 3, none⟩ (.int .i64 1)) S es ck := hS.far (p := ⟨p, 3, none⟩) (Ne.symm hpS) _
  have K1 : Kept (fun k => k = p ∨ k = S) W (W.setCell ⟨p, 3, none⟩ (.int .i64 1)) := (Kept.refl _ W).put (.inl (.inl rfl)) _
  have z1 : (W.setCell ⟨p, 3, none⟩ (.int .i64 1)).heap.size = W.heap.size := by simp
  go_enter Try.func37, Try.ntmps37
  go_wp2
  have a0 := hP1.cell 0
  have a3 := hP1.cell 3
  simp at a0 a3
  generalize W.setCell ⟨p, 3, none⟩ (.int .i64 1) = W1 at *
  have hS2 : HasM (W1.alloc (.map #[] 0)).drew S es ck := hS1.alloc _
  have hP2 : Has (W1.alloc (.map #[] 0)).drew p 60 #[.map (some S), R, C, .int .i64 1] := hP1.alloc _
  have hG2 : HasM (W1.alloc (.map #[] 0)).drew W.heap.size #[] 0 := HasM.fresh z1
  have K2 : Kept (fun k => k = p ∨ k = S) W (W1.alloc (.map #[] 0)).drew := (K1.alloc _).drew
  have hput := map_put (P := Try.prog) (xT := 56) Try.underlying56 Try.underlying3 (key := .int .i64 1) (by simp [MapKept.IsKey]) hS2 hf (.map (some W.heap.size))
  have hP3 := hP2.beside hpS (.map (es.push (ent (.int .i64 1) (.map (some W.heap.size)) ck)) (ck + 1))
  have a33 := hP3.cell 3
  simp at a33
  go_region
  go_wp2
  go_ret
  exact ⟨rfl, hS2.laid _ _, hG2.beside (by omega) _, hP3, K2.lay (.inl (.inr rfl)) _⟩
end Go.Proofs.Ytcnmblfdieegfaa
