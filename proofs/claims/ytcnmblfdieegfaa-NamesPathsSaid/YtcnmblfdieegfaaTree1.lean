/- The tree of the sanity check of layer 16: New, find, Make. -/
import Derived.Test.YtcnmblfdieegfaaPaths4
import Derived.Test.YtcnmblfdieegfaaOwn
import Derived.Deep.RegionHeld3
namespace Go.Proofs.Ytcnmblfdieegfaa
open Go.RowKit Go.Lib Go.ChangeMaps
attribute [local go_sem] put_size

theorem HasM.laid {w : World} {b : Nat} {es : Array MapEntry} {clock : Nat} (h : HasM w b es clock) (es' : Array MapEntry) (c' : Nat) : HasM (setBlock w b (.map es' c')) b es' c' := put_same h _
theorem HasM.beside {w : World} {b g : Nat} {es : Array MapEntry} {clock : Nat} (h : HasM w g es clock) (hg : g ≠ b) (o : Obj) : HasM (setBlock w b o) g es clock := (put_other hg w o).trans h
theorem Has.beside {w : World} {b g : Nat} {t : TypeId} {cs : Array Value} (h : Has w g t cs) (hg : g ≠ b) (o : Obj) : Has (setBlock w b o) g t cs := (put_other hg w o).trans h
theorem Has.fresh {w : World} {g : Nat} (h : w.heap.size = g) (t : TypeId) (cs : Array Value) : Has (w.alloc (.cells cs t)) g t cs := h ▸ Has.new w t cs
theorem HasM.fresh {w : World} {g : Nat} (h : w.heap.size = g) : HasM (w.alloc (.map #[] 0)) g #[] 0 := h ▸ HasM.new w
theorem below_put {B b : Nat} {a w : World} (h : Below B a w) (hb : B ≤ b) (o : Obj) : Below B a (setBlock w b o) :=
  ⟨h.os, h.tape, h.output, by rw [put_size]; exact h.size, fun k hk => (put_other (by omega) w o).trans (h.block k hk)⟩

theorem below_behind {a b c : World} (h : Below a.heap.size a b) (k : Below b.heap.size b c) : Below a.heap.size a c := h.trans (k.mono h.size)

/-- A pointer to block n. -/
def ptrTo (n : Nat) : Value := .pointer (some ⟨n, 0, none⟩)
theorem Try.zero73 (w : World) : (zeroValue 73).run Try.prog w = .ok (.pointer none) w := by kernel_rfl

theorem look_hit {W : World} {M i : Nat} {es : Array MapEntry} {ck : Nat} {key : ByteArray} {v : Value} (hf : Instr.findNow .string (.string key) es.toList 0 = some (some (i, v))) (h : HasM W M es ck) :
    (Instr.lookup 76 (.map (some M)) (.string key) false).run Try.prog W = .ok v W := by
  have hl := map_look (P := Try.prog) (xT := 76) Try.underlying76 Try.underlying9 (key := .string key) (by simp [MapKept.IsKey]) h hf false
  rwa [if_neg (by simp)] at hl
theorem look_miss {W : World} {M : Nat} {es : Array MapEntry} {ck : Nat} {key : ByteArray} (hf : Instr.findNow .string (.string key) es.toList 0 = some none) (h : HasM W M es ck) :
    (Instr.lookup 76 (.map (some M)) (.string key) false).run Try.prog W = .ok (.pointer none) W := by
  have hl := map_miss (P := Try.prog) (xT := 76) Try.underlying76 Try.underlying9 (key := .string key) (by simp [MapKept.IsKey]) h hf (Try.zero73 W) false
  rwa [if_neg (by simp)] at hl

theorem cell_keep {W W' : World} {a : Addr} {v : Value} (h : W.cell? a = some v) (hb : Below W.heap.size W W') : W'.cell? a = some v := (hb.cell (World.block_lt_of_cell? W _ h)).trans h

set_option maxHeartbeats 1600000 in
set_option maxRecDepth 100000 in
theorem find_any (T M i : Nat) (es : Array MapEntry) (ck : Nat) (path key : ByteArray) (v : Value) (w : World) (hT : Has w T 78 #[.map (some M)]) (hM : HasM w M es ck) (hs : path.size ≤ 3000)
    (hk : (⟨(canP [] path.data.toList).toArray⟩ : ByteArray) = key) (hf : Instr.findNow .string (.string key) es.toList 0 = some (some (i, v))) :
    Calls Try.prog 43 #[ptrTo T, .string path] w fun e w' => e = .returned v ∧ Below w.heap.size w w' := by
  have C := fun W => canonical_any ⟨#[]⟩ path W (by show 0 ≤ 3000; omega) hs
  have hC : (⟨(canP (⟨#[]⟩ : ByteArray).data.toList path.data.toList).toArray⟩ : ByteArray) = key := hk
  rw [hC] at C
  have c0 : w.cell? ⟨T, 0, none⟩ = some (.map (some M)) := hT.cell 0
  have l0 := look_hit hf hM
  have HF := Lib.hid hf
  have B0 := Below.refl w.heap.size w
  clear hC hk hf hT
  unfold ptrTo
  go_enter Try.func43, Try.ntmps43
  go_wp2
  go_region_held3 (fun w' => w'.cell? ⟨T, 0, none⟩ = some (.map (some M)) ∧ HasM w' M es ck ∧ (Instr.lookup 76 (.map (some M)) (.string key) false).run Try.prog w' = .ok v w' ∧ Below w.heap.size w w')
    ((go_split_ands; refine ⟨?_, ?_, ?_, ?_⟩ <;> first | assumption | (exact look_hit HF.out (by assumption)) | (exact below_behind (by assumption) ⟨rfl, rfl, rfl, Nat.le_refl _, fun _ _ => rfl⟩) | (exact below_behind (by assumption) (by assumption)) | (exact cell_keep (by assumption) (by assumption)) | (exact HasM.below (by assumption) (by assumption)) | (exact look_hit HF.out (HasM.below (by assumption) (by assumption))) | (exact ⟨rfl, rfl, rfl, Nat.le_refl _, fun _ _ => rfl⟩)))
    ((go_split_ands; (go_at_call 9; refine (C _).mono ?_; rintro e w' ⟨rfl, hb'⟩; have q0 : w'.cell? ⟨T, 0, none⟩ = some (.map (some M)) := cell_keep (by assumption) hb'; have q1 : HasM w' M es ck := HasM.below (by assumption) hb'; have q2 := look_hit HF.out q1; have q3 : Below w.heap.size w w' := below_behind (by assumption) hb')))
  all_goals
    go_split_ands
    go_wp2
    go_ret
    exact ⟨rfl, by assumption⟩
end Go.Proofs.Ytcnmblfdieegfaa
