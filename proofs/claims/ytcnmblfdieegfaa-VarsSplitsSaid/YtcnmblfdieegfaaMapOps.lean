/- Maps whose entries are known: what a lookup finds, what a store lays. -/
import Derived.Test.YtcnmblfdieegfaaBase
import Derived.Maps.Own
namespace Go.Proofs.Ytcnmblfdieegfaa
open Go.RowKit Go.ChangeMaps

/-- An entry. -/
def ent (k v : Value) (n : Nat) : MapEntry := { key := k, val := v, born := n }

/-- Block b is a map of just these entries. -/
def HasM (w : World) (b : Nat) (es : Array MapEntry) (clock : Nat) : Prop := w.heap[b]? = some (.map es clock)

section
variable {w : World} {b : Nat} {es : Array MapEntry} {clock : Nat}
theorem HasM.lt (h : HasM w b es clock) : b < w.heap.size := (Array.getElem?_eq_some_iff.1 h).1
theorem HasM.new (w : World) : HasM (w.alloc (.map #[] 0)) w.heap.size #[] 0 := heap_alloc_new w _
theorem HasM.alloc (h : HasM w b es clock) (o : Obj) : HasM (w.alloc o) b es clock := (Below.heap_alloc w o b h.lt).trans h
theorem HasM.far (h : HasM w b es clock) {p : Addr} (hp : b ≠ p.block) (u : Value) : HasM (w.setCell p u) b es clock := (Below.heap_setCell w p u b hp).trans h
theorem HasM.below {w' : World} (h : HasM w b es clock) (hb : Below w.heap.size w w') : HasM w' b es clock := (hb.block b h.lt).trans h
theorem Has.below {w' : World} {t : TypeId} {cs : Array Value} (h : Has w b t cs) (hb : Below w.heap.size w w') : Has w' b t cs := (hb.block b h.lt).trans h

theorem put_same (h : HasM w b es clock) (o : Obj) : (setBlock w b o).heap[b]? = some o := by
  have := h.lt
  simp [setBlock, this]
theorem put_other {k : Nat} (hk : k ≠ b) (w : World) (o : Obj) : (setBlock w b o).heap[k]? = w.heap[k]? := by
  simp [setBlock, hk.symm]
theorem put_size (w : World) (b : Nat) (o : Obj) : (setBlock w b o).heap.size = w.heap.size := by simp [setBlock]

variable {P : Program} {xT kT eT : TypeId} {kd : TypeDesc} {key : Value}
theorem map_look (ht : P.underlying xT = some (.map kT eT)) (hk : P.underlying kT = some kd) (hkey : MapKept.IsKey kd key) (hb : HasM w b es clock) {i : Nat} {v : Value} (hf : Instr.findNow kd key es.toList 0 = some (some (i, v))) (c : Bool) :
    (Instr.lookup xT (.map (some b)) key c).run P w = .ok (if c then .tuple #[v, .bool true] else v) w := by
  have hc := fun e => MapKept.run_checkKey (P := P) (w := w) hk hkey e 9999
  simp [Instr.lookup, run_underlying ht, MapKept.run_getObj_map hb, hc, MapKept.run_findKey hk hf, Result.andThen]
theorem map_miss (ht : P.underlying xT = some (.map kT eT)) (hk : P.underlying kT = some kd) (hkey : MapKept.IsKey kd key) (hb : HasM w b es clock) (hf : Instr.findNow kd key es.toList 0 = some none) {z : Value} (hz : (zeroValue eT).run P w = .ok z w) (c : Bool) :
    (Instr.lookup xT (.map (some b)) key c).run P w = .ok (if c then .tuple #[z, .bool false] else z) w := by
  have hc := fun e => MapKept.run_checkKey (P := P) (w := w) hk hkey e 9999
  simp [Instr.lookup, run_underlying ht, MapKept.run_getObj_map hb, hc, MapKept.run_findKey hk hf, hz, Result.andThen]
theorem map_nil (ht : P.underlying xT = some (.map kT eT)) (hk : P.underlying kT = some kd) (hkey : MapKept.IsKey kd key) {z : Value} (hz : (zeroValue eT).run P w = .ok z w) (c : Bool) :
    (Instr.lookup xT (.map none) key c).run P w = .ok (if c then .tuple #[z, .bool false] else z) w := by
  have hc := fun e => MapKept.run_checkKey (P := P) (w := w) hk hkey e 9999
  have hf : Instr.findNow kd key ([] : List MapEntry) 0 = some none := rfl
  simp [Instr.lookup, run_underlying ht, hc, MapKept.run_findKey hk hf, hz, Result.andThen]
theorem map_put (ht : P.underlying xT = some (.map kT eT)) (hk : P.underlying kT = some kd) (hkey : MapKept.IsKey kd key) (hb : HasM w b es clock) (hf : Instr.findNow kd key es.toList 0 = some none) (val : Value) :
    (Instr.mapUpdate xT (.map (some b)) key val).run P w = .ok () (setBlock w b (.map (es.push (ent key val clock)) (clock + 1))) := by
  have hc := MapKept.run_checkKey (P := P) (w := w) hk hkey false 9999
  simp [Instr.mapUpdate, run_underlying ht, MapKept.run_getObj_map hb, hc, MapKept.run_findKey hk hf, MapKept.run_setObj_map _ hb, Result.andThen, setBlock, ent]
end
end Go.Proofs.Ytcnmblfdieegfaa
