/- Maps whose entries are known: what a lookup finds, what a store lays. -/
import Derived.Test.YtcgabonoddloiaaGreatDoorAt
import Derived.Maps.Own
namespace Go.Proofs.YtcgabonoddloiaaGreatDoor
open Go.RowKit Go.ChangeMaps

/-- An entry. -/
def ent (k v : Value) (n : Nat) : MapEntry := { key := k, val := v, born := n }

/-- Block b is a map of just these entries. -/
def HasM (w : World) (b : Nat) (es : Array MapEntry) (clock : Nat) : Prop := w.heap[b]? = some (.map es clock)

section
variable {w : World} {b : Nat} {es : Array MapEntry} {clock : Nat}
theorem HasM.lt (h : HasM w b es clock) : b < w.heap.size := (Array.getElem?_eq_some_iff.1 h).1
theorem HasM.new (w : World) : HasM (w.alloc (.map #[] 0)) w.heap.size #[] 0 := heap_alloc_new w _
theorem HasM.alloc (h : HasM w b es clock) (o : Obj) : HasM (w.alloc o) b es clock := (Below.heap_alloc w o b h.lt).trans h
theorem HasM.far (h : HasM w b es clock) {p : Addr} (hp : b ≠ p.block) (u : Value) : HasM (w.setCell p u) b es clock := (Below.heap_setCell w p u b hp).trans h
theorem HasM.below {w' : World} (h : HasM w b es clock) (hb : Below w.heap.size w w') : HasM w' b es clock := (hb.block b h.lt).trans h

theorem put_same (h : HasM w b es clock) (o : Obj) : (setBlock w b o).heap[b]? = some o := by
  have := h.lt
  simp [setBlock, this]
theorem put_other {k : Nat} (hk : k ≠ b) (w : World) (o : Obj) : (setBlock w b o).heap[k]? = w.heap[k]? := by
  simp [setBlock, hk.symm]
theorem put_size (w : World) (b : Nat) (o : Obj) : (setBlock w b o).heap.size = w.heap.size := by simp [setBlock]

variable {P : Program} {xT kT eT : TypeId} {kd : TypeDesc} {key : Value}
theorem map_look (ht : P.underlying xT = some (.map kT eT)) (hk : P.underlying kT = some kd) (hkey : MapKept.IsKey kd key) (hb : HasM w b es clock) {i : Nat} {v : Value} (hf : Instr.findNow kd key es.toList 0 = some (some (i, v))) (c : Bool) :
    (Instr.lookup xT (.map (some b)) key c).run P w = .ok (if c then .tuple #[v, .bool true] else v) w := by
  have hc := fun e => MapKept.run_checkKey (P := P) (w := w) hk hkey e 9999
  simp [Instr.lookup, run_underlying ht, MapKept.run_getObj_map hb, hc, MapKept.run_findKey hk hf, Result.andThen]
theorem map_miss (ht : P.underlying xT = some (.map kT eT)) (hk : P.underlying kT = some kd) (hkey : MapKept.IsKey kd key) (hb : HasM w b es clock) (hf : Instr.findNow kd key es.toList 0 = some none) {z : Value} (hz : (zeroValue eT).run P w = .ok z w) (c : Bool) :
    (Instr.lookup xT (.map (some b)) key c).run P w = .ok (if c then .tuple #[z, .bool false] else z) w := by
  have hc := fun e => MapKept.run_checkKey (P := P) (w := w) hk hkey e 9999
  simp [Instr.lookup, run_underlying ht, MapKept.run_getObj_map hb, hc, MapKept.run_findKey hk hf, hz, Result.andThen]
theorem map_nil (ht : P.underlying xT = some (.map kT eT)) (hk : P.underlying kT = some kd) (hkey : MapKept.IsKey kd key) {z : Value} (hz : (zeroValue eT).run P w = .ok z w) (c : Bool) :
    (Instr.lookup xT (.map none) key c).run P w = .ok (if c then .tuple #[z, .bool false] else z) w := by
  have hc := fun e => MapKept.run_checkKey (P := P) (w := w) hk hkey e 9999
  have hf : Instr.findNow kd key ([] : List MapEntry) 0 = some none := rfl
  simp [Instr.lookup, run_underlying ht, hc, MapKept.run_findKey hk hf, hz, Result.andThen]
theorem map_put (ht : P.underlying xT = some (.map kT eT)) (hk : P.underlying kT = some kd) (hkey : MapKept.IsKey kd key) (hb : HasM w b es clock) (hf : Instr.findNow kd key es.toList 0 = some none) (val : Value) :
    (Instr.mapUpdate xT (.map (some b)) key val).run P w = .ok () (setBlock w b (.map (es.push (ent key val clock)) (clock + 1))) := by
  have hc := MapKept.run_checkKey (P := P) (w := w) hk hkey false 9999
  simp [Instr.mapUpdate, run_underlying ht, MapKept.run_getObj_map hb, hc, MapKept.run_findKey hk hf, MapKept.run_setObj_map _ hb, Result.andThen, setBlock, ent]
end

/-- The key c has the value v. -/
def Got (es : Array MapEntry) (c : Int) (v : Value) : Prop := ∃ i, Instr.findNow (.int .u8) (.int .u8 c) es.toList 0 = some (some (i, v))
/-- The key c is not there. -/
def Lacks (es : Array MapEntry) (c : Int) : Prop := Instr.findNow (.int .u8) (.int .u8 c) es.toList 0 = some none

theorem find_snoc (c d : Int) (v : Value) (n : Nat) : ∀ (l : List MapEntry) (i : Nat), Instr.findNow (.int .u8) (.int .u8 c) (l ++ [ent (.int .u8 d) v n]) i =
    match Instr.findNow (.int .u8) (.int .u8 c) l i with
    | some none => if c = d then some (some (i + l.length, v)) else some none
    | r => r
  | [], i => by
    by_cases h : c = d
    · simp [Instr.findNow, Instr.sameNow, ent, h]
    · have hb : (c == d) = false := by simpa using h
      simp [Instr.findNow, Instr.sameNow, ent, h, hb]
  | e :: es, i => by
    have ih := find_snoc c d v n es (i + 1)
    simp only [List.cons_append, Instr.findNow]
    cases Instr.sameNow (.int .u8) (.int .u8 c) e.key with
    | none => rfl
    | some b =>
      cases b with
      | true => rfl
      | false =>
        simp only [ih]
        cases Instr.findNow (.int .u8) (.int .u8 c) es (i + 1) with
        | none => rfl
        | some r =>
          cases r with
          | none => by_cases h : c = d <;> simp [h]; omega
          | some x => rfl

theorem Got.push {es : Array MapEntry} {c : Int} {v : Value} (h : Got es c v) (d : Int) (x : Value) (n : Nat) : Got (es.push (ent (.int .u8 d) x n)) c v := by
  obtain ⟨i, hi⟩ := h
  refine ⟨i, ?_⟩
  rw [Array.toList_push, find_snoc, hi]
theorem Lacks.got {es : Array MapEntry} {c : Int} (h : Lacks es c) (v : Value) (n : Nat) : Got (es.push (ent (.int .u8 c) v n)) c v := by
  refine ⟨0 + es.toList.length, ?_⟩
  unfold Lacks at h
  rw [Array.toList_push, find_snoc, h]
  simp
theorem Lacks.push {es : Array MapEntry} {c : Int} (h : Lacks es c) {d : Int} (hd : c ≠ d) (x : Value) (n : Nat) : Lacks (es.push (ent (.int .u8 d) x n)) c := by
  unfold Lacks at h ⊢
  rw [Array.toList_push, find_snoc, h]
  simp [hd]
theorem Lacks.empty (c : Int) : Lacks #[] c := rfl
end Go.Proofs.YtcgabonoddloiaaGreatDoor
