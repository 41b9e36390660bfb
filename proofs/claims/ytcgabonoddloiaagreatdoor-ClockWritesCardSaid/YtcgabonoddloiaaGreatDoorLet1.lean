/- What is known of letters' map while it is made, in whatever order. -/
import Derived.Test.YtcgabonoddloiaaGreatDoorParts
import Derived.Test.YtcgabonoddloiaaGreatDoorMapOps
import Derived.Test.YtcgabonoddloiaaGreatDoorRegion
namespace Go.Proofs.YtcgabonoddloiaaGreatDoor
open Go.RowKit Clk Go.ChangeMaps

/-- Operation, slot, digits, function, key of each letter that is a part of the date. -/
def parts : List (Nat × Nat × Int × FuncId × Int) := [(1, 4, 4, 81, 89), (3, 5, 2, 82, 121), (5, 6, 2, 83, 109), (7, 7, 2, 84, 100), (9, 8, 2, 85, 72), (11, 9, 2, 86, 77), (13, 10, 2, 87, 83), (15, 11, 2, 88, 73)]
/-- Operation, slot, value of what is only moved or made. -/
def known (b : Nat) : List (Nat × Nat × Value) := [(19, 13, .func (.func 78) #[] #[]), (32, 20, .func (.func 79) #[] #[]), (35, 22, .func (.func 79) #[] #[]), (38, 24, .func (.func 99) #[] #[.pointer (some ⟨b, 0, none⟩)]), (41, 26, .func (.func 100) #[] #[.pointer (some ⟨b, 0, none⟩)])]
def kl : List (Nat × Nat) := [(19, 13), (32, 20), (35, 22), (38, 24), (41, 26)]
theorem known_ops (b : Nat) : ∀ x ∈ known b, (x.1, x.2.1) ∈ kl := by simp [known, kl]
theorem known_none {b i : Nat} (v : Value) (h : ∀ y ∈ kl, y.1 ≠ i) : ∀ x ∈ known b, x.1 = i → v = x.2.2 := fun x hx hj => absurd hj (h _ (known_ops b x hx))
/-- Operation and key of each insertion. -/
def keys : List (Nat × Int) := [(2, 89), (4, 121), (6, 109), (8, 100), (10, 72), (12, 77), (14, 83), (16, 73), (18, 106), (21, 117), (23, 71), (25, 86), (27, 101), (29, 115), (31, 112), (34, 66), (37, 98), (40, 65), (43, 97)]

/-- The letters of es. -/
def HasParts (B : Nat) (es : Array MapEntry) (w : World) (L : Nat → Bool) : Prop := ∀ x ∈ parts, L (x.1 + 1) = true → ∃ v, Got es x.2.2.2.2 v ∧ PartIs B w.heap.size v w x.2.2.1 x.2.2.2.1

theorem part_only {lo hi : Nat} {v : Value} {w : World} (i : Nat) (n : Int) (g : FuncId) (hp : PartIs lo hi v w n g) (h : ∀ x ∈ parts, x.1 = i → x.2.2.1 = n ∧ x.2.2.2.1 = g) : ∀ x ∈ parts, x.1 = i → PartIs lo hi v w x.2.2.1 x.2.2.2.1 := by
  intro x hx hj
  obtain ⟨a, b⟩ := h x hx hj
  rw [a, b]
  exact hp
theorem part_none {lo hi : Nat} {v : Value} {w : World} (i : Nat) (h : ∀ x ∈ parts, x.1 ≠ i) : ∀ x ∈ parts, x.1 = i → PartIs lo hi v w x.2.2.1 x.2.2.2.1 := fun x hx hj => absurd hj (h x hx)

structure Facts (B b : Nat) (w0 : World) (L : Nat → Bool) (v0 : Value) (u : Nat → Value) (w : World) : Prop where
  below : Below B w0 w
  size : B ≤ w.heap.size
  lt : b < w.heap.size
  cell : w.cell? ⟨b, 0, none⟩ = some (.func (.func 78) #[] #[])
  call : ∀ x ∈ parts, L x.1 = true → PartIs B w.heap.size (u x.2.1) w x.2.2.1 x.2.2.2.1
  know : ∀ x ∈ known b, L x.1 = true → u x.2.1 = x.2.2
  map : L 0 = true → ∃ M es ck, u 3 = .map (some M) ∧ HasM w M es ck ∧ B ≤ M ∧ (∀ x ∈ keys, L x.1 = false → Lacks es x.2) ∧ HasParts B es w L ∧ ∀ c, (∀ x ∈ keys, x.2 ≠ c) → Lacks es c
  dep : ∀ x ∈ keys, L x.1 = true → L 0 = true
  end1 : L 44 = true → u 28 = u 3 ∧ L 0 = true
  end2 : L 45 = true → v0 = u 28 ∧ L 44 = true

theorem Facts.to {B b : Nat} {w0 : World} {L : Nat → Bool} {v0 : Value} {u : Nat → Value} {w w' : World} (F : Facts B b w0 L v0 u w) (hw : Below w.heap.size w w') : Facts B b w0 L v0 u w' where
  below := F.below.trans (hw.mono F.size)
  size := Nat.le_trans F.size hw.size
  lt := Nat.lt_of_lt_of_le F.lt hw.size
  cell := (hw.cell (p := ⟨b, 0, none⟩) F.lt).trans F.cell
  call := fun x hx h => ((F.call x hx h).below hw).wide (Nat.le_refl _) hw.size (Nat.le_refl _)
  know := F.know
  map := fun h => by
    obtain ⟨M, es, ck, e, hM, hB, hk, hp, hq⟩ := F.map h
    exact ⟨M, es, ck, e, hM.below hw, hB, hk, fun x hx hl => by obtain ⟨v, g, p⟩ := hp x hx hl; exact ⟨v, g, (p.below hw).wide (Nat.le_refl _) hw.size (Nat.le_refl _)⟩, hq⟩
  dep := F.dep
  end1 := F.end1
  end2 := F.end2

def upd (u : Nat → Value) (s : Nat) (v : Value) : Nat → Value := fun k => if k = s then v else u k
theorem upd_ne {u : Nat → Value} {s k : Nat} {v : Value} (h : k ≠ s) : upd u s v k = u k := if_neg h
theorem true_of {L L' : Nat → Bool} (hF : ∀ j, L' j = false → L j = false) {j : Nat} (h : L j = true) : L' j = true := by
  cases hl : L' j with
  | true => rfl
  | false => rw [hF _ hl] at h; cases h
theorem upd_eq {u : Nat → Value} {s : Nat} {v : Value} : upd u s v s = v := if_pos rfl

/-- An operation that writes a slot of its own. -/
theorem Facts.set {B b : Nat} {w0 : World} {L L' : Nat → Bool} {v0 : Value} {u : Nat → Value} {w : World} (F : Facts B b w0 L v0 u w) (i s : Nat) (v : Value)
    (hL : ∀ j, L' j = true → j = i ∨ L j = true) (hF : ∀ j, L' j = false → L j = false)
    (h3 : s ≠ 3) (h28 : s ≠ 28) (h0 : i ≠ 0) (h44 : i ≠ 44) (h45 : i ≠ 45) (hi : ∀ x ∈ parts, x.1 + 1 ≠ i) (hik : ∀ x ∈ keys, x.1 ≠ i)
    (hs : ∀ x ∈ parts, x.2.1 = s → x.1 = i) (hs' : ∀ x ∈ parts, x.1 = i → x.2.1 = s) (hk : ∀ y ∈ kl, y.2 = s → y.1 = i) (hk' : ∀ y ∈ kl, y.1 = i → y.2 = s)
    (n1 : ∀ x ∈ parts, x.1 = i → PartIs B w.heap.size v w x.2.2.1 x.2.2.2.1) (n2 : ∀ x ∈ known b, x.1 = i → v = x.2.2) : Facts B b w0 L' v0 (upd u s v) w where
  below := F.below
  size := F.size
  lt := F.lt
  cell := F.cell
  call := fun x hx h => by
    by_cases hj : x.1 = i
    · rw [hs' x hx hj, upd_eq]
      exact n1 x hx hj
    · rw [upd_ne fun e => hj (hs x hx e)]
      exact F.call x hx ((hL _ h).resolve_left hj)
  know := fun x hx h => by
    by_cases hj : x.1 = i
    · have e : x.2.1 = s := hk' _ (known_ops b x hx) hj
      rw [e, upd_eq]
      exact n2 x hx hj
    · rw [upd_ne fun e => hj (hk _ (known_ops b x hx) e)]
      exact F.know x hx ((hL _ h).resolve_left hj)
  map := fun h => by
    obtain ⟨M, es, ck, e, hM, hB, hk, hp, hq⟩ := F.map ((hL _ h).resolve_left h0.symm)
    exact ⟨M, es, ck, by rw [upd_ne h3.symm]; exact e, hM, hB, fun x hx hl => hk x hx (hF _ hl), fun x hx hl => hp x hx ((hL _ hl).resolve_left (hi x hx)), hq⟩
  dep := fun x hx h => true_of hF (F.dep x hx ((hL _ h).resolve_left (hik x hx)))
  end1 := fun h => by
    obtain ⟨a, c⟩ := F.end1 ((hL _ h).resolve_left h44.symm)
    exact ⟨by rw [upd_ne h3.symm, upd_ne h28.symm]; exact a, true_of hF c⟩
  end2 := fun h => by
    obtain ⟨a, c⟩ := F.end2 ((hL _ h).resolve_left h45.symm)
    exact ⟨by rw [upd_ne h28.symm]; exact a, true_of hF c⟩

theorem keys_inj : ∀ x ∈ keys, ∀ y ∈ keys, x.2 = y.2 → x.1 = y.1 := by decide
theorem parts_keys : ∀ x ∈ parts, (x.1 + 1, x.2.2.2.2) ∈ keys := by decide

/-- An insertion. -/
theorem Facts.ins {B b : Nat} {w0 : World} {L L' : Nat → Bool} {v0 : Value} {u : Nat → Value} {w : World} {M : Nat} {es : Array MapEntry} {ck : Nat} (F : Facts B b w0 L v0 u w) (i : Nat) (c : Int) (v : Value)
    (hL : ∀ j, L' j = true → j = i ∨ L j = true) (hF : ∀ j, L' j = false → L j = false ∧ j ≠ i) (hm : L 0 = true) (hiL : L i = false) (hc : (i, c) ∈ keys)
    (eM : u 3 = .map (some M)) (hM : HasM w M es ck)
    (o : ∀ x ∈ parts, x.1 ≠ i) (o2 : ∀ y ∈ kl, y.1 ≠ i) (o3 : i ≠ 0 ∧ i ≠ 44 ∧ i ≠ 45) (hv : ∀ x ∈ parts, x.1 + 1 = i → v = u x.2.1 ∧ L x.1 = true) :
    Facts B b w0 L' v0 u (setBlock w M (.map (es.push (ent (.int .u8 c) v ck)) (ck + 1))) := by
  obtain ⟨M', es', ck', e', hM', hB, hk, hp, hq⟩ := F.map hm
  rw [eM] at e'
  cases e'
  have e2 : some (Obj.map es ck) = some (Obj.map es' ck') := hM.symm.trans hM'
  cases e2
  have keep : ∀ k, k ≠ M → (setBlock w M (.map (es.push (ent (.int .u8 c) v ck)) (ck + 1))).heap[k]? = w.heap[k]? := fun k hk => put_other hk w _
  have ksize : (setBlock w M (.map (es.push (ent (.int .u8 c) v ck)) (ck + 1))).heap.size = w.heap.size := put_size w M _
  have kcell : ∀ (g : Nat) (x : Value), w.cell? ⟨g, 0, none⟩ = some x → (setBlock w M (.map (es.push (ent (.int .u8 c) v ck)) (ck + 1))).cell? ⟨g, 0, none⟩ = some x := by
    intro g x hg
    have hne : g ≠ M := by
      intro e
      subst e
      have h1 : w.heap[g]? = some (.map es ck) := hM
      simp [World.cell?, h1] at hg
    exact (World.cell?_of_block (w := w) (keep g hne)).trans hg
  have kpart : ∀ x n g, PartIs B w.heap.size x w n g → PartIs B (setBlock w M (.map (es.push (ent (.int .u8 c) v ck)) (ck + 1))).heap.size x (setBlock w M (.map (es.push (ent (.int .u8 c) v ck)) (ck + 1))) n g := by
    intro x n g h
    rw [ksize]
    obtain ⟨a, b', c', e, h1, h2, h3, la, lb, lc⟩ := h.is
    exact ⟨⟨a, b', c', e, kcell _ _ h1, kcell _ _ h2, kcell _ _ h3, la, lb, lc⟩, by rw [ksize]; exact Nat.le_refl _⟩
  refine ⟨?_, by rw [ksize]; exact F.size, by rw [ksize]; exact F.lt, kcell _ _ F.cell, fun x hx h => kpart _ _ _ (F.call x hx ((hL _ h).resolve_left (o x hx))), fun x hx h => F.know x hx ((hL _ h).resolve_left (o2 _ (known_ops b x hx))), ?_, fun x hx h => true_of (fun j h => (hF j h).1) hm, fun h => ⟨(F.end1 ((hL _ h).resolve_left o3.2.1.symm)).1, true_of (fun j h => (hF j h).1) hm⟩, ?_⟩
  · exact ⟨F.below.os, F.below.tape, F.below.output, by rw [ksize]; exact F.below.size, fun k hk => (keep k (by omega)).trans (F.below.block k hk)⟩
  · intro _
    refine ⟨M, _, _, eM, put_same hM _, hB, fun x hx hl => ?_, fun x hx hl => ?_, fun d hd => (hq d hd).push (fun e => hd _ hc e.symm) _ _⟩
    · obtain ⟨h1, h2⟩ := hF _ hl
      exact (hk x hx h1).push (fun e => h2 (keys_inj x hx _ hc e)) _ _
    · by_cases hj : x.1 + 1 = i
      · obtain ⟨rfl, hl2⟩ := hv x hx hj
        have hkk := keys_inj _ (parts_keys x hx)
        have e3 : x.2.2.2.2 = c := by
          have := parts_keys x hx
          rw [hj] at this
          have inj : ∀ a ∈ keys, ∀ d ∈ keys, a.1 = d.1 → a.2 = d.2 := by decide
          exact inj _ this _ hc rfl
        refine ⟨u x.2.1, ?_, kpart _ _ _ (F.call x hx hl2)⟩
        rw [e3]
        exact (hk _ hc hiL).got _ _
      · obtain ⟨y, g, p⟩ := hp x hx ((hL _ hl).resolve_left hj)
        exact ⟨y, g.push _ _ _, kpart _ _ _ p⟩
  · intro h
    obtain ⟨a, d⟩ := F.end2 ((hL _ h).resolve_left o3.2.2.symm)
    exact ⟨a, true_of (fun j h => (hF j h).1) d⟩

/-- The map is made. -/
theorem Facts.make {B b : Nat} {w0 : World} {L L' : Nat → Bool} {v0 : Value} {u : Nat → Value} {w : World} (F : Facts B b w0 L v0 u w)
    (hL : ∀ j, L' j = true → j = 0 ∨ L j = true) (hF : ∀ j, L' j = false → L j = false) (h0 : L 0 = false) : Facts B b w0 L' v0 (upd u 3 (.map (some w.heap.size))) (w.alloc (.map #[] 0)) := by
  have G := F.to (Below.alloc (Below.refl w.heap.size w) (Nat.le_refl _) (.map #[] 0))
  refine ⟨G.below, G.size, G.lt, G.cell, fun x hx h => ?_, fun x hx h => ?_, fun _ => ?_, fun x hx h => ?_, fun h => ?_, fun h => ?_⟩
  · have n1 : ∀ x ∈ parts, x.1 ≠ 0 ∧ x.2.1 ≠ 3 := by decide
    rw [upd_ne (n1 x hx).2]
    exact G.call x hx ((hL _ h).resolve_left (n1 x hx).1)
  · have n1 : ∀ y ∈ kl, y.1 ≠ 0 ∧ y.2 ≠ 3 := by decide
    rw [upd_ne (n1 _ (known_ops b x hx)).2]
    exact G.know x hx ((hL _ h).resolve_left (n1 _ (known_ops b x hx)).1)
  · refine ⟨w.heap.size, #[], 0, upd_eq, HasM.new w, F.size, fun x _ _ => Lacks.empty _, fun x hx hl => ?_, fun c _ => Lacks.empty c⟩
    have := F.dep _ (parts_keys x hx) ((hL _ hl).resolve_left (by omega))
    rw [h0] at this
    cases this
  · have n1 : ∀ x ∈ keys, x.1 ≠ 0 := by decide
    exact true_of hF (F.dep x hx ((hL _ h).resolve_left (n1 x hx)))
  · have := (F.end1 ((hL _ h).resolve_left (by decide))).2
    rw [h0] at this; cases this
  · have := (F.end1 (F.end2 ((hL _ h).resolve_left (by decide))).2).2
    rw [h0] at this; cases this

theorem Facts.move {B b : Nat} {w0 : World} {L L' : Nat → Bool} {v0 : Value} {u : Nat → Value} {w : World} (F : Facts B b w0 L v0 u w)
    (hL : ∀ j, L' j = true → j = 44 ∨ L j = true) (hF : ∀ j, L' j = false → L j = false) (h44 : L 44 = false) (h0 : L 0 = true) : Facts B b w0 L' v0 (upd u 28 (u 3)) w := by
  refine ⟨F.below, F.size, F.lt, F.cell, fun x hx h => ?_, fun x hx h => ?_, fun h => ?_, fun x hx h => ?_, fun h => ?_, fun h => ?_⟩
  · have n1 : ∀ x ∈ parts, x.1 ≠ 44 ∧ x.2.1 ≠ 28 := by decide
    rw [upd_ne (n1 x hx).2]
    exact F.call x hx ((hL _ h).resolve_left (n1 x hx).1)
  · have n1 : ∀ y ∈ kl, y.1 ≠ 44 ∧ y.2 ≠ 28 := by decide
    rw [upd_ne (n1 _ (known_ops b x hx)).2]
    exact F.know x hx ((hL _ h).resolve_left (n1 _ (known_ops b x hx)).1)
  · obtain ⟨M, es, ck, e, hM, hB, hk, hp, hq⟩ := F.map ((hL _ h).resolve_left (by decide))
    have n1 : ∀ x ∈ parts, x.1 + 1 ≠ 44 := by decide
    exact ⟨M, es, ck, by rw [upd_ne (by decide)]; exact e, hM, hB, fun x hx hl => hk x hx (hF _ hl), fun x hx hl => hp x hx ((hL _ hl).resolve_left (n1 x hx)), hq⟩
  · have n1 : ∀ x ∈ keys, x.1 ≠ 44 := by decide
    exact true_of hF (F.dep x hx ((hL _ h).resolve_left (n1 x hx)))
  · exact ⟨by rw [upd_eq, upd_ne (by decide)], true_of hF h0⟩
  · have := (F.end2 ((hL _ h).resolve_left (by decide))).2
    rw [h44] at this; cases this

theorem Facts.last {B b : Nat} {w0 : World} {L L' : Nat → Bool} {v0 : Value} {u : Nat → Value} {w : World} (F : Facts B b w0 L v0 u w)
    (hL : ∀ j, L' j = true → j = 45 ∨ L j = true) (hF : ∀ j, L' j = false → L j = false) (h44 : L 44 = true) : Facts B b w0 L' (u 28) u w := by
  refine ⟨F.below, F.size, F.lt, F.cell, fun x hx h => ?_, fun x hx h => ?_, fun h => ?_, fun x hx h => ?_, fun h => ⟨(F.end1 h44).1, true_of hF (F.end1 h44).2⟩, fun h => ⟨rfl, true_of hF h44⟩⟩
  · have n1 : ∀ x ∈ parts, x.1 ≠ 45 := by decide
    exact F.call x hx ((hL _ h).resolve_left (n1 x hx))
  · have n1 : ∀ y ∈ kl, y.1 ≠ 45 := by decide
    exact F.know x hx ((hL _ h).resolve_left (n1 _ (known_ops b x hx)))
  · obtain ⟨M, es, ck, e, hM, hB, hk, hp, hq⟩ := F.map ((hL _ h).resolve_left (by decide))
    have n1 : ∀ x ∈ parts, x.1 + 1 ≠ 45 := by decide
    exact ⟨M, es, ck, e, hM, hB, fun x hx hl => hk x hx (hF _ hl), fun x hx hl => hp x hx ((hL _ hl).resolve_left (n1 x hx)), hq⟩
  · have n1 : ∀ x ∈ keys, x.1 ≠ 45 := by decide
    exact true_of hF (F.dep x hx ((hL _ h).resolve_left (n1 x hx)))
end Go.Proofs.YtcgabonoddloiaaGreatDoor
