/- What is known of letters' map while it is made, in whatever order: all letters. -/
import Derived.Test.YtcgabonoddloiaaGreatDoorWrMake
import Derived.Test.YtcgabonoddloiaaGreatDoorMapOps
import Derived.Test.YtcgabonoddloiaaGreatDoorRegion
import Derived.Test.YtcgabonoddloiaaGreatDoorLet1
namespace Go.Proofs.YtcgabonoddloiaaGreatDoor.Wr
open Go.RowKit Clk Go.ChangeMaps

/-- Operation, slot, key of each letter. -/
def parts : List (Nat × Nat × Int) := [(1, 4, 89), (3, 5, 121), (5, 6, 109), (7, 7, 100), (9, 8, 72), (11, 9, 77), (13, 10, 83), (15, 11, 73), (17, 12, 106), (20, 14, 117), (22, 15, 71), (24, 16, 86), (26, 17, 101), (28, 18, 115), (30, 19, 112), (33, 21, 66), (36, 23, 98), (39, 25, 65), (42, 27, 97)]
/-- The letters of es. -/
def HasParts (B : Nat) (es : Array MapEntry) (w : World) (L : Nat → Bool) : Prop := ∀ x ∈ parts, L (x.1 + 1) = true → ∃ v, Got es x.2.2 v ∧ LetIs B w.heap.size v w x.2.2

theorem part_only {lo hi : Nat} {v : Value} {w : World} (i : Nat) (c : Int) (hp : LetIs lo hi v w c) (h : ∀ x ∈ parts, x.1 = i → x.2.2 = c) : ∀ x ∈ parts, x.1 = i → LetIs lo hi v w x.2.2 := by
  intro x hx hj
  rw [h x hx hj]
  exact hp
theorem part_none {lo hi : Nat} {v : Value} {w : World} (i : Nat) (h : ∀ x ∈ parts, x.1 ≠ i) : ∀ x ∈ parts, x.1 = i → LetIs lo hi v w x.2.2 := fun x hx hj => absurd hj (h x hx)

structure Facts (B b : Nat) (w0 : World) (L : Nat → Bool) (v0 : Value) (u : Nat → Value) (w : World) : Prop where
  below : Below B w0 w
  size : B ≤ w.heap.size
  lt : b < w.heap.size
  cell : w.cell? ⟨b, 0, none⟩ = some (.func (.func 78) #[] #[])
  call : ∀ x ∈ parts, L x.1 = true → LetIs B w.heap.size (u x.2.1) w x.2.2
  know : ∀ x ∈ known b, L x.1 = true → u x.2.1 = x.2.2
  map : L 0 = true → ∃ M es ck, u 3 = .map (some M) ∧ HasM w M es ck ∧ B ≤ M ∧ (∀ x ∈ keys, L x.1 = false → Lacks es x.2) ∧ HasParts B es w L ∧ ∀ c, (∀ x ∈ keys, x.2 ≠ c) → Lacks es c
  dep : ∀ x ∈ keys, L x.1 = true → L 0 = true
  end1 : L 44 = true → u 28 = u 3 ∧ L 0 = true
  end2 : L 45 = true → v0 = u 28 ∧ L 44 = true

theorem Facts.to {B b : Nat} {w0 : World} {L : Nat → Bool} {v0 : Value} {u : Nat → Value} {w w' : World} (F : Facts B b w0 L v0 u w) (hw : Below w.heap.size w w') : Facts B b w0 L v0 u w' where
  below := F.below.trans (hw.mono F.size)
  size := Nat.le_trans F.size hw.size
  lt := Nat.lt_of_lt_of_le F.lt hw.size
  cell := (hw.cell (p := ⟨b, 0, none⟩) F.lt).trans F.cell
  call := fun x hx h => ((F.call x hx h).below hw).wide (Nat.le_refl _) hw.size (Nat.le_refl _)
  know := F.know
  map := fun h => by
    obtain ⟨M, es, ck, e, hM, hB, hk, hp, hq⟩ := F.map h
    exact ⟨M, es, ck, e, hM.below hw, hB, hk, fun x hx hl => by obtain ⟨v, g, p⟩ := hp x hx hl; exact ⟨v, g, (p.below hw).wide (Nat.le_refl _) hw.size (Nat.le_refl _)⟩, hq⟩
  dep := F.dep
  end1 := F.end1
  end2 := F.end2

/-- An operation that writes a slot of its own. -/
theorem Facts.set {B b : Nat} {w0 : World} {L L' : Nat → Bool} {v0 : Value} {u : Nat → Value} {w : World} (F : Facts B b w0 L v0 u w) (i s : Nat) (v : Value)
    (hL : ∀ j, L' j = true → j = i ∨ L j = true) (hF : ∀ j, L' j = false → L j = false)
    (h3 : s ≠ 3) (h28 : s ≠ 28) (h0 : i ≠ 0) (h44 : i ≠ 44) (h45 : i ≠ 45) (hi : ∀ x ∈ parts, x.1 + 1 ≠ i) (hik : ∀ x ∈ keys, x.1 ≠ i)
    (hs : ∀ x ∈ parts, x.2.1 = s → x.1 = i) (hs' : ∀ x ∈ parts, x.1 = i → x.2.1 = s) (hk : ∀ y ∈ kl, y.2 = s → y.1 = i) (hk' : ∀ y ∈ kl, y.1 = i → y.2 = s)
    (n1 : ∀ x ∈ parts, x.1 = i → LetIs B w.heap.size v w x.2.2) (n2 : ∀ x ∈ known b, x.1 = i → v = x.2.2) : Facts B b w0 L' v0 (upd u s v) w where
  below := F.below
  size := F.size
  lt := F.lt
  cell := F.cell
  call := fun x hx h => by
    by_cases hj : x.1 = i
    · rw [hs' x hx hj, upd_eq]
      exact n1 x hx hj
    · rw [upd_ne fun e => hj (hs x hx e)]
      exact F.call x hx ((hL _ h).resolve_left hj)
  know := fun x hx h => by
    by_cases hj : x.1 = i
    · have e : x.2.1 = s := hk' _ (known_ops b x hx) hj
      rw [e, upd_eq]
      exact n2 x hx hj
    · rw [upd_ne fun e => hj (hk _ (known_ops b x hx) e)]
      exact F.know x hx ((hL _ h).resolve_left hj)
  map := fun h => by
    obtain ⟨M, es, ck, e, hM, hB, hk, hp, hq⟩ := F.map ((hL _ h).resolve_left h0.symm)
    exact ⟨M, es, ck, by rw [upd_ne h3.symm]; exact e, hM, hB, fun x hx hl => hk x hx (hF _ hl), fun x hx hl => hp x hx ((hL _ hl).resolve_left (hi x hx)), hq⟩
  dep := fun x hx h => true_of hF (F.dep x hx ((hL _ h).resolve_left (hik x hx)))
  end1 := fun h => by
    obtain ⟨a, c⟩ := F.end1 ((hL _ h).resolve_left h44.symm)
    exact ⟨by rw [upd_ne h3.symm, upd_ne h28.symm]; exact a, true_of hF c⟩
  end2 := fun h => by
    obtain ⟨a, c⟩ := F.end2 ((hL _ h).resolve_left h45.symm)
    exact ⟨by rw [upd_ne h28.symm]; exact a, true_of hF c⟩

theorem parts_keys : ∀ x ∈ parts, (x.1 + 1, x.2.2) ∈ keys := by decide

/-- An insertion. -/
theorem Facts.ins {B b : Nat} {w0 : World} {L L' : Nat → Bool} {v0 : Value} {u : Nat → Value} {w : World} {M : Nat} {es : Array MapEntry} {ck : Nat} (F : Facts B b w0 L v0 u w) (i : Nat) (c : Int) (v : Value)
    (hL : ∀ j, L' j = true → j = i ∨ L j = true) (hF : ∀ j, L' j = false → L j = false ∧ j ≠ i) (hm : L 0 = true) (hiL : L i = false) (hc : (i, c) ∈ keys)
    (eM : u 3 = .map (some M)) (hM : HasM w M es ck)
    (o : ∀ x ∈ parts, x.1 ≠ i) (o2 : ∀ y ∈ kl, y.1 ≠ i) (o3 : i ≠ 0 ∧ i ≠ 44 ∧ i ≠ 45) (hv : ∀ x ∈ parts, x.1 + 1 = i → v = u x.2.1 ∧ L x.1 = true) :
    Facts B b w0 L' v0 u (setBlock w M (.map (es.push (ent (.int .u8 c) v ck)) (ck + 1))) := by
  obtain ⟨M', es', ck', e', hM', hB, hk, hp, hq⟩ := F.map hm
  rw [eM] at e'
  cases e'
  have e2 : some (Obj.map es ck) = some (Obj.map es' ck') := hM.symm.trans hM'
  cases e2
  have keep : ∀ k, k ≠ M → (setBlock w M (.map (es.push (ent (.int .u8 c) v ck)) (ck + 1))).heap[k]? = w.heap[k]? := fun k hk => put_other hk w _
  have ksize : (setBlock w M (.map (es.push (ent (.int .u8 c) v ck)) (ck + 1))).heap.size = w.heap.size := put_size w M _
  have kcell : ∀ (g : Nat) (x : Value), w.cell? ⟨g, 0, none⟩ = some x → (setBlock w M (.map (es.push (ent (.int .u8 c) v ck)) (ck + 1))).cell? ⟨g, 0, none⟩ = some x := by
    intro g x hg
    have hne : g ≠ M := by
      intro e
      subst e
      have h1 : w.heap[g]? = some (.map es ck) := hM
      simp [World.cell?, h1] at hg
    exact (World.cell?_of_block (w := w) (keep g hne)).trans hg
  have kpart : ∀ x c', LetIs B w.heap.size x w c' → LetIs B (setBlock w M (.map (es.push (ent (.int .u8 c) v ck)) (ck + 1))).heap.size x (setBlock w M (.map (es.push (ent (.int .u8 c) v ck)) (ck + 1))) c' := by
    intro x c' h
    rw [ksize]
    exact h.kept (fun k _ _ n => keep k (fun e => n es ck (e ▸ hM))) (by rw [ksize]; exact Nat.le_refl _)
  refine ⟨?_, by rw [ksize]; exact F.size, by rw [ksize]; exact F.lt, kcell _ _ F.cell, fun x hx h => kpart _ _ (F.call x hx ((hL _ h).resolve_left (o x hx))), fun x hx h => F.know x hx ((hL _ h).resolve_left (o2 _ (known_ops b x hx))), ?_, fun x hx h => true_of (fun j h => (hF j h).1) hm, fun h => ⟨(F.end1 ((hL _ h).resolve_left o3.2.1.symm)).1, true_of (fun j h => (hF j h).1) hm⟩, ?_⟩
  · exact ⟨F.below.os, F.below.tape, F.below.output, by rw [ksize]; exact F.below.size, fun k hk => (keep k (by omega)).trans (F.below.block k hk)⟩
  · intro _
    refine ⟨M, _, _, eM, put_same hM _, hB, fun x hx hl => ?_, fun x hx hl => ?_, fun d hd => (hq d hd).push (fun e => hd _ hc e.symm) _ _⟩
    · obtain ⟨h1, h2⟩ := hF _ hl
      exact (hk x hx h1).push (fun e => h2 (keys_inj x hx _ hc e)) _ _
    · by_cases hj : x.1 + 1 = i
      · obtain ⟨rfl, hl2⟩ := hv x hx hj
        have hkk := keys_inj _ (parts_keys x hx)
        have e3 : x.2.2 = c := by
          have := parts_keys x hx
          rw [hj] at this
          have inj : ∀ a ∈ keys, ∀ d ∈ keys, a.1 = d.1 → a.2 = d.2 := by decide
          exact inj _ this _ hc rfl
        refine ⟨u x.2.1, ?_, kpart _ _ (F.call x hx hl2)⟩
        rw [e3]
        exact (hk _ hc hiL).got _ _
      · obtain ⟨y, g, p⟩ := hp x hx ((hL _ hl).resolve_left hj)
        exact ⟨y, g.push _ _ _, kpart _ _ p⟩
  · intro h
    obtain ⟨a, d⟩ := F.end2 ((hL _ h).resolve_left o3.2.2.symm)
    exact ⟨a, true_of (fun j h => (hF j h).1) d⟩

/-- The map is made. -/
theorem Facts.make {B b : Nat} {w0 : World} {L L' : Nat → Bool} {v0 : Value} {u : Nat → Value} {w : World} (F : Facts B b w0 L v0 u w)
    (hL : ∀ j, L' j = true → j = 0 ∨ L j = true) (hF : ∀ j, L' j = false → L j = false) (h0 : L 0 = false) : Facts B b w0 L' v0 (upd u 3 (.map (some w.heap.size))) (w.alloc (.map #[] 0)) := by
  have G := F.to (Below.alloc (Below.refl w.heap.size w) (Nat.le_refl _) (.map #[] 0))
  refine ⟨G.below, G.size, G.lt, G.cell, fun x hx h => ?_, fun x hx h => ?_, fun _ => ?_, fun x hx h => ?_, fun h => ?_, fun h => ?_⟩
  · have n1 : ∀ x ∈ parts, x.1 ≠ 0 ∧ x.2.1 ≠ 3 := by decide
    rw [upd_ne (n1 x hx).2]
    exact G.call x hx ((hL _ h).resolve_left (n1 x hx).1)
  · have n1 : ∀ y ∈ kl, y.1 ≠ 0 ∧ y.2 ≠ 3 := by decide
    rw [upd_ne (n1 _ (known_ops b x hx)).2]
    exact G.know x hx ((hL _ h).resolve_left (n1 _ (known_ops b x hx)).1)
  · refine ⟨w.heap.size, #[], 0, upd_eq, HasM.new w, F.size, fun x _ _ => Lacks.empty _, fun x hx hl => ?_, fun c _ => Lacks.empty c⟩
    have := F.dep _ (parts_keys x hx) ((hL _ hl).resolve_left (by omega))
    rw [h0] at this
    cases this
  · have n1 : ∀ x ∈ keys, x.1 ≠ 0 := by decide
    exact true_of hF (F.dep x hx ((hL _ h).resolve_left (n1 x hx)))
  · have := (F.end1 ((hL _ h).resolve_left (by decide))).2
    rw [h0] at this; cases this
  · have := (F.end1 (F.end2 ((hL _ h).resolve_left (by decide))).2).2
    rw [h0] at this; cases this

theorem Facts.move {B b : Nat} {w0 : World} {L L' : Nat → Bool} {v0 : Value} {u : Nat → Value} {w : World} (F : Facts B b w0 L v0 u w)
    (hL : ∀ j, L' j = true → j = 44 ∨ L j = true) (hF : ∀ j, L' j = false → L j = false) (h44 : L 44 = false) (h0 : L 0 = true) : Facts B b w0 L' v0 (upd u 28 (u 3)) w := by
  refine ⟨F.below, F.size, F.lt, F.cell, fun x hx h => ?_, fun x hx h => ?_, fun h => ?_, fun x hx h => ?_, fun h => ?_, fun h => ?_⟩
  · have n1 : ∀ x ∈ parts, x.1 ≠ 44 ∧ x.2.1 ≠ 28 := by decide
    rw [upd_ne (n1 x hx).2]
    exact F.call x hx ((hL _ h).resolve_left (n1 x hx).1)
  · have n1 : ∀ y ∈ kl, y.1 ≠ 44 ∧ y.2 ≠ 28 := by decide
    rw [upd_ne (n1 _ (known_ops b x hx)).2]
    exact F.know x hx ((hL _ h).resolve_left (n1 _ (known_ops b x hx)).1)
  · obtain ⟨M, es, ck, e, hM, hB, hk, hp, hq⟩ := F.map ((hL _ h).resolve_left (by decide))
    have n1 : ∀ x ∈ parts, x.1 + 1 ≠ 44 := by decide
    exact ⟨M, es, ck, by rw [upd_ne (by decide)]; exact e, hM, hB, fun x hx hl => hk x hx (hF _ hl), fun x hx hl => hp x hx ((hL _ hl).resolve_left (n1 x hx)), hq⟩
  · have n1 : ∀ x ∈ keys, x.1 ≠ 44 := by decide
    exact true_of hF (F.dep x hx ((hL _ h).resolve_left (n1 x hx)))
  · exact ⟨by rw [upd_eq, upd_ne (by decide)], true_of hF h0⟩
  · have := (F.end2 ((hL _ h).resolve_left (by decide))).2
    rw [h44] at this; cases this

theorem Facts.last {B b : Nat} {w0 : World} {L L' : Nat → Bool} {v0 : Value} {u : Nat → Value} {w : World} (F : Facts B b w0 L v0 u w)
    (hL : ∀ j, L' j = true → j = 45 ∨ L j = true) (hF : ∀ j, L' j = false → L j = false) (h44 : L 44 = true) : Facts B b w0 L' (u 28) u w := by
  refine ⟨F.below, F.size, F.lt, F.cell, fun x hx h => ?_, fun x hx h => ?_, fun h => ?_, fun x hx h => ?_, fun h => ⟨(F.end1 h44).1, true_of hF (F.end1 h44).2⟩, fun h => ⟨rfl, true_of hF h44⟩⟩
  · have n1 : ∀ x ∈ parts, x.1 ≠ 45 := by decide
    exact F.call x hx ((hL _ h).resolve_left (n1 x hx))
  · have n1 : ∀ y ∈ kl, y.1 ≠ 45 := by decide
    exact F.know x hx ((hL _ h).resolve_left (n1 _ (known_ops b x hx)))
  · obtain ⟨M, es, ck, e, hM, hB, hk, hp, hq⟩ := F.map ((hL _ h).resolve_left (by decide))
    have n1 : ∀ x ∈ parts, x.1 + 1 ≠ 45 := by decide
    exact ⟨M, es, ck, e, hM, hB, fun x hx hl => hk x hx (hF _ hl), fun x hx hl => hp x hx ((hL _ hl).resolve_left (n1 x hx)), hq⟩
  · have n1 : ∀ x ∈ keys, x.1 ≠ 45 := by decide
    exact true_of hF (F.dep x hx ((hL _ h).resolve_left (n1 x hx)))
end Go.Proofs.YtcgabonoddloiaaGreatDoor.Wr
