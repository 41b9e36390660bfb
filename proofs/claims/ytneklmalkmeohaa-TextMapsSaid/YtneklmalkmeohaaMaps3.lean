/- The table that mapKeys makes: for each byte the keys that begin with it. -/
import Derived.Test.YtneklmalkmeohaaMaps1
import Derived.Test.YtneklmalkmeohaaKeys
namespace Go.Proofs.Ytneklmalkmeohaa
open Go.RowKit Go.Lib

theorem grownBy_far (W : World) (p : Addr) (v : Value) : W.grownBy (W.setCell p v) (some p.block) :=
  ⟨rfl, rfl, rfl, by simp, fun k _ hk => Below.heap_setCell _ _ _ k (fun e => hk (by rw [e]))⟩
theorem grownBy_new (W : World) (o : Obj) : W.grownBy (W.alloc o) none := ⟨rfl, rfl, rfl, by simp, fun k hk _ => Below.heap_alloc W o k hk⟩
theorem grownBy_below {W W' : World} (h : Below W.heap.size W W') : W.grownBy W' none := ⟨h.os, h.tape, h.output, h.size, fun k hk _ => h.block k hk⟩

def ints (l : List Nat) : List Value := l.map fun (j : Nat) => Value.int .i64 (j : Int)

/-- The rows of an array of lists of numbers: each is the call's own, none is another's. -/
structure Rows256 (W : World) (B : Nat) (F : Array Value) (idx : Nat → List Nat) : Prop where
  firsts : Firsts F
  row : ∀ c, c < 256 → ∃ v, F[c]? = some v ∧ W.ownsRow B 3 1 v (idx c).length (ints (idx c))
  apart : ∀ c d, c < 256 → d < 256 → c ≠ d → ∀ v u b, F[c]? = some v → F[d]? = some u → v.ownBlock = some b → u.ownBlock ≠ some b

theorem Rows256.kept {W W' : World} {B : Nat} {F : Array Value} {idx : Nat → List Nat} {row : Option Nat} (h : Rows256 W B F idx) (hg : W.grownBy W' row) (hr : ∀ r, row = some r → r < B) : Rows256 W' B F idx := by
  refine ⟨h.firsts, fun c hc => ?_, h.apart⟩
  obtain ⟨v, hv, ho⟩ := h.row c hc
  refine ⟨v, hv, ho.kept hg ?_⟩
  cases hb : v.ownBlock with
  | none => exact .inl rfl
  | some b =>
    right
    intro e
    have h1 := (ho.lt b hb).1
    have h2 := hr b e.symm
    omega

theorem Rows256.zero (W : World) (B : Nat) : Rows256 W B Try.zeroCells73 (fun _ => []) := by
  have hz : ∀ c, c < 256 → Try.zeroCells73[c]? = some (.slice none 0 0) := by
    have h : Try.zeroCells73 = Array.replicate 256 (.slice none 0 0) := by kernel_rfl
    intro c hc
    rw [h, Array.getElem?_replicate, if_pos hc]
  refine ⟨Firsts.zero, fun c hc => ⟨_, hz c hc, World.ownsRow_nil _ _ _ _⟩, fun c d hc hd _ v u b hv hu hb => ?_⟩
  rw [hz c hc] at hv
  cases hv
  simp [Value.ownBlock] at hb

/-- One number more in one list. -/
theorem Rows256.append {W w2 : World} {B c k g cap : Nat} {F : Array Value} {idx : Nat → List Nat} {v : Value} (h : Rows256 W B F idx) (hc : c < 256) (hv : F[c]? = some v)
    (hown : w2.ownsRow B 3 1 (.slice (some ⟨g, 0, none⟩) ((idx c).length + 1) cap) ((idx c).length + 1) (ints (idx c) ++ [.int .i64 (k : Int)])) (hg : W.grownBy w2 v.ownBlock) (hat : v.ownBlock = some g ∨ g = W.heap.size) :
    Rows256 w2 B (F.setIfInBounds c (.slice (some ⟨g, 0, none⟩) ((idx c).length + 1) cap)) (fun d => if d = c then idx c ++ [k] else idx d) := by
  have hfar : ∀ d, d < 256 → d ≠ c → ∀ u, F[d]? = some u → u.ownBlock = none ∨ (u.ownBlock ≠ v.ownBlock ∧ u.ownBlock ≠ some g) := fun d hd hdc u hu => by
    cases hb : u.ownBlock with
    | none => exact .inl rfl
    | some b =>
      right
      have h1 : v.ownBlock ≠ some b := h.apart d c hd hc hdc u v b hu hv hb
      refine ⟨fun e => h1 e.symm, fun e => ?_⟩
      cases e
      rcases hat with e | e
      · exact h1 e
      · obtain ⟨u', hu', ho⟩ := h.row d hd
        rw [hu] at hu'
        cases hu'
        have := (ho.lt _ hb).2
        omega
  refine ⟨h.firsts.put c _ rfl, fun d hd => ?_, fun d1 d2 h1 h2 hne v1 v2 b hv1 hv2 hb => ?_⟩
  · by_cases hdc : d = c
    · subst hdc
      refine ⟨_, h.firsts.same hc _, ?_⟩
      rw [if_pos rfl]
      rw [show (idx d ++ [k]).length = (idx d).length + 1 by simp, show ints (idx d ++ [k]) = ints (idx d) ++ [.int .i64 (k : Int)] by simp [ints]]
      exact hown
    · obtain ⟨u, hu, ho⟩ := h.row d hd
      rw [if_neg hdc]
      refine ⟨u, (Firsts.other (fun e => hdc e.symm) _).trans hu, ho.kept hg ?_⟩
      rcases hfar d hd hdc u hu with e | e
      · exact .inl e
      · exact .inr e.1
  · by_cases e1 : d1 = c
    · subst e1
      rw [h.firsts.same h1] at hv1
      cases hv1
      rw [Firsts.other hne] at hv2
      cases hb
      rcases hfar d2 h2 (fun e => hne e.symm) v2 hv2 with e | e
      · rw [e]; simp
      · exact e.2
    · rw [Firsts.other (fun e => e1 e.symm)] at hv1
      by_cases e2 : d2 = c
      · subst e2
        rw [h.firsts.same h2] at hv2
        cases hv2
        rcases hfar d1 h1 e1 v1 hv1 with e | e
        · rw [e] at hb; cases hb
        · intro e3
          cases e3
          exact e.2 hb
      · rw [Firsts.other (fun e => e2 e.symm)] at hv2
        exact h.apart d1 d2 h1 h2 hne v1 v2 b hv1 hv2 hb

/-- A key as Map keeps it; which of the first keys begin with a byte. -/
def keyOfPair (fold : Bool) (prs : List ByteArray) (j : Nat) : ByteArray := if fold = true then ⟨((prs.getD (2 * j) ByteArray.empty).data.toList.map smallOf).toArray⟩ else prs.getD (2 * j) ByteArray.empty
def idxOf (ks : Nat → ByteArray) (n : Nat) (c : Nat) : List Nat := (List.range n).filter fun j => match (ks j).data.toList with | [] => false | x :: _ => decide (x.toNat = c)

theorem idxOf_skip (ks : Nat → ByteArray) (n c : Nat) (h : (ks n).data.toList = []) : idxOf ks (n + 1) c = idxOf ks n c := by
  unfold idxOf
  rw [List.range_succ, List.filter_append]
  simp [h]
theorem idxOf_next (ks : Nat → ByteArray) (n c : Nat) (x : UInt8) (l : List UInt8) (h : (ks n).data.toList = x :: l) : idxOf ks (n + 1) c = if c = x.toNat then idxOf ks n c ++ [n] else idxOf ks n c := by
  unfold idxOf
  rw [List.range_succ, List.filter_append]
  by_cases e : c = x.toNat
  · subst e
    simp [h]
  · have e' : ¬ x.toNat = c := fun h => e h.symm
    simp [h, e, e']

/-- The keys' cells when k of them are laid. -/
def keyCells (ks : Nat → ByteArray) (n k : Nat) : Array Value := ((List.range n).map fun j => if j < k then Value.string (ks j) else Value.string ⟨#[]⟩).toArray
theorem keyCells_get (ks : Nat → ByteArray) (n k j : Nat) (hj : j < n) : (keyCells ks n k)[j]? = some (if j < k then Value.string (ks j) else Value.string ⟨#[]⟩) := by
  simp [keyCells, hj]
theorem keyCells_put (ks : Nat → ByteArray) (n k : Nat) (v : Value) (hv : v = .string (ks k)) (hk : k < n) : (keyCells ks n k).setIfInBounds k v = keyCells ks n (k + 1) := by
  apply Array.ext_getElem?
  intro j
  subst hv
  by_cases hjn : j < n
  · by_cases e : k = j
    · subst e
      rw [keyCells_get ks n (k + 1) k hjn, if_pos (by omega)]
      simp [keyCells, hk]
    · rw [Array.getElem?_setIfInBounds_ne e, keyCells_get ks n k j hjn, keyCells_get ks n (k + 1) j hjn]
      congr 1
      by_cases h : j < k
      · rw [if_pos h, if_pos (by omega)]
      · rw [if_neg h, if_neg (by omega)]
  · have h1 : ∀ m, (keyCells ks n m).size = n := fun m => by simp [keyCells]
    rw [Array.getElem?_eq_none (by rw [Array.size_setIfInBounds, h1]; omega), Array.getElem?_eq_none (by rw [h1]; omega)]
theorem keyCells_zero (ks : Nat → ByteArray) (n : Nat) : keyCells ks n 0 = Array.replicate n (.string ⟨#[]⟩) := by
  apply Array.ext_getElem?
  intro j
  by_cases hj : j < n
  · rw [keyCells_get ks n 0 j hj, Array.getElem?_replicate, if_pos hj]
    rfl
  · rw [Array.getElem?_eq_none (by simp [keyCells]; omega), Array.getElem?_eq_none (by simp; omega)]
end Go.Proofs.Ytneklmalkmeohaa
