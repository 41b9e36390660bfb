/- Map: what it answers, in plain words. -/
import Derived.Test.YtneklmalkmeohaaForms3
namespace Go.Proofs.Ytneklmalkmeohaa
open Go.RowKit Go.Lib

/-- A text as Map looks at it. -/
def fd (fold : Bool) (l : List UInt8) : List UInt8 := if fold = true then l.map smallOf else l
theorem fd_len (fold : Bool) (l : List UInt8) : (fd fold l).length = l.length := by unfold fd; split <;> simp
theorem fd_take (fold : Bool) (l : List UInt8) (n : Nat) : fd fold (l.take n) = (fd fold l).take n := by unfold fd; split <;> simp
theorem fd_drop (fold : Bool) (l : List UInt8) (n : Nat) : fd fold (l.drop n) = (fd fold l).drop n := by unfold fd; split <;> simp

/-- Whether a key stands at the beginning. -/
def fitsKey (fold : Bool) (rest key : List UInt8) : Bool := !key.isEmpty && (fd fold key).isPrefixOf (fd fold rest)

/-- The first pair whose key stands at the beginning: how many bytes it takes, what is put. -/
def findPair (fold : Bool) (rest : List UInt8) : List ByteArray → Option (Nat × ByteArray)
  | k :: v :: l => if fitsKey fold rest k.data.toList = true then some (k.size, v) else findPair fold rest l
  | _ => none

/-- All places, from the left; nothing where a text beyond the limit comes out. -/
def mapAll (fold : Bool) (prs : List ByteArray) : Nat → List UInt8 → List UInt8 → Option (List UInt8)
  | 0, out, _ => some out
  | _ + 1, out, [] => some out
  | n + 1, out, c :: l =>
    match findPair fold (c :: l) prs with
    | some (k, v) => if (out ++ v.data.toList).length ≤ 65536 then mapAll fold prs n (out ++ v.data.toList) ((c :: l).drop k) else none
    | none => if (out ++ [c]).length ≤ 65536 then mapAll fold prs n (out ++ [c]) l else none

/-- What Map hands on. -/
def mapVal (s : ByteArray) (prs : List ByteArray) (fold : Bool) : Value :=
  if prs.length % 2 = 1 then .tuple #[.string ⟨#[]⟩, .int .i64 1]
  else match mapAll fold prs s.size [] s.data.toList with
    | some o => .tuple #[.string ⟨o.toArray⟩, .int .i64 0]
    | none => .tuple #[.string ⟨#[]⟩, .int .i64 4]

theorem mapAll_nil (fold : Bool) (prs : List ByteArray) (n : Nat) (out : List UInt8) : mapAll fold prs n out [] = some out := by cases n <;> rfl

/-- One place. -/
theorem mapAll_hit {fold : Bool} {prs : List ByteArray} {n k : Nat} {out rest : List UInt8} {v : ByteArray} (hr : rest ≠ []) (h : findPair fold rest prs = some (k, v)) :
    mapAll fold prs (n + 1) out rest = if (out ++ v.data.toList).length ≤ 65536 then mapAll fold prs n (out ++ v.data.toList) (rest.drop k) else none := by
  cases rest with
  | nil => exact absurd rfl hr
  | cons c l => rw [mapAll, h]
theorem mapAll_miss {fold : Bool} {prs : List ByteArray} {n : Nat} {out l : List UInt8} {c : UInt8} (h : findPair fold (c :: l) prs = none) :
    mapAll fold prs (n + 1) out (c :: l) = if (out ++ [c]).length ≤ 65536 then mapAll fold prs n (out ++ [c]) l else none := by
  rw [mapAll, h]

theorem findPair_le {fold : Bool} {rest : List UInt8} : ∀ {prs : List ByteArray} {k : Nat} {v : ByteArray}, findPair fold rest prs = some (k, v) → 0 < k ∧ k ≤ rest.length ∧ v ∈ prs
  | [], _, _, h => by simp [findPair] at h
  | [_], _, _, h => by simp [findPair] at h
  | a :: b :: l, k, v, h => by
    unfold findPair at h
    split at h
    · rename_i hf
      cases h
      unfold fitsKey at hf
      rw [Bool.and_eq_true] at hf
      obtain ⟨h1, h2⟩ := hf
      have h3 := (List.isPrefixOf_iff_prefix.1 h2).length_le
      rw [fd_len, fd_len] at h3
      refine ⟨?_, by rw [Lib.size_eq]; exact h3, by simp⟩
      rw [Lib.size_eq]
      cases hd : a.data.toList with
      | nil => rw [hd] at h1; simp at h1
      | cons x y => simp
    · obtain ⟨h1, h2, h3⟩ := findPair_le h
      exact ⟨h1, h2, by simp [h3]⟩

theorem findPair_step {fold : Bool} {rest : List UInt8} {prs : List ByteArray} {j : Nat} (h : 2 * j + 1 < prs.length) :
    findPair fold rest (prs.drop (2 * j)) = if fitsKey fold rest (prs[2 * j]'(by omega)).data.toList = true then some ((prs[2 * j]'(by omega)).size, prs[2 * j + 1]) else findPair fold rest (prs.drop (2 * (j + 1))) := by
  rw [List.drop_eq_getElem_cons (by omega : 2 * j < prs.length), List.drop_eq_getElem_cons h, findPair]
  rfl
theorem findPair_end {fold : Bool} {rest : List UInt8} {prs : List ByteArray} {j : Nat} (h : prs.length ≤ 2 * j) : findPair fold rest (prs.drop (2 * j)) = none := by
  rw [List.drop_of_length_le h]
  rfl

/-- A key that stands there: the same bytes, as Map looks at them. -/
theorem fits_iff (fold : Bool) (rest key : List UInt8) (h0 : key ≠ []) (hl : key.length ≤ rest.length) : fitsKey fold rest key = true ↔ fd fold (rest.take key.length) = fd fold key := by
  unfold fitsKey
  have he : key.isEmpty = false := by cases key <;> simp_all
  rw [he, Bool.not_false, Bool.true_and, List.isPrefixOf_iff_prefix, List.prefix_iff_eq_take, fd_len, fd_take]
  exact eq_comm
theorem fits_far (fold : Bool) (rest key : List UInt8) (hl : ¬ key.length ≤ rest.length) : fitsKey fold rest key = false := by
  cases h : fitsKey fold rest key with
  | false => rfl
  | true =>
    exfalso
    unfold fitsKey at h
    rw [Bool.and_eq_true] at h
    have h3 := (List.isPrefixOf_iff_prefix.1 h.2).length_le
    rw [fd_len, fd_len] at h3
    exact hl h3
theorem fits_empty (fold : Bool) (rest : List UInt8) : fitsKey fold rest [] = false := rfl

/-- A slice of texts: what its places hold. -/
def Strs (W : World) (ao : Option Addr) (ps : List ByteArray) : Prop := ∀ i (h : i < ps.length), ∃ a, ao = some a ∧ W.cell? (a.add i) = some (.string ps[i])

theorem Strs.below {W W' : World} {ao : Option Addr} {ps : List ByteArray} (h : Strs W ao ps) (hb : Below W.heap.size W W') : Strs W' ao ps := fun i hi => by
  obtain ⟨a, ha, hc⟩ := h i hi
  exact ⟨a, ha, (hb.cell (World.block_lt_of_cell? W _ hc)).trans hc⟩
end Go.Proofs.Ytneklmalkmeohaa
