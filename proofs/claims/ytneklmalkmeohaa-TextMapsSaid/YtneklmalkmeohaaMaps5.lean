/- Which key is found first; WriteByte. -/
import Derived.Test.YtneklmalkmeohaaMaps3
import Derived.Test.YtneklmalkmeohaaMap
import Derived.Test.YtneklmalkmeohaaForms1
namespace Go.Proofs.Ytneklmalkmeohaa
open Go.RowKit Go.Lib

theorem keyOf_bytes (fold : Bool) (prs : List ByteArray) (k : Nat) : (keyOfPair fold prs k).data.toList = fd fold (prs.getD (2 * k) ByteArray.empty).data.toList := by
  unfold keyOfPair fd
  cases fold
  · rfl
  · rfl
theorem keyOf_size (fold : Bool) (prs : List ByteArray) (k : Nat) : (keyOfPair fold prs k).size = (prs.getD (2 * k) ByteArray.empty).size := by
  rw [Lib.size_eq, keyOf_bytes, fd_len, ← Lib.size_eq]

/-- Whether key k stands at the beginning. -/
def hits (fold : Bool) (rest : List UInt8) (prs : List ByteArray) (k : Nat) : Bool := fitsKey fold rest (prs.getD (2 * k) ByteArray.empty).data.toList

theorem findPair_find (fold : Bool) (rest : List UInt8) : ∀ (n : Nat) (prs : List ByteArray), prs.length = 2 * n →
    findPair fold rest prs = ((List.range n).find? (hits fold rest prs)).map fun k => ((prs.getD (2 * k) ByteArray.empty).size, prs.getD (2 * k + 1) ByteArray.empty)
  | 0, prs, h => by
    have : prs = [] := List.eq_nil_of_length_eq_zero (by omega)
    subst this
    rfl
  | n + 1, prs, h => by
    match prs, h with
    | a :: b :: l, h =>
      have hl : l.length = 2 * n := by simp at h; omega
      have e : ∀ k, hits fold rest (a :: b :: l) (k + 1) = hits fold rest l k := fun k => by
        unfold hits
        rw [show 2 * (k + 1) = 2 * k + 1 + 1 by omega]
        rfl
      rw [findPair, List.range_succ_eq_map, List.find?_cons]
      by_cases hf : fitsKey fold rest a.data.toList = true
      · rw [if_pos hf, show hits fold rest (a :: b :: l) 0 = true from hf]
        rfl
      · rw [if_neg hf, show hits fold rest (a :: b :: l) 0 = false by simpa [hits] using hf, findPair_find fold rest n l hl, List.find?_map]
        have e2 : (hits fold rest (a :: b :: l) ∘ Nat.succ) = hits fold rest l := funext fun k => e k
        rw [e2, Option.map_map]
        rfl
    | [], h => simp at h
    | [_], h => simp at h; omega

/-- The keys that begin with the first byte are enough. -/
theorem findPair_idx (fold : Bool) (rest : List UInt8) (n c : Nat) (prs : List ByteArray) (x : UInt8) (l : List UInt8) (h : prs.length = 2 * n) (hx : fd fold rest = x :: l) (hc : x.toNat = c) :
    findPair fold rest prs = ((idxOf (keyOfPair fold prs) n c).find? fun k => Lib.hasPrefix (fd fold rest) (keyOfPair fold prs k).data.toList).map fun k => ((prs.getD (2 * k) ByteArray.empty).size, prs.getD (2 * k + 1) ByteArray.empty) := by
  rw [findPair_find fold rest n prs h]
  congr 1
  unfold idxOf
  rw [List.find?_filter]
  congr 1
  funext k
  unfold hits fitsKey
  rw [← keyOf_bytes]
  have hk := keyOf_bytes fold prs k
  cases hb : (keyOfPair fold prs k).data.toList with
  | nil =>
    have : (prs.getD (2 * k) ByteArray.empty).data.toList = [] := by
      rw [hb] at hk
      exact List.eq_nil_of_length_eq_zero (by rw [← fd_len fold, ← hk]; rfl)
    rw [this]
    rfl
  | cons y m =>
    have hne : (prs.getD (2 * k) ByteArray.empty).data.toList.isEmpty = false := by
      cases hp : (prs.getD (2 * k) ByteArray.empty).data.toList with
      | nil => rw [hp] at hk; rw [hb] at hk; unfold fd at hk; cases fold <;> simp at hk
      | cons _ _ => rfl
    rw [hne, hx]
    by_cases hyx : y = x
    · subst hyx
      simp [Lib.hasPrefix, hc]
      rw [Bool.eq_iff_iff, List.isPrefixOf_iff_prefix, decide_eq_true_iff]
    · have h1 : ¬ y.toNat = c := fun e => hyx (UInt8.toNat_inj.1 (by omega))
      have h2 : (y == x) = false := by simpa using hyx
      simp [Lib.hasPrefix, h1]
      show (y == x && m.isPrefixOf l) = false
      rw [h2]
      rfl

theorem find_at {p : Nat → Bool} : ∀ (l : List Nat) (j : Nat) (hj : j < l.length), (∀ i (h : i < l.length), i < j → p l[i] = false) → p l[j] = true → l.find? p = some l[j]
  | [], j, hj, _, _ => by simp at hj
  | a :: l, 0, _, _, h => by
    have h' : p a = true := by simpa using h
    rw [List.find?_cons, h']
    rfl
  | a :: l, j + 1, hj, hn, h => by
    have h0 : p a = false := by
      have := hn 0 (by simp) (by omega)
      simpa using this
    rw [List.find?_cons, h0]
    simpa using find_at l j (by simpa using hj) (fun i hi hij => by
      have := hn (i + 1) (by simpa using hi) (by omega)
      simpa using this) (by simpa using h)
theorem find_none {p : Nat → Bool} (l : List Nat) (hn : ∀ i (h : i < l.length), p l[i] = false) : l.find? p = none := by
  rw [List.find?_eq_none]
  intro x hx
  obtain ⟨i, hi, rfl⟩ := List.getElem_of_mem hx
  rw [hn i hi]
  simp

set_option maxHeartbeats 1600000 in
set_option maxRecDepth 100000 in
theorem writeByte_any (B b : Nat) (bs : List Value) (c : UInt8) (w : World) (h : Lib.IsBuilder 64 5 B b bs w) (hlen : bs.length ≤ 1000000) (hBw : B ≤ w.heap.size) :
    Calls Try.prog 72 #[.pointer (some ⟨b, 0, none⟩), .int .u8 (c.toNat : Int)] w fun e w' => e = .returned .nilIface ∧ Lib.BuilderAt 64 5 B b (.pointer (some ⟨b, 0, none⟩)) (bs ++ [.int .u8 (c.toNat : Int)]) w' ∧ Below B w w' := by
  obtain ⟨i5, hi5, hy0, hy1, hy2⟩ := info_parts Try.info5
  go_enter Try.func72, Try.ntmps72
  go_wp2_with fail
  refine (check_any B b bs _ h).mono ?_
  rintro e w1 ⟨rfl, ⟨hB, v, hbk, hown, hne⟩, hb1⟩
  have hg : Has w1 b 64 #[.pointer (some ⟨b, 0, none⟩), v] := hbk
  have c1 : w1.cell? ⟨b, 1, none⟩ = some v := hg.cell 1
  have hl1 := hg.lt
  have hz1 := hb1.size
  clear hbk h
  go_wp2_with (at_builtin; refine wpList_append_own _ rfl _ _ 56 rfl B 5 i5 (.int .u8 0) 1 1 Try.underlying56 hi5 hy0 hy1 hy2 rfl (by decide) v bs.length bs rfl (hown.alloc _) ⟨w1.heap.size, 0, none⟩ 1 1 [.int .u8 (c.toNat : Int)] rfl rfl (cell_one_new _ _ _) (by intro u hu; simp at hu; subst hu; rfl) (by unfold maxLen; omega) (by omega) (by simp; omega) ?_; intro v' w2 hown2 hgrow _; obtain ⟨ao, cc, rfl⟩ := slice_of_own hown2; have hg2 : Has w2 b 64 #[.pointer (some ⟨b, 0, none⟩), v] := (hg.alloc _).grown hgrow (Ne.symm hne); have c2 : w2.cell? ⟨b, 1, none⟩ = some v := hg2.cell 1; have f2 := hg2.free 1)
  have hB2 : Below B w w2 := (hb1.alloc (by omega) _).grown hgrow (by simp; omega) (fun k hk => (hown.lt k hk).1)
  go_ret
  exact ⟨rfl, Lib.BuilderAt.put hB hg2 (by simpa using hown2) (by decide), hB2.setCell (p := ⟨b, 1, none⟩) hB _⟩
end Go.Proofs.Ytneklmalkmeohaa
