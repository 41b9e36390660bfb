/- Canonical forms, heads and tails of paths, in plain words. -/
import Derived.Test.YtcnmblfdieegfaaParts5
import Derived.Test.YtcnmblfdieegfaaParts6
import Derived.Lib.LastIndexLaws
import Derived.Lib.Join
namespace Go.Proofs.Ytcnmblfdieegfaa
open Go.RowKit Go.Lib

/-- Whether a path is absolute. -/
def pabs (l : List UInt8) : Bool := decide (l.take 2 = [58, 58])
/-- The parts of a path in a namespace. -/
def partsIn (sp l : List UInt8) : List (List UInt8) := if pabs l then partsOf l else partsOf sp ++ partsOf l
def canP (sp l : List UInt8) : List UInt8 := canon (partsIn sp l)

theorem good_in (sp l : List UInt8) : ∀ p ∈ partsIn sp l, PartOk p := by
  intro p hp
  unfold partsIn at hp
  split at hp
  · exact partsOf_good l p hp
  · rcases List.mem_append.1 hp with h | h
    · exact partsOf_good sp p h
    · exact partsOf_good l p h
theorem pabs_canon (ps : List (List UInt8)) : pabs (canon ps) = true := by
  obtain ⟨r, e⟩ := canon_absolute ps
  simp [pabs, e]
theorem canP_canon (sp : List UInt8) (ps : List (List UInt8)) (h : ∀ p ∈ ps, PartOk p) : canP sp (canon ps) = canon ps := by
  unfold canP partsIn
  rw [if_pos (pabs_canon ps), parts_canon ps h]
theorem canP_twice (sp a b : List UInt8) : canP sp (canP a b) = canP a b := canP_canon sp _ (good_in a b)
theorem canP_nil (x : List UInt8) : canP [] x = canon (partsOf x) := by
  unfold canP partsIn
  split
  · rfl
  · rfl
theorem canP_root (x : List UInt8) : canP [58, 58] x = canon (partsOf x) := by
  unfold canP partsIn
  split
  · rfl
  · rfl

/-- Two colons stand at a place. -/
def colons (l : List UInt8) (j : Nat) : Prop := l[j]? = some 58 ∧ l[j + 1]? = some 58
theorem occ_colons (l : List UInt8) (j : Nat) : occAt l [58, 58] j = true ↔ colons l j := by
  have e0 : (l.drop j)[0]? = l[j]? := by rw [List.getElem?_drop]; rfl
  have e1 : (l.drop j)[1]? = l[j + 1]? := List.getElem?_drop
  unfold occAt colons
  rw [← e0, ← e1]
  generalize l.drop j = d
  match d with
  | [] => simp
  | [x] => simp
  | x :: y :: r => simp [List.isPrefixOf]; exact ⟨fun h => ⟨h.1.symm, h.2.symm⟩, fun h => ⟨h.1.symm, h.2.symm⟩⟩

/-- Where the last separator's last two colons stand. -/
def sepAt (l : List UInt8) : Int := lastIndex l [58, 58]
theorem sep_spec (l : List UInt8) : (sepAt l = -1 ∧ ∀ j, ¬ colons l j) ∨ ∃ i : Nat, sepAt l = i ∧ colons l i ∧ ∀ j, i < j → ¬ colons l j := by
  have far : ∀ j, l.length ≤ j + 1 → ¬ colons l j := fun j hj h => by
    have h2 := h.2
    rw [List.getElem?_eq_none hj] at h2
    cases h2
  have no : ∀ j, occAt l [58, 58] j = false → ¬ colons l j := fun j h hc => by
    rw [(occ_colons l j).2 hc] at h
    cases h
  unfold sepAt
  by_cases h : 2 ≤ l.length
  · have e0 : lastIndex l [58, 58] = lastOcc l [58, 58] (l.length - 2 + 1) := if_pos h
    rw [e0]
    rcases lastOcc_spec l [58, 58] (l.length - 2 + 1) with ⟨e, hn⟩ | ⟨i, hi, e, ho, hn⟩
    · refine .inl ⟨e, fun j => ?_⟩
      by_cases hj : j < l.length - 2 + 1
      · exact no j (hn j hj)
      · exact far j (by omega)
    · refine .inr ⟨i, e, (occ_colons l i).1 ho, fun j hj => ?_⟩
      by_cases hj2 : j < l.length - 2 + 1
      · exact no j (hn j hj hj2)
      · exact far j (by omega)
  · exact .inl ⟨if_neg h, fun j => far j (by omega)⟩

def beforeP (l : List UInt8) : List UInt8 := if sepAt l < 0 then [] else l.take (sepAt l).toNat
def tailP (l : List UInt8) : List UInt8 := if sepAt l < 0 then l else l.drop ((sepAt l).toNat + 2)
def headP (l : List UInt8) : List UInt8 := canP [] (beforeP l)

/-- From where to where the last separator goes. -/
def LastSep (l : List UInt8) (f t : Int) : Prop :=
  (f = -1 ∧ t = -1 ∧ ∀ j, ¬ colons l j) ∨ ∃ a b : Nat, f = a ∧ t = b ∧ a + 2 ≤ b ∧ b ≤ l.length ∧ (∀ k, a ≤ k → k < b → l[k]? = some 58) ∧ ∀ j, b ≤ j + 1 → ¬ colons l j

theorem sep_of_last {l : List UInt8} {a b : Nat} (hab : a + 2 ≤ b) (hr : ∀ k, a ≤ k → k < b → l[k]? = some 58) (hn : ∀ j, b ≤ j + 1 → ¬ colons l j) : sepAt l = ((b - 2 : Nat) : Int) := by
  have hc : colons l (b - 2) := ⟨hr _ (by omega) (by omega), hr _ (by omega) (by omega)⟩
  rcases sep_spec l with ⟨_, h⟩ | ⟨i, e, hi, h⟩
  · exact absurd hc (h _)
  · rw [e]
    congr 1
    rcases Nat.lt_trichotomy i (b - 2) with h1 | h1 | h1
    · exact absurd hc (h _ h1)
    · exact h1
    · exact absurd hi (hn i (by omega))
theorem none_of_last {l : List UInt8} (h : ∀ j, ¬ colons l j) : sepAt l = -1 := by
  rcases sep_spec l with ⟨e, _⟩ | ⟨i, _, hi, _⟩
  · exact e
  · exact absurd hi (h i)
theorem take_run {l : List UInt8} {a b : Nat} (hab : a + 2 ≤ b) (hb : b ≤ l.length) (hr : ∀ k, a ≤ k → k < b → l[k]? = some 58) : l.take (b - 2) = l.take a ++ List.replicate (b - 2 - a) 58 := by
  apply List.ext_getElem?
  intro k
  rw [List.getElem?_append, List.getElem?_take, List.length_take, Nat.min_eq_left (by omega), List.getElem?_take, List.getElem?_replicate]
  by_cases h1 : k < a
  · rw [if_pos (by omega), if_pos h1, if_pos h1]
  · rw [if_neg h1]
    by_cases h2 : k < b - 2
    · rw [if_pos h2, if_pos (by omega), hr k (by omega) (by omega)]
    · rw [if_neg h2, if_neg (by omega)]
theorem last_head {l : List UInt8} {a b : Nat} (hab : a + 2 ≤ b) (hb : b ≤ l.length) (hr : ∀ k, a ≤ k → k < b → l[k]? = some 58) (hn : ∀ j, b ≤ j + 1 → ¬ colons l j) : canP [58, 58] (l.take a) = headP l := by
  have e := sep_of_last hab hr hn
  rw [headP, canP_root, canP_nil, beforeP, e, if_neg (by omega), Int.toNat_natCast, take_run hab hb hr, partsOf_colons]
theorem last_tail {l : List UInt8} {a b : Nat} (hab : a + 2 ≤ b) (hr : ∀ k, a ≤ k → k < b → l[k]? = some 58) (hn : ∀ j, b ≤ j + 1 → ¬ colons l j) : l.drop b = tailP l := by
  have e := sep_of_last hab hr hn
  rw [tailP, e, if_neg (by omega), Int.toNat_natCast, show b - 2 + 2 = b by omega]
theorem none_head {l : List UInt8} (h : ∀ j, ¬ colons l j) : [58, 58] = headP l := by
  rw [headP, beforeP, none_of_last h]
  rfl
theorem none_tail {l : List UInt8} (h : ∀ j, ¬ colons l j) : l = tailP l := by
  rw [tailP, none_of_last h]
  rfl

/-- The head and the tail together are the path. -/
theorem head_tail (l : List UInt8) : canP (headP l) (tailP l) = canP [58, 58] l := by
  rcases sep_spec l with ⟨_, h⟩ | ⟨i, e, hi, hn⟩
  · rw [← none_head h, ← none_tail h]
  · rw [headP, tailP, beforeP, e, if_neg (by omega), if_neg (by omega), Int.toNat_natCast, canP_nil, canP_root]
    obtain ⟨T, hT⟩ : ∃ T, l.drop (i + 2) = T := ⟨_, rfl⟩
    have hh : T.head? ≠ some 58 := fun x => by
      rw [← hT, List.head?_drop] at x
      exact hn (i + 1) (by omega) ⟨hi.2, x⟩
    have hl : l = l.take i ++ 58 :: 58 :: T := by
      have h0 : i < l.length := by
        rcases Nat.lt_or_ge i l.length with h | h
        · exact h
        · have := hi.1; rw [List.getElem?_eq_none h] at this; cases this
      have h1 : i + 1 < l.length := by
        rcases Nat.lt_or_ge (i + 1) l.length with h | h
        · exact h
        · have := hi.2; rw [List.getElem?_eq_none h] at this; cases this
      have e0 : l[i] = 58 := by have := hi.1; rw [List.getElem?_eq_getElem h0] at this; exact Option.some.inj this
      have e1 : l[i + 1] = 58 := by have := hi.2; rw [List.getElem?_eq_getElem h1] at this; exact Option.some.inj this
      conv => lhs; rw [← List.take_append_drop i l, List.drop_eq_getElem_cons h0, List.drop_eq_getElem_cons h1, e0, e1, hT]
    have ha : pabs T = false := by
      unfold pabs
      rw [decide_eq_false_iff_not]
      intro x
      apply hh
      cases T with
      | nil => cases x
      | cons c r => simp at x; simp [x.1]
    rw [hT]
    conv => rhs; rw [hl, partsOf_sep _ hh]
    rw [canP, partsIn, if_neg (by rw [ha]; decide), parts_canon _ (partsOf_good _)]

/-- How long parts are. -/
def wt (ps : List (List UInt8)) : Nat := (ps.map fun p => p.length + 1).sum
theorem wt_append (ps qs : List (List UInt8)) : wt (ps ++ qs) = wt ps + wt qs := by simp [wt]
theorem wt_flushed (acc : List UInt8) : wt (flushed acc) ≤ acc.length + 1 := by
  unfold flushed
  split <;> simp [wt]
theorem wt_scan : ∀ (l acc : List UInt8) (first inRun : Bool), wt (scan first inRun acc l) ≤ acc.length + l.length + 1
  | [], acc, first, inRun => by
    rw [show scan first inRun acc [] = flushed acc by rw [scan.eq_def]]
    exact wt_flushed acc
  | c :: r, acc, first, inRun => by
    have IH := wt_scan r
    have F := wt_flushed acc
    rw [scan.eq_def]
    simp only [List.length_cons]
    repeat' split
    · have := IH [] false true; simp at this; omega
    · have := IH [] false true; rw [wt_append]; simp at this; omega
    · omega
    · have := IH [] false false; rw [wt_append]; simp at this; omega
    · have := IH (acc ++ [c]) false false; simp at this; omega
    · have := IH (acc ++ [c]) false false; simp at this; omega
theorem wt_parts (l : List UInt8) : wt (partsOf l) ≤ l.length + 1 := by
  have := wt_scan l [] true false
  simpa [partsOf] using this
theorem wt_in (sp l : List UInt8) : wt (partsIn sp l) ≤ sp.length + l.length + 2 := by
  have h1 := wt_parts sp
  have h2 := wt_parts l
  unfold partsIn
  split
  · omega
  · rw [wt_append]; omega
theorem wt_count : ∀ ps : List (List UInt8), ps.length ≤ wt ps
  | [] => Nat.zero_le _
  | p :: ps => by
    have := wt_count ps
    simp only [wt, List.map_cons, List.sum_cons, List.length_cons] at this ⊢
    omega
theorem flat_len : ∀ ps : List (List UInt8), (flat ps).length ≤ 2 * wt ps
  | [] => Nat.zero_le _
  | p :: ps => by
    have := flat_len ps
    rw [flat_cons]
    simp only [wt, List.map_cons, List.sum_cons, List.length_cons, List.length_append] at this ⊢
    omega
theorem canon_len (ps : List (List UInt8)) : (canon ps).length ≤ 2 * wt ps + 2 := by
  unfold canon
  split
  · simp
  · have := flat_len ps
    unfold flat at this
    omega
theorem canP_len (sp l : List UInt8) : (canP sp l).length ≤ 2 * (sp.length + l.length) + 6 := by
  have h1 := canon_len (partsIn sp l)
  have h2 := wt_in sp l
  unfold canP
  omega
theorem parts_len (l : List UInt8) : (partsOf l).length ≤ l.length + 1 := Nat.le_trans (wt_count _) (wt_parts l)

theorem joinTail_flat : ∀ ps : List (List UInt8), joinTail [58, 58] ps = flat ps
  | [] => rfl
  | p :: ps => by
    have := joinTail_flat ps
    rw [flat_cons, ← this]
    simp [joinTail]
theorem join_canon (ps : List (List UInt8)) : [58, 58] ++ join ps [58, 58] = canon ps := by
  cases ps with
  | nil => rfl
  | cons p ps =>
    rw [join_cons, joinTail_flat, canon, if_neg (by simp)]
    rfl
end Go.Proofs.Ytcnmblfdieegfaa
