/- Plain facts on bytes: where a text is found first and last, and how often. -/
import Derived.Lib.CountLaws
import Derived.Lib.LastIndexLaws
import Derived.Lib.IndexMore
import Derived.Lib.IndexBytes
namespace Go.Proofs.Ytneklmalkmeohaa
open Go.Lib

theorem occ_drop (l sub : List UInt8) (f j : Nat) : occAt (l.drop f) sub j = occAt l sub (f + j) := by unfold occAt; rw [List.drop_drop]

/-- Where a text is found first, at f or behind it. -/
def firstOf (l sub : List UInt8) (f : Int) : Int :=
  if sub = [] ∨ l.length < f.toNat then -1 else if index (l.drop f.toNat) sub < 0 then -1 else f.toNat + index (l.drop f.toNat) sub

theorem occ_len {l sub : List UInt8} {i : Nat} (h : occAt l sub i = true) (hs : sub ≠ []) : i + sub.length ≤ l.length := by
  unfold occAt at h
  have h1 := (List.isPrefixOf_iff_prefix.1 h).length_le
  have h2 : 0 < sub.length := List.length_pos_iff.2 hs
  rw [List.length_drop] at h1
  omega

theorem firstOf_hit {l sub : List UInt8} {f : Int} {i : Nat} (hs : sub ≠ []) (hf : f ≤ i) (ho : occAt l sub i = true) (hn : ∀ j : Nat, j < i → f ≤ j → occAt l sub j = false) : firstOf l sub f = i := by
  have hl := occ_len ho hs
  have e : index (l.drop f.toNat) sub = ((i - f.toNat : Nat) : Int) := by
    refine index_first (by rw [List.length_drop]; omega) (by rw [occ_drop, show f.toNat + (i - f.toNat) = i by omega]; exact ho) (fun j hj => ?_)
    rw [occ_drop]
    exact hn _ (by omega) (by omega)
  unfold firstOf
  rw [if_neg (by simp [hs]; omega), e, if_neg (by omega)]
  omega

theorem firstOf_none {l sub : List UInt8} {f : Int} (hn : sub ≠ [] → ∀ j : Nat, j < l.length → f ≤ j → occAt l sub j = false) : firstOf l sub f = -1 := by
  unfold firstOf
  by_cases hs : sub = []
  · rw [if_pos (.inl hs)]
  · split
    · rfl
    · rename_i h
      have hle : f.toNat ≤ l.length := by
        rcases Nat.lt_or_ge l.length f.toNat with h1 | h1
        · exact absurd (.inr h1) h
        · exact h1
      have e : index (l.drop f.toNat) sub = -1 := index_none (fun j hj => by
        rw [occ_drop]
        rw [List.length_drop] at hj
        by_cases hj2 : f.toNat + j < l.length
        · exact hn hs _ hj2 (by omega)
        · cases ho : occAt l sub (f.toNat + j)
          · rfl
          · have := occ_len ho hs
            have h2 : 0 < sub.length := List.length_pos_iff.2 hs
            omega)
      rw [e, if_pos (by omega)]

/-- Where a text is found last, at t or before it. -/
def lastOf (l sub : List UInt8) (t : Int) : Int :=
  if sub = [] ∨ t < 0 then -1 else lastIndex (l.take (min (min t.toNat l.length + sub.length) l.length)) sub

theorem occ_take (l sub : List UInt8) (e j : Nat) (h : occAt (l.take e) sub j = true) (hs : sub ≠ []) : occAt l sub j = true ∧ j + sub.length ≤ e := by
  have h1 := occ_len h hs
  unfold occAt at h ⊢
  have h2 := List.isPrefixOf_iff_prefix.1 h
  rw [List.drop_take] at h2
  refine ⟨List.isPrefixOf_iff_prefix.2 (h2.trans (List.take_prefix _ _)), ?_⟩
  rw [List.length_take] at h1
  omega
theorem occ_take_back (l sub : List UInt8) (e j : Nat) (h : occAt l sub j = true) (he : j + sub.length ≤ e) : occAt (l.take e) sub j = true := by
  unfold occAt at h ⊢
  have h2 := List.isPrefixOf_iff_prefix.1 h
  rw [List.drop_take]
  refine List.isPrefixOf_iff_prefix.2 ?_
  have h3 := List.prefix_iff_eq_take.1 h2
  rw [h3]
  have : sub.length ≤ e - j := by omega
  exact List.take_prefix_take_left this

theorem lastOf_cases (l sub : List UInt8) (t : Int) (hs : sub ≠ []) : (lastOf l sub t = -1 ∧ ∀ j : Nat, (j : Int) ≤ t → occAt l sub j = false) ∨
    (∃ i : Nat, lastOf l sub t = i ∧ (i : Int) ≤ t ∧ occAt l sub i = true ∧ ∀ j : Nat, i < j → (j : Int) ≤ t → occAt l sub j = false) := by
  have hp : 0 < sub.length := List.length_pos_iff.2 hs
  unfold lastOf
  by_cases ht : t < 0
  · rw [if_pos (.inr ht)]
    exact .inl ⟨rfl, fun j hj => by omega⟩
  · rw [if_neg (by simp [hs]; omega)]
    generalize he : min (min t.toNat l.length + sub.length) l.length = e
    have hlen : (l.take e).length = e := by rw [List.length_take]; omega
    have back : ∀ j : Nat, (j : Int) ≤ t → occAt l sub j = true → occAt (l.take e) sub j = true := fun j hj ho => by
      have := occ_len ho hs
      exact occ_take_back l sub e j ho (by omega)
    unfold lastIndex
    rw [hlen]
    split
    · rename_i hle
      rcases lastOcc_spec (l.take e) sub (e - sub.length + 1) with ⟨h1, h2⟩ | ⟨i, hi, h1, h2, h3⟩
      · refine .inl ⟨h1, fun j hj => ?_⟩
        cases ho : occAt l sub j
        · rfl
        · have h5 := occ_take l sub e j (back j hj ho) hs
          have := h2 j (by omega)
          rw [back j hj ho] at this
          exact absurd this (by decide)
      · have h5 := occ_take l sub e i h2 hs
        refine .inr ⟨i, h1, by omega, h5.1, fun j hj1 hj2 => ?_⟩
        cases ho : occAt l sub j
        · rfl
        · have h6 := occ_take l sub e j (back j hj2 ho) hs
          have := h3 j hj1 (by omega)
          rw [back j hj2 ho] at this
          exact absurd this (by decide)
    · rename_i hle
      refine .inl ⟨rfl, fun j hj => ?_⟩
      cases ho : occAt l sub j
      · rfl
      · have h6 := occ_take l sub e j (back j hj ho) hs
        omega

theorem lastOf_hit {l sub : List UInt8} {t : Int} {i : Nat} (hs : sub ≠ []) (hf : (i : Int) ≤ t) (ho : occAt l sub i = true) (hn : ∀ j : Nat, i < j → j < l.length → (j : Int) ≤ t → occAt l sub j = false) : lastOf l sub t = i := by
  rcases lastOf_cases l sub t hs with ⟨h1, h2⟩ | ⟨k, h1, h2, h3, h4⟩
  · rw [h2 i hf] at ho
    exact absurd ho (by decide)
  · rw [h1]
    rcases Nat.lt_trichotomy i k with h | h | h
    · have := hn k h (by have := occ_len h3 hs; have h2 : 0 < sub.length := List.length_pos_iff.2 hs; omega) h2
      rw [h3] at this
      exact absurd this (by decide)
    · rw [h]
    · have := h4 i h hf
      rw [ho] at this
      exact absurd this (by decide)

theorem lastOf_none {l sub : List UInt8} {t : Int} (hn : sub ≠ [] → ∀ j : Nat, j < l.length → (j : Int) ≤ t → occAt l sub j = false) : lastOf l sub t = -1 := by
  by_cases hs : sub = []
  · unfold lastOf
    rw [if_pos (.inl hs)]
  · rcases lastOf_cases l sub t hs with ⟨h1, _⟩ | ⟨k, h1, h2, h3, h4⟩
    · exact h1
    · have h2' : 0 < sub.length := List.length_pos_iff.2 hs
      have h5 := occ_len h3 hs
      rw [hn hs k (by omega) h2] at h3
      exact absurd h3 (by decide)

/-- How often a text is found in what lies from f on. -/
theorem count_first_none {l sub : List UInt8} {f : Nat} (hs : sub ≠ []) (hf : f ≤ l.length) (h : firstOf l sub f = -1) : count (l.drop f) sub = 0 := by
  refine count_miss ?_
  unfold firstOf at h
  rw [if_neg (by simp [hs]; omega), show ((f : Int)).toNat = f by omega] at h
  have hg := index_ge (l.drop f) sub
  split at h
  · omega
  · omega

theorem count_first_some {l sub : List UInt8} {f i : Nat} (hs : sub ≠ []) (hf : f ≤ l.length) (h : firstOf l sub f = i) : count (l.drop f) sub = 1 + count (l.drop (i + sub.length)) sub ∧ f ≤ i ∧ i + sub.length ≤ l.length := by
  unfold firstOf at h
  rw [if_neg (by simp [hs]; omega), show ((f : Int)).toNat = f by omega] at h
  split at h
  · omega
  · rename_i hge
    have hr := index_room (l.drop f) sub (by omega)
    rw [List.length_drop] at hr
    obtain ⟨k, hk⟩ : ∃ k : Nat, index (l.drop f) sub = k := ⟨(index (l.drop f) sub).toNat, by omega⟩
    have := count_hit hs hk
    rw [List.drop_drop] at this
    have e : i = f + k := by omega
    subst e
    refine ⟨by rw [this]; congr 3; omega, by omega, by omega⟩

theorem count_one (l : List UInt8) (c : UInt8) : count l [c] = countByte l c := by
  induction l with
  | nil => rfl
  | cons b l ih =>
    unfold countByte at ih ⊢
    by_cases h : b = c
    · subst h
      have hi : index (b :: l) [b] = (0 : Nat) := index_first (by simp) (by simp [occAt]) (fun j hj => by omega)
      rw [count_hit (by simp) hi]
      simp only [List.length_singleton, List.drop_succ_cons, List.drop_zero, Nat.zero_add, List.count_cons_self]
      omega
    · rw [List.count_cons_of_ne h, ← ih]
      have hx : index (b :: l) [c] = if index l [c] == -1 then -1 else index l [c] + 1 := by
        conv => lhs; unfold index
        rw [if_neg (by simp; exact fun e => h e.symm)]
      by_cases h1 : index l [c] = -1
      · rw [count_miss h1, count_miss (by rw [hx, h1]; rfl)]
      · have hg := index_ge l [c]
        obtain ⟨k, hk⟩ : ∃ k : Nat, index l [c] = k := ⟨(index l [c]).toNat, by omega⟩
        have h2 : index (b :: l) [c] = ((k + 1 : Nat) : Int) := by
          rw [hx, hk, if_neg (by simp)]
          omega
        rw [count_hit (by simp) hk, count_hit (by simp) h2]
        rfl

theorem cmp_cases : ∀ (a b : List UInt8), (a < b → compareBytes a b = -1) ∧ (b < a → compareBytes a b = 1) ∧ (¬ a < b → ¬ b < a → compareBytes a b = 0)
  | [], [] => by simp [compareBytes]
  | [], y :: ys => by simp [compareBytes]
  | x :: xs, [] => by simp [compareBytes]
  | x :: xs, y :: ys => by
    have ih := cmp_cases xs ys
    simp only [compareBytes, List.cons_lt_cons_iff]
    by_cases h1 : x < y
    · have h2 : ¬ y < x := fun h => absurd (UInt8.lt_trans h1 h) (UInt8.lt_irrefl _)
      have h3 : ¬ y = x := fun e => by subst e; exact UInt8.lt_irrefl _ h1
      simp [h1, h2, h3]
    · by_cases h2 : y < x
      · have h3 : ¬ x = y := fun e => by subst e; exact UInt8.lt_irrefl _ h2
        simp [h1, h2, h3]
      · have h3 : x = y := by
          rcases Nat.lt_trichotomy x.toNat y.toNat with h | h | h
          · exact absurd (UInt8.lt_iff_toNat_lt.2 h) h1
          · exact UInt8.toNat_inj.1 h
          · exact absurd (UInt8.lt_iff_toNat_lt.2 h) h2
        subst h3
        simpa [h1] using ih
end Go.Proofs.Ytneklmalkmeohaa
