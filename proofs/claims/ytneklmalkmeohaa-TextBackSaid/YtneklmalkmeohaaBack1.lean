/- What the law TextBack asks of the functions, as plain facts; the contracts in the form in which the law meets them. -/
import Derived.Test.YtneklmalkmeohaaLong
import Derived.Test.YtneklmalkmeohaaAwake
import Derived.Test.YtneklmalkmeohaaFinds4
import Derived.Test.YtneklmalkmeohaaRepeats3
import Derived.Test.YtneklmalkmeohaaReverse
import Derived.Lib.IndexMore
namespace Go.Proofs.Ytneklmalkmeohaa
open Go.RowKit Go.Lib

theorem first_cases (l sub : List UInt8) (f : Int) : firstOf l sub f = -1 ∨ (sub ≠ [] ∧ ∃ i : Nat, firstOf l sub f = i ∧ f ≤ i ∧ occAt l sub i = true ∧ i + sub.length ≤ l.length) := by
  by_cases hs : sub = []
  · exact .inl (by unfold firstOf; rw [if_pos (.inl hs)])
  by_cases hf : (l.length : Int) < max f 0
  · exact .inl (by unfold firstOf; rw [if_pos (.inr (by omega))])
  have hu : firstOf l sub f = if index (l.drop f.toNat) sub < 0 then -1 else f.toNat + index (l.drop f.toNat) sub := by
    unfold firstOf
    rw [if_neg (by rintro (h | h); exact hs h; exact hf (by omega))]
  rcases index_spec (l.drop f.toNat) sub with ⟨h1, _⟩ | ⟨i, h1, _, h3, _⟩
  · exact .inl (by rw [hu, h1]; rfl)
  · refine .inr ⟨hs, f.toNat + i, ?_, by omega, ?_, ?_⟩
    · rw [hu, h1, if_neg (by omega)]
      omega
    · rw [← occ_drop]; exact h3
    · have h4 : occAt l sub (f.toNat + i) = true := by rw [← occ_drop]; exact h3
      exact occ_len h4 hs

theorem last_cases (l sub : List UInt8) (t : Int) : lastOf l sub t = -1 ∨ (sub ≠ [] ∧ ∃ i : Nat, lastOf l sub t = i ∧ (i : Int) ≤ t ∧ occAt l sub i = true ∧ i + sub.length ≤ l.length) := by
  by_cases hs : sub = []
  · exact .inl (by unfold lastOf; rw [if_pos (.inl hs)])
  rcases lastOf_cases l sub t hs with ⟨h1, _⟩ | ⟨i, h1, h2, h3, _⟩
  · exact .inl h1
  · exact .inr ⟨hs, i, h1, h2, h3, occ_len h3 hs⟩

theorem small_great (c : UInt8) : smallOf (greatOf c) = smallOf c := by
  have hc := c.toNat_lt
  by_cases h : 97 ≤ c.toNat ∧ c.toNat ≤ 122
  · have hg : greatOf c = c - 32 := by unfold greatOf; rw [if_pos h]
    have hn : (c - 32).toNat = c.toNat - 32 := by
      rw [UInt8.toNat_sub]
      simp
      omega
    have h2 : smallOf c = c := by unfold smallOf; rw [if_neg (by omega)]
    rw [hg, h2]
    unfold smallOf
    rw [if_pos (by omega)]
    apply UInt8.toNat_inj.1
    rw [UInt8.toNat_add, hn]
    simp
    omega
  · have hg : greatOf c = c := by unfold greatOf; rw [if_neg h]
    rw [hg]

theorem range_replaced (l x : List UInt8) (f t : Nat) (h : f ≤ t) (ht : t < l.length) : rangeOf (replaced l f t x) f ((f : Int) + x.length - 1) = x := by
  unfold replaced rangeOf
  rw [if_pos (by omega), show (max (f : Int) 0).toNat = f by omega, show ((f : Int) + x.length - 1 + 1).toNat = f + x.length by omega, Int.toNat_natCast]
  have h1 : (l.take f).length = f := by rw [List.length_take]; omega
  rw [List.append_assoc, List.take_append, List.drop_append]
  simp [h1]

theorem replaced_len (l x : List UInt8) (f t : Nat) (h : f ≤ t) (ht : t < l.length) : (replaced l f t x).length ≤ l.length + x.length := by
  unfold replaced
  rw [if_pos (by omega)]
  simp
  omega

theorem data_size (l : List UInt8) : (⟨l.toArray⟩ : ByteArray).size = l.length := by simp [ByteArray.size]

theorem reverse_back (s : ByteArray) (w : World) (hs : s.size ≤ 400) :
    Calls Try.prog 23 #[.string ⟨s.data.toList.reverse.toArray⟩] w fun e w' => e = .returned (.string s) ∧ Below w.heap.size w w' := by
  refine (reverse_any _ w ?_).mono ?_
  · rw [data_size, List.length_reverse, ← Lib.size_eq]
    exact hs
  · rintro e w' ⟨rfl, hb⟩
    exact ⟨by simp, hb⟩

theorem lower_upper (s : ByteArray) (w : World) (hs : s.size ≤ 400) :
    Calls Try.prog 25 #[.string ⟨(s.data.toList.map greatOf).toArray⟩] w fun e w' => e = .returned (.string ⟨(s.data.toList.map smallOf).toArray⟩) ∧ Below w.heap.size w w' := by
  refine (lower_any _ w ?_).mono ?_
  · rw [data_size, List.length_map, ← Lib.size_eq]
    exact hs
  · rintro e w' ⟨rfl, hb⟩
    refine ⟨?_, hb⟩
    show Ending.returned (Value.string ⟨((s.data.toList.map greatOf).map smallOf).toArray⟩) = _
    rw [List.map_map, show smallOf ∘ greatOf = smallOf from funext small_great]

theorem repeat_short (s : ByteArray) (n : Nat) (w : World) (hs : s.size ≤ 400) (hn : n ≤ 40) :
    Calls Try.prog 39 #[.string s, .int .i64 n] w fun e w' => e = .returned (.tuple #[.string ⟨(repeatL s.data.toList n).toArray⟩, .int .i64 0]) ∧ Below w.heap.size w w' := by
  refine (repeat_any s n w hs).mono ?_
  rintro e w' ⟨rfl, hb⟩
  have hl : ¬ 65536 < (n : Int).toNat * s.data.toList.length := by
    rw [Int.toNat_natCast, ← Lib.size_eq]
    have : n * s.size ≤ 40 * 400 := Nat.mul_le_mul hn hs
    omega
  refine ⟨?_, hb⟩
  unfold repText repErr
  rw [if_neg hl, if_neg hl, Int.toNat_natCast]
end Go.Proofs.Ytneklmalkmeohaa
