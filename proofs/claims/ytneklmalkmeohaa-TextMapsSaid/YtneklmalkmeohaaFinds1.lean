/- stands, Compare, within, bounds: what they answer. -/
import Derived.Test.YtneklmalkmeohaaPlain
import Derived.Test.YtneklmalkmeohaaAwake
import Derived.Sort.Walk0
namespace Go.Proofs.Ytneklmalkmeohaa
open Go.RowKit Go.Lib

theorem stands_eq (n s : ByteArray) (i : Nat) (h : i + n.size ≤ s.size) : ((s.extract i (i + n.size)).toList == n.toList) = occAt s.data.toList n.data.toList i := by
  cases hc : ((s.extract i (i + n.size)).toList == n.toList)
  · rw [occ_no s n i h hc]
  · rw [occ_yes s n i h hc]
theorem stands_far (n s : ByteArray) (i : Nat) (hi : i ≤ s.size) (h : ¬ i + n.size ≤ s.size) : occAt s.data.toList n.data.toList i = false := by
  cases ho : occAt s.data.toList n.data.toList i
  · rfl
  · exfalso
    unfold occAt at ho
    have h1 := (List.isPrefixOf_iff_prefix.1 ho).length_le
    rw [List.length_drop] at h1
    simp at h1
    omega

set_option maxRecDepth 100000 in
set_option maxHeartbeats 800000 in
theorem stands_any (n s : ByteArray) (i : Nat) (w : World) (hn : n.size ≤ 400) (hs : s.size ≤ 400) (hi : i ≤ s.size) :
    Calls Try.prog 52 #[.string n, .string s, .int .i64 i] w fun e w' => e = .returned (.bool (occAt s.data.toList n.data.toList i)) ∧ w = w' := by
  by_cases h : i + n.size ≤ s.size
  · have h1 : (i : Int) ≤ (s.size : Int) - (n.size : Int) := by omega
    have h2 : (0 : Int) ≤ (i : Int) := by omega
    have H := Lib.hid (stands_eq n s i h)
    go_enter Try.func52, Try.ntmps52
    go_wp2
    go_ret
    exact ⟨by rw [H.out]; rfl, rfl⟩
  · have h1 : ¬ (i : Int) ≤ (s.size : Int) - (n.size : Int) := by omega
    have h2 : (0 : Int) ≤ (i : Int) := by omega
    have H := Lib.hid (stands_far n s i hi h)
    go_enter Try.func52, Try.ntmps52
    go_wp2
    go_ret
    exact ⟨by rw [H.out]; rfl, rfl⟩

theorem trich : ∀ (a b : List UInt8), ¬ a < b → a ≠ b → b < a
  | [], [], _, h => absurd rfl h
  | [], y :: ys, h, _ => absurd (by simp) h
  | x :: xs, [], _, _ => by simp
  | x :: xs, y :: ys, h, hn => by
    rw [List.cons_lt_cons_iff] at h ⊢
    rcases Nat.lt_trichotomy x.toNat y.toNat with h1 | h1 | h1
    · exact absurd (.inl (UInt8.lt_iff_toNat_lt.2 h1)) h
    · have e := UInt8.toNat_inj.1 h1
      subst e
      exact .inr ⟨rfl, trich xs ys (fun h2 => h (.inr ⟨rfl, h2⟩)) (fun e => hn (by rw [e]))⟩
    · exact .inl (UInt8.lt_iff_toNat_lt.2 h1)

theorem less_eq (a b : ByteArray) : Op.bytesLess a.toList b.toList = decide (a.data.toList < b.data.toList) := by rw [bytesLess_eq, toList_data, toList_data]

set_option maxHeartbeats 400000 in
theorem refCompare_any (a b : ByteArray) (w : World) :
    Calls Try.prog 12 #[.string a, .string b] w fun e w' => e = .returned (.int .i64 (compareBytes a.data.toList b.data.toList)) ∧ w = w' := by
  have hc := cmp_cases a.data.toList b.data.toList
  by_cases h : a.data.toList < b.data.toList
  · have H := Lib.hid (hc.1 h)
    have h1 : Op.bytesLess a.toList b.toList = true := by rw [less_eq]; simpa using h
    clear hc h
    go_enter Try.func12, Try.ntmps12
    go_wp2
    go_ret
    exact ⟨by rw [H.out]; rfl, rfl⟩
  · have h1 : Op.bytesLess a.toList b.toList = false := by rw [less_eq]; simpa using h
    by_cases h2 : a.data.toList = b.data.toList
    · have H := Lib.hid (hc.2.2 h (by rw [h2]; exact List.lt_irrefl _))
      have h3 : (a.toList == b.toList) = true := by rw [toList_data, toList_data]; simpa using h2
      clear hc h h2
      go_enter Try.func12, Try.ntmps12
      go_wp2
      go_ret
      exact ⟨by rw [H.out]; rfl, rfl⟩
    · have H := Lib.hid (hc.2.1 (trich _ _ h h2))
      have h3 : (a.toList == b.toList) = false := by rw [toList_data, toList_data]; simpa using h2
      clear hc h h2
      go_enter Try.func12, Try.ntmps12
      go_wp2
      go_ret
      exact ⟨by rw [H.out]; rfl, rfl⟩

set_option maxHeartbeats 400000 in
theorem compare_any (a b : ByteArray) (w : World) :
    Calls Try.prog 11 #[.string a, .string b] w fun e w' => e = .returned (.int .i64 (compareBytes a.data.toList b.data.toList)) ∧ w = w' := by
  go_enter Try.func11, Try.ntmps11
  go_wp2_with (go_at_call 48; refine (Try.strings_Compare _ _ _).mono ?_; rintro e w' ⟨rfl, rfl⟩)
  go_ret
  exact ⟨rfl, rfl⟩

/-- The bytes from an index to another one. -/
def rangeOf (l : List UInt8) (f t : Int) : List UInt8 := (l.take (t + 1).toNat).drop f.toNat

set_option maxHeartbeats 400000 in
theorem within_any (n lo hi : Int) (w : World) (b : Bool) (hb : b = (decide (lo ≤ n) && decide (n ≤ hi))) :
    Calls Try.prog 50 #[.int .i64 n, .int .i64 lo, .int .i64 hi] w fun e w' => e = .returned (.bool b) ∧ w = w' := by
  by_cases h1 : lo ≤ n <;> by_cases h2 : n ≤ hi
  all_goals
    have H := Lib.hid hb
    clear hb
    go_enter Try.func50, Try.ntmps50
    go_wp2
    go_ret
    refine ⟨?_, rfl⟩
    rw [H.out]
    simp [h1, h2]
    try omega

set_option maxHeartbeats 400000 in
theorem bounds_any (f t n : Int) (w : World) (hn0 : 0 ≤ n) (hn : n ≤ 400) :
    Calls Try.prog 49 #[.int .i64 f, .int .i64 t, .int .i64 n] w fun e w' => e = .returned (.tuple #[.int .i64 (max f 0), .int .i64 (min t (n - 1))]) ∧ w = w' := by
  go_enter Try.func49, Try.ntmps49
  go_wp2
  go_ret2
  exact ⟨rfl, rfl⟩
end Go.Proofs.Ytneklmalkmeohaa
