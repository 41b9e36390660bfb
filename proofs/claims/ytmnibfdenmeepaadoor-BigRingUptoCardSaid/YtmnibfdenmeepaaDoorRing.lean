/- Numbers of at most 60 bytes: how great they are. -/
import Derived.Test.YtmnibfdenmeepaaDoorRight
import Derived.Test.YtmnibfdenmeepaaDoorAwake
namespace Go.Proofs.YtmnibfdenmeepaaDoor
open Go.RowKit Go.Shelf Big

theorem strip_len (l : List UInt8) : (strip l).length ≤ l.length := by
  unfold strip
  rw [List.length_reverse]
  refine Nat.le_trans (List.Sublist.length_le (List.dropWhile_sublist _)) ?_
  rw [List.length_reverse]
  exact List.Sublist.length_le (List.dropWhile_sublist _)
theorem sgn_len (l : List UInt8) : (sgnOf l).2.length ≤ l.length := by
  unfold sgnOf
  split <;> simp
theorem bas_len (l : List UInt8) : (basOf l).2.length ≤ l.length ∧ 0 < (basOf l).1 ∧ (basOf l).1 ≤ 16 := by
  unfold basOf
  split <;> simp <;> omega
theorem num_small {l : List UInt8} {z : Int} (h : numOf l = some z) (hl : l.length ≤ 60) : z.natAbs < 16 ^ 60 := by
  unfold numOf at h
  split at h
  · rename_i hok
    obtain ⟨h1, h2, h3⟩ := bas_len (sgnOf (strip l)).2
    have h4 := sgn_len (strip l)
    have h5 := strip_len l
    generalize (basOf (sgnOf (strip l)).2).2 = r at *
    generalize (basOf (sgnOf (strip l)).2).1 = b at *
    have hz := Option.some.inj h
    subst hz
    rw [sg_abs]
    unfold okn at hok
    simp only [Bool.and_eq_true, List.all_eq_true, decide_eq_true_eq] at hok
    have h6 := rdn_lt hok.2
    have h7 : b ^ r.length ≤ 16 ^ r.length := Nat.pow_le_pow_left h3 _
    have h8 : 16 ^ r.length ≤ 16 ^ 60 := Nat.pow_le_pow_right (by decide) (by omega)
    omega
  · cases h
theorem tool_lt {n : Nat} (h : n < 16 ^ 240) : tooL n = false := by
  have h1 : 16 ^ 240 ≤ lim600 := by decide +kernel
  unfold tooL
  rw [decide_eq_false (by omega)]
/-- The text of a number. -/
def txb (z : Int) : ByteArray := ⟨(txt z).toArray⟩
theorem num_txb (z : Int) : numOf (txb z).data.toList = some z := numOf_txt z
theorem txb_len {z : Int} (h : tooL z.natAbs = false) : (txb z).size ≤ 1000 := by
  show (txt z).toArray.size ≤ 1000
  rw [List.size_toArray]
  have h1 : (digs 10 z.natAbs).length ≤ 601 := by
    refine digs_len ?_
    rw [tool_len] at h
    have := of_decide_eq_false h
    omega
  unfold txt
  split
  · rw [List.length_cons]; omega
  · omega
theorem ret_op {f : Int → Int → Int} {a b : List UInt8} {x y : Int} (ha : numOf a = some x) (hb : numOf b = some y) (h1 : tooL x.natAbs = false) (h2 : tooL y.natAbs = false) (h3 : tooL (f x y).natAbs = false) :
    retS (opS f a b) = .returned (.tuple #[.string (txb (f x y)), .int .i64 0]) := by
  unfold opS told
  rw [ha, hb]
  simp only [h1, h2, h3, Bool.or_self]
  rfl
theorem ret_one {f : Int → Int} {a : List UInt8} {x : Int} (ha : numOf a = some x) (h1 : tooL x.natAbs = false) (h3 : tooL (f x).natAbs = false) :
    retS (oneS f a) = .returned (.tuple #[.string (txb (f x)), .int .i64 0]) := by
  unfold oneS told
  rw [ha]
  simp only [h1, h3]
  rfl
theorem right_num {s : ByteArray} (h : rightB s = true) : ∃ z, numOf s.data.toList = some z ∧ z.natAbs < 16 ^ 60 ∧ s.size ≤ 60 := by
  unfold rightB at h
  rw [Bool.and_eq_true] at h
  have h60 := of_decide_eq_true h.2
  have h1 := h.1
  unfold validB at h1
  cases hn : numOf s.data.toList with
  | none => rw [hn] at h1; cases h1
  | some z => exact ⟨z, rfl, num_small hn (by rw [← Lib.size_eq]; exact h60), h60⟩
theorem abs_add (x y : Int) {n m : Nat} (h1 : x.natAbs < n) (h2 : y.natAbs < m) : (x + y).natAbs < n + m := by
  have := Int.natAbs_add_le x y
  omega
theorem abs_sub (x y : Int) {n m : Nat} (h1 : x.natAbs < n) (h2 : y.natAbs < m) : (x - y).natAbs < n + m := by omega
theorem abs_mul (x y : Int) {n m : Nat} (h1 : x.natAbs < n) (h2 : y.natAbs < m) : (x * y).natAbs < n * m := by
  rw [Int.natAbs_mul]
  exact Nat.mul_lt_mul'' h1 h2
end Go.Proofs.YtmnibfdenmeepaaDoor
