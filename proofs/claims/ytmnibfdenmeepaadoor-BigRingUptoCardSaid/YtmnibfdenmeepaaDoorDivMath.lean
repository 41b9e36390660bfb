/- Division rounded down, of numbers with a sign. -/
import Derived.Test.YtmnibfdenmeepaaDoorBy
namespace Go.Proofs.YtmnibfdenmeepaaDoor
open Go.RowKit Go.Shelf Big

def DivIs (x y q r : Int) : Prop := x = q * y + r ∧ (0 ≤ r ∧ r < y ∨ y < r ∧ r ≤ 0)
theorem div_plain (s t : Bool) (m k : Nat) (h0 : 0 < k) (h : (s != t) = false ∨ m % k = 0) : DivIs (sgI s m) (sgI t k) (sgI (s != t) (m / k)) (sgI t (m % k)) := by
  have e : (m : Int) = (k : Int) * ((m / k : Nat) : Int) + ((m % k : Nat) : Int) := by rw [← Int.natCast_mul, ← Int.natCast_add, Nat.div_add_mod]
  have hr := Nat.mod_lt m h0
  revert e hr h
  generalize m / k = Q
  generalize m % k = R
  intro h e hr
  have e2 : (Q : Int) * k = k * Q := Int.mul_comm _ _
  revert e e2
  generalize (k : Int) * (Q : Int) = P
  intro e e2
  unfold DivIs sgI
  cases s <;> cases t <;> simp at h ⊢ <;> (try rw [Int.neg_mul_neg]) <;> (try rw [Int.neg_mul]) <;> (try rw [Int.mul_neg]) <;> omega
theorem div_down (s t : Bool) (m k : Nat) (h0 : 0 < k) (h : (s != t) = true) (h1 : 0 < m % k) : DivIs (sgI s m) (sgI t k) (sgI (s != t) (m / k + 1)) (sgI t (k - m % k)) := by
  have e : (m : Int) = (k : Int) * ((m / k : Nat) : Int) + ((m % k : Nat) : Int) := by rw [← Int.natCast_mul, ← Int.natCast_add, Nat.div_add_mod]
  have hr := Nat.mod_lt m h0
  revert e hr h h1
  generalize m / k = Q
  generalize m % k = R
  intro h h1 e hr
  have e2 : ((Q + 1 : Nat) : Int) * k = k * Q + k := by rw [Int.natCast_add, Int.add_mul, Int.mul_comm]; simp
  unfold DivIs sgI
  revert e e2
  generalize (k : Int) * (Q : Int) = P
  generalize ((Q + 1 : Nat) : Int) = Q1
  intro e e2
  cases s <;> cases t <;> simp at h ⊢ <;> (try rw [Int.neg_mul_neg]) <;> (try rw [Int.neg_mul]) <;> (try rw [Int.mul_neg]) <;> omega
end Go.Proofs.YtmnibfdenmeepaaDoor
