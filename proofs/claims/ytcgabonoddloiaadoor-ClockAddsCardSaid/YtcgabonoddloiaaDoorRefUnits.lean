/- unit, Add of the reference. -/
import Derived.Test.YtcgabonoddloiaaDoorAdd
namespace Go.Proofs.YtcgabonoddloiaaDoor
open Go.RowKit Clk

/-- The names' bytes. -/
def uL : Nat → List UInt8
  | 0 => [115, 101, 99, 111, 110, 100]
  | 1 => [109, 105, 110, 117, 116, 101]
  | 2 => [104, 111, 117, 114]
  | 3 => [100, 97, 121]
  | 4 => [119, 101, 101, 107]
  | 5 => [109, 111, 110, 116, 104]
  | _ => [121, 101, 97, 114]
theorem uName_list (k : Nat) (h : k < 7) : (uName k).toList = uL k := by
  have hu : k = 0 ∨ k = 1 ∨ k = 2 ∨ k = 3 ∨ k = 4 ∨ k = 5 ∨ k = 6 := by omega
  rcases hu with rfl | rfl | rfl | rfl | rfl | rfl | rfl
  all_goals (simp [uName, uNames, uL]; try rfl)
/-- What the tests of the reference tell of a name. -/
structure Eqs (s : ByteArray) (b : Nat → Bool) : Prop where
  e0 : (s.toList == [115, 101, 99, 111, 110, 100]) = b 0
  e1 : (s.toList == [109, 105, 110, 117, 116, 101]) = b 1
  e2 : (s.toList == [104, 111, 117, 114]) = b 2
  e3 : (s.toList == [100, 97, 121]) = b 3
  e4 : (s.toList == [119, 101, 101, 107]) = b 4
  e5 : (s.toList == [109, 111, 110, 116, 104]) = b 5
  e6 : (s.toList == [121, 101, 97, 114]) = b 6
theorem UnitNo.eqs {s : ByteArray} (h : UnitNo s) : Eqs s fun _ => false := by
  have hk : ∀ k, k < 7 → (s.toList == uL k) = false := fun k hk => by
    have h1 := h.no k hk
    rw [uName_list k hk] at h1
    rw [Bool.beq_comm]
    exact h1
  exact ⟨hk 0 (by decide), hk 1 (by decide), hk 2 (by decide), hk 3 (by decide), hk 4 (by decide), hk 5 (by decide), hk 6 (by decide)⟩
theorem UnitIs.eqs {s : ByteArray} {u : Nat} (h : UnitIs s u) : Eqs s fun k => decide (k = u) := by
  have h1 := h.is
  have hu := h.lt
  rw [uName_list u hu] at h1
  have e : s.toList = uL u := (by simpa using h1 : uL u = s.toList).symm
  have hu' : u = 0 ∨ u = 1 ∨ u = 2 ∨ u = 3 ∨ u = 4 ∨ u = 5 ∨ u = 6 := by omega
  clear h h1 hu
  rcases hu' with rfl | rfl | rfl | rfl | rfl | rfl | rfl
  all_goals exact ⟨by rw [e]; decide, by rw [e]; decide, by rw [e]; decide, by rw [e]; decide, by rw [e]; decide, by rw [e]; decide, by rw [e]; decide⟩

/-- The seconds of a unit, 0 for month and year. -/
def uSec : Nat → Int
  | 0 => 1
  | 1 => 60
  | 2 => 3600
  | 3 => 86400
  | 4 => 604800
  | 5 => 0
  | _ => 0

end Go.Proofs.YtcgabonoddloiaaDoor
