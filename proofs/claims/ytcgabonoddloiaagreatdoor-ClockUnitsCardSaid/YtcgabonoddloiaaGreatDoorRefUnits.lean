/- unit, Add of the reference. -/
import Derived.Test.YtcgabonoddloiaaGreatDoorAdd
namespace Go.Proofs.YtcgabonoddloiaaGreatDoor
open Go.RowKit Clk

/-- The names' bytes. -/
def uL : Nat → List UInt8
  | 0 => [115, 101, 99, 111, 110, 100]
  | 1 => [109, 105, 110, 117, 116, 101]
  | 2 => [104, 111, 117, 114]
  | 3 => [100, 97, 121]
  | 4 => [119, 101, 101, 107]
  | 5 => [109, 111, 110, 116, 104]
  | _ => [121, 101, 97, 114]
theorem uName_list (k : Nat) (h : k < 7) : (uName k).toList = uL k := by
  have hu : k = 0 ∨ k = 1 ∨ k = 2 ∨ k = 3 ∨ k = 4 ∨ k = 5 ∨ k = 6 := by omega
  rcases hu with rfl | rfl | rfl | rfl | rfl | rfl | rfl
  all_goals (simp [uName, uNames, uL]; try rfl)
/-- What the tests of the reference tell of a name. -/
structure Eqs (s : ByteArray) (b : Nat → Bool) : Prop where
  e0 : (s.toList == [115, 101, 99, 111, 110, 100]) = b 0
  e1 : (s.toList == [109, 105, 110, 117, 116, 101]) = b 1
  e2 : (s.toList == [104, 111, 117, 114]) = b 2
  e3 : (s.toList == [100, 97, 121]) = b 3
  e4 : (s.toList == [119, 101, 101, 107]) = b 4
  e5 : (s.toList == [109, 111, 110, 116, 104]) = b 5
  e6 : (s.toList == [121, 101, 97, 114]) = b 6
theorem UnitNo.eqs {s : ByteArray} (h : UnitNo s) : Eqs s fun _ => false := by
  have hk : ∀ k, k < 7 → (s.toList == uL k) = false := fun k hk => by
    have h1 := h.no k hk
    rw [uName_list k hk] at h1
    rw [Bool.beq_comm]
    exact h1
  exact ⟨hk 0 (by decide), hk 1 (by decide), hk 2 (by decide), hk 3 (by decide), hk 4 (by decide), hk 5 (by decide), hk 6 (by decide)⟩
theorem UnitIs.eqs {s : ByteArray} {u : Nat} (h : UnitIs s u) : Eqs s fun k => decide (k = u) := by
  have h1 := h.is
  have hu := h.lt
  rw [uName_list u hu] at h1
  have e : s.toList = uL u := (by simpa using h1 : uL u = s.toList).symm
  have hu' : u = 0 ∨ u = 1 ∨ u = 2 ∨ u = 3 ∨ u = 4 ∨ u = 5 ∨ u = 6 := by omega
  clear h h1 hu
  rcases hu' with rfl | rfl | rfl | rfl | rfl | rfl | rfl
  all_goals exact ⟨by rw [e]; decide, by rw [e]; decide, by rw [e]; decide, by rw [e]; decide, by rw [e]; decide, by rw [e]; decide, by rw [e]; decide⟩

/-- The seconds of a unit, 0 for month and year. -/
def uSec : Nat → Int
  | 0 => 1
  | 1 => 60
  | 2 => 3600
  | 3 => 86400
  | 4 => 604800
  | 5 => 0
  | _ => 0

set_option maxRecDepth 100000 in
set_option maxHeartbeats 800000 in
theorem refUnit_no (s : ByteArray) (w : World) (h : UnitNo s) :
    Calls Tryz.prog 57 #[.string s] w fun e w' => e = .returned (.tuple #[.int .i64 0, .bool false]) ∧ w = w' := by
  have e0 : (s.toList == [115, 101, 99, 111, 110, 100]) = false := h.eqs.e0
  have e1 : (s.toList == [109, 105, 110, 117, 116, 101]) = false := h.eqs.e1
  have e2 : (s.toList == [104, 111, 117, 114]) = false := h.eqs.e2
  have e3 : (s.toList == [100, 97, 121]) = false := h.eqs.e3
  have e4 : (s.toList == [119, 101, 101, 107]) = false := h.eqs.e4
  have e5 : (s.toList == [109, 111, 110, 116, 104]) = false := h.eqs.e5
  have e6 : (s.toList == [121, 101, 97, 114]) = false := h.eqs.e6
  go_enter Tryz.func57, Tryz.ntmps57
  go_wp2
  go_ret2
  exact ⟨rfl, rfl⟩

set_option maxRecDepth 100000 in
set_option maxHeartbeats 800000 in
theorem refUnit_is (s : ByteArray) (u : Nat) (w : World) (h : UnitIs s u) :
    Calls Tryz.prog 57 #[.string s] w fun e w' => e = .returned (.tuple #[.int .i64 (uSec u), .bool true]) ∧ w = w' := by
  have E := h.eqs
  have hu := h.lt
  have hu' : u = 0 ∨ u = 1 ∨ u = 2 ∨ u = 3 ∨ u = 4 ∨ u = 5 ∨ u = 6 := by omega
  clear h hu
  rcases hu' with rfl | rfl | rfl | rfl | rfl | rfl | rfl
  · have e0 : (s.toList == [115, 101, 99, 111, 110, 100]) = true := E.e0
    have e1 : (s.toList == [109, 105, 110, 117, 116, 101]) = false := E.e1
    have e2 : (s.toList == [104, 111, 117, 114]) = false := E.e2
    have e3 : (s.toList == [100, 97, 121]) = false := E.e3
    have e4 : (s.toList == [119, 101, 101, 107]) = false := E.e4
    have e5 : (s.toList == [109, 111, 110, 116, 104]) = false := E.e5
    have e6 : (s.toList == [121, 101, 97, 114]) = false := E.e6
    clear E
    go_enter Tryz.func57, Tryz.ntmps57
    go_wp2
    go_ret2
    exact ⟨rfl, rfl⟩
  · have e0 : (s.toList == [115, 101, 99, 111, 110, 100]) = false := E.e0
    have e1 : (s.toList == [109, 105, 110, 117, 116, 101]) = true := E.e1
    have e2 : (s.toList == [104, 111, 117, 114]) = false := E.e2
    have e3 : (s.toList == [100, 97, 121]) = false := E.e3
    have e4 : (s.toList == [119, 101, 101, 107]) = false := E.e4
    have e5 : (s.toList == [109, 111, 110, 116, 104]) = false := E.e5
    have e6 : (s.toList == [121, 101, 97, 114]) = false := E.e6
    clear E
    go_enter Tryz.func57, Tryz.ntmps57
    go_wp2
    go_ret2
    exact ⟨rfl, rfl⟩
  · have e0 : (s.toList == [115, 101, 99, 111, 110, 100]) = false := E.e0
    have e1 : (s.toList == [109, 105, 110, 117, 116, 101]) = false := E.e1
    have e2 : (s.toList == [104, 111, 117, 114]) = true := E.e2
    have e3 : (s.toList == [100, 97, 121]) = false := E.e3
    have e4 : (s.toList == [119, 101, 101, 107]) = false := E.e4
    have e5 : (s.toList == [109, 111, 110, 116, 104]) = false := E.e5
    have e6 : (s.toList == [121, 101, 97, 114]) = false := E.e6
    clear E
    go_enter Tryz.func57, Tryz.ntmps57
    go_wp2
    go_ret2
    exact ⟨rfl, rfl⟩
  · have e0 : (s.toList == [115, 101, 99, 111, 110, 100]) = false := E.e0
    have e1 : (s.toList == [109, 105, 110, 117, 116, 101]) = false := E.e1
    have e2 : (s.toList == [104, 111, 117, 114]) = false := E.e2
    have e3 : (s.toList == [100, 97, 121]) = true := E.e3
    have e4 : (s.toList == [119, 101, 101, 107]) = false := E.e4
    have e5 : (s.toList == [109, 111, 110, 116, 104]) = false := E.e5
    have e6 : (s.toList == [121, 101, 97, 114]) = false := E.e6
    clear E
    go_enter Tryz.func57, Tryz.ntmps57
    go_wp2
    go_ret2
    exact ⟨rfl, rfl⟩
  · have e0 : (s.toList == [115, 101, 99, 111, 110, 100]) = false := E.e0
    have e1 : (s.toList == [109, 105, 110, 117, 116, 101]) = false := E.e1
    have e2 : (s.toList == [104, 111, 117, 114]) = false := E.e2
    have e3 : (s.toList == [100, 97, 121]) = false := E.e3
    have e4 : (s.toList == [119, 101, 101, 107]) = true := E.e4
    have e5 : (s.toList == [109, 111, 110, 116, 104]) = false := E.e5
    have e6 : (s.toList == [121, 101, 97, 114]) = false := E.e6
    clear E
    go_enter Tryz.func57, Tryz.ntmps57
    go_wp2
    go_ret2
    exact ⟨rfl, rfl⟩
  · have e0 : (s.toList == [115, 101, 99, 111, 110, 100]) = false := E.e0
    have e1 : (s.toList == [109, 105, 110, 117, 116, 101]) = false := E.e1
    have e2 : (s.toList == [104, 111, 117, 114]) = false := E.e2
    have e3 : (s.toList == [100, 97, 121]) = false := E.e3
    have e4 : (s.toList == [119, 101, 101, 107]) = false := E.e4
    have e5 : (s.toList == [109, 111, 110, 116, 104]) = true := E.e5
    have e6 : (s.toList == [121, 101, 97, 114]) = false := E.e6
    clear E
    go_enter Tryz.func57, Tryz.ntmps57
    go_wp2
    go_ret2
    exact ⟨rfl, rfl⟩
  · have e0 : (s.toList == [115, 101, 99, 111, 110, 100]) = false := E.e0
    have e1 : (s.toList == [109, 105, 110, 117, 116, 101]) = false := E.e1
    have e2 : (s.toList == [104, 111, 117, 114]) = false := E.e2
    have e3 : (s.toList == [100, 97, 121]) = false := E.e3
    have e4 : (s.toList == [119, 101, 101, 107]) = false := E.e4
    have e5 : (s.toList == [109, 111, 110, 116, 104]) = false := E.e5
    have e6 : (s.toList == [121, 101, 97, 114]) = true := E.e6
    clear E
    go_enter Tryz.func57, Tryz.ntmps57
    go_wp2
    go_ret2
    exact ⟨rfl, rfl⟩
end Go.Proofs.YtcgabonoddloiaaGreatDoor
