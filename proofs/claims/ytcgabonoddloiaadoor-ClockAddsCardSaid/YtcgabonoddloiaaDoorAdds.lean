/- Add of both. -/
import Derived.Test.YtcgabonoddloiaaDoorRefUnits
namespace Go.Proofs.YtcgabonoddloiaaDoor
open Go.RowKit Clk

/-- What Add tells, of a unit. -/
def AddTells (t n : Int) (u : Nat) (T E : Int) : Prop := (E = 0 ∧ addR t n u = some T) ∨ (E = 7 ∧ T = 0 ∧ addR t n u = none)
theorem AddTells.only {t n : Int} {u : Nat} {T E T' E' : Int} (h : AddTells t n u T E) (k : AddTells t n u T' E') : T = T' ∧ E = E' := by
  rcases h with ⟨rfl, h⟩ | ⟨rfl, rfl, h⟩ <;> rcases k with ⟨rfl, k⟩ | ⟨rfl, rfl, k⟩
  · rw [h] at k; cases k; exact ⟨rfl, rfl⟩
  · rw [h] at k; cases k
  · rw [h] at k; cases k
  · exact ⟨rfl, rfl⟩

set_option maxRecDepth 100000 in
set_option maxHeartbeats 800000 in
theorem Add_no (t n : Int) (s : ByteArray) (w : World) (ht : isT t = false) :
    Calls Tryd.prog 7 #[.int .i64 t, .int .i64 n, .string s] w fun e w' => e = .returned (.tuple #[.int .i64 0, .int .i64 7]) ∧ Below w.heap.size w w' := by
  go_enter Tryd.func7, Tryd.ntmps7
  go_wp2_with (first | (go_at_call 13; refine (isTime_any _ _).mono ?_; rintro e w' ⟨rfl, rfl⟩; rw [ht]))
  go_ret2
  exact ⟨rfl, Below.refl _ _⟩

set_option maxRecDepth 100000 in
set_option maxHeartbeats 800000 in
theorem Add_name (t n : Int) (s : ByteArray) (w : World) (ht : isT t = true) (h : UnitNo s) :
    Calls Tryd.prog 7 #[.int .i64 t, .int .i64 n, .string s] w fun e w' => e = .returned (.tuple #[.int .i64 0, .int .i64 5]) ∧ Below w.heap.size w w' := by
  go_enter Tryd.func7, Tryd.ntmps7
  go_wp2_with (first | (go_at_call 13; refine (isTime_any _ _).mono ?_; rintro e w' ⟨rfl, rfl⟩; rw [ht]) | (go_at_call 15; refine (unitOf_no _ _ h).mono ?_; rintro e w1 ⟨rfl, hb1⟩))
  go_ret2
  exact ⟨rfl, hb1⟩

set_option maxRecDepth 100000 in
set_option maxHeartbeats 800000 in
theorem Add_is (t n : Int) (s : ByteArray) (u : Nat) (ht : isT t = true) (h : UnitIs s u) :
    ∃ T E : Int, AddTells t n u T E ∧ ∀ w : World, Calls Tryd.prog 7 #[.int .i64 t, .int .i64 n, .string s] w fun e w' => e = .returned (.tuple #[.int .i64 T, .int .i64 E]) ∧ Below w.heap.size w w' := by
  obtain ⟨r, b, hs, hc⟩ := add_any t n u ht h.lt
  have HC := Lib.hid hc
  have HH := Lib.hid h
  have HT := Lib.hid ht
  clear hc h ht
  rcases hs with ⟨rfl, hr⟩ | ⟨rfl, hr⟩
  · refine ⟨r, 0, .inl ⟨rfl, hr⟩, fun w => ?_⟩
    clear hr
    go_enter Tryd.func7, Tryd.ntmps7
    go_wp2_with (first | (go_at_call 13; refine (isTime_any _ _).mono ?_; rintro e w' ⟨rfl, rfl⟩; rw [HT.out]))
    refine (unitOf_is _ _ _ HH.out).mono ?_
    rintro e w1 ⟨rfl, hb1⟩
    go_wp2_with fail
    refine (HC.out _).mono ?_
    rintro e w2 ⟨rfl, hb2⟩
    go_wp2
    go_ret2
    exact ⟨rfl, hb1.trans (hb2.mono hb1.size)⟩
  · refine ⟨0, 7, .inr ⟨rfl, rfl, hr⟩, fun w => ?_⟩
    clear hr
    go_enter Tryd.func7, Tryd.ntmps7
    go_wp2_with (first | (go_at_call 13; refine (isTime_any _ _).mono ?_; rintro e w' ⟨rfl, rfl⟩; rw [HT.out]))
    refine (unitOf_is _ _ _ HH.out).mono ?_
    rintro e w1 ⟨rfl, hb1⟩
    go_wp2_with fail
    refine (HC.out _).mono ?_
    rintro e w2 ⟨rfl, hb2⟩
    go_wp2
    go_ret2
    exact ⟨rfl, hb1.trans (hb2.mono hb1.size)⟩

theorem in_step (n : Int) : ((decide (-400000000000 ≤ n) && decide (n ≤ 400000000000)) = false ∧ (n > 315537897599 ∨ n < -315537897599)) ∨ ((decide (-400000000000 ≤ n) && decide (n ≤ 400000000000)) = true ∧ -400000000000 ≤ n ∧ n ≤ 400000000000) := by
  by_cases h1 : -400000000000 ≤ n <;> by_cases h2 : n ≤ 400000000000 <;> simp [h1, h2] <;> omega

theorem uSec_sec (u : Nat) (h : u < 5) : uSec u = uLen u := by
  have hu : u = 0 ∨ u = 1 ∨ u = 2 ∨ u = 3 ∨ u = 4 := by omega
  rcases hu with rfl | rfl | rfl | rfl | rfl <;> rfl

end Go.Proofs.YtcgabonoddloiaaDoor
