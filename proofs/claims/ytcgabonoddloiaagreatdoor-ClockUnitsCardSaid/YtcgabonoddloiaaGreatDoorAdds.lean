/- Add of both. -/
import Derived.Test.YtcgabonoddloiaaGreatDoorRefUnits
namespace Go.Proofs.YtcgabonoddloiaaGreatDoor
open Go.RowKit Clk

/-- What Add tells, of a unit. -/
def AddTells (t n : Int) (u : Nat) (T E : Int) : Prop := (E = 0 ∧ addR t n u = some T) ∨ (E = 7 ∧ T = 0 ∧ addR t n u = none)
theorem AddTells.only {t n : Int} {u : Nat} {T E T' E' : Int} (h : AddTells t n u T E) (k : AddTells t n u T' E') : T = T' ∧ E = E' := by
  rcases h with ⟨rfl, h⟩ | ⟨rfl, rfl, h⟩ <;> rcases k with ⟨rfl, k⟩ | ⟨rfl, rfl, k⟩
  · rw [h] at k; cases k; exact ⟨rfl, rfl⟩
  · rw [h] at k; cases k
  · rw [h] at k; cases k
  · exact ⟨rfl, rfl⟩

set_option maxRecDepth 100000 in
set_option maxHeartbeats 800000 in
theorem Add_no (t n : Int) (s : ByteArray) (w : World) (ht : isT t = false) :
    Calls Tryz.prog 26 #[.int .i64 t, .int .i64 n, .string s] w fun e w' => e = .returned (.tuple #[.int .i64 0, .int .i64 7]) ∧ Below w.heap.size w w' := by
  go_enter Tryz.func26, Tryz.ntmps26
  go_wp2_with (first | (go_at_call 34; refine (isTime_any _ _).mono ?_; rintro e w' ⟨rfl, rfl⟩; rw [ht]))
  go_ret2
  exact ⟨rfl, Below.refl _ _⟩

set_option maxRecDepth 100000 in
set_option maxHeartbeats 800000 in
theorem Add_name (t n : Int) (s : ByteArray) (w : World) (ht : isT t = true) (h : UnitNo s) :
    Calls Tryz.prog 26 #[.int .i64 t, .int .i64 n, .string s] w fun e w' => e = .returned (.tuple #[.int .i64 0, .int .i64 5]) ∧ Below w.heap.size w w' := by
  go_enter Tryz.func26, Tryz.ntmps26
  go_wp2_with (first | (go_at_call 34; refine (isTime_any _ _).mono ?_; rintro e w' ⟨rfl, rfl⟩; rw [ht]) | (go_at_call 55; refine (unitOf_no _ _ h).mono ?_; rintro e w1 ⟨rfl, hb1⟩))
  go_ret2
  exact ⟨rfl, hb1⟩

set_option maxRecDepth 100000 in
set_option maxHeartbeats 800000 in
theorem Add_is (t n : Int) (s : ByteArray) (u : Nat) (ht : isT t = true) (h : UnitIs s u) :
    ∃ T E : Int, AddTells t n u T E ∧ ∀ w : World, Calls Tryz.prog 26 #[.int .i64 t, .int .i64 n, .string s] w fun e w' => e = .returned (.tuple #[.int .i64 T, .int .i64 E]) ∧ Below w.heap.size w w' := by
  obtain ⟨r, b, hs, hc⟩ := add_any t n u ht h.lt
  have HC := Lib.hid hc
  have HH := Lib.hid h
  have HT := Lib.hid ht
  clear hc h ht
  rcases hs with ⟨rfl, hr⟩ | ⟨rfl, hr⟩
  · refine ⟨r, 0, .inl ⟨rfl, hr⟩, fun w => ?_⟩
    clear hr
    go_enter Tryz.func26, Tryz.ntmps26
    go_wp2_with (first | (go_at_call 34; refine (isTime_any _ _).mono ?_; rintro e w' ⟨rfl, rfl⟩; rw [HT.out]))
    refine (unitOf_is _ _ _ HH.out).mono ?_
    rintro e w1 ⟨rfl, hb1⟩
    go_wp2_with fail
    refine (HC.out _).mono ?_
    rintro e w2 ⟨rfl, hb2⟩
    go_wp2
    go_ret2
    exact ⟨rfl, hb1.trans (hb2.mono hb1.size)⟩
  · refine ⟨0, 7, .inr ⟨rfl, rfl, hr⟩, fun w => ?_⟩
    clear hr
    go_enter Tryz.func26, Tryz.ntmps26
    go_wp2_with (first | (go_at_call 34; refine (isTime_any _ _).mono ?_; rintro e w' ⟨rfl, rfl⟩; rw [HT.out]))
    refine (unitOf_is _ _ _ HH.out).mono ?_
    rintro e w1 ⟨rfl, hb1⟩
    go_wp2_with fail
    refine (HC.out _).mono ?_
    rintro e w2 ⟨rfl, hb2⟩
    go_wp2
    go_ret2
    exact ⟨rfl, hb1.trans (hb2.mono hb1.size)⟩

set_option maxRecDepth 100000 in
set_option maxHeartbeats 800000 in
theorem refAdd_no (t n : Int) (s : ByteArray) (w : World) (ht : isT t = false) :
    Calls Tryz.prog 27 #[.int .i64 t, .int .i64 n, .string s] w fun e w' => e = .returned (.tuple #[.int .i64 0, .int .i64 7]) ∧ Below w.heap.size w w' := by
  go_enter Tryz.func27, Tryz.ntmps27
  go_wp2_with (first | (go_at_call 36; refine (refRight_any _ _).mono ?_; rintro e w' ⟨rfl, rfl⟩; rw [ht]))
  go_ret2
  exact ⟨rfl, Below.refl _ _⟩

set_option maxRecDepth 100000 in
set_option maxHeartbeats 800000 in
theorem refAdd_name (t n : Int) (s : ByteArray) (w : World) (ht : isT t = true) (h : UnitNo s) :
    Calls Tryz.prog 27 #[.int .i64 t, .int .i64 n, .string s] w fun e w' => e = .returned (.tuple #[.int .i64 0, .int .i64 5]) ∧ Below w.heap.size w w' := by
  go_enter Tryz.func27, Tryz.ntmps27
  go_wp2_with (first | (go_at_call 36; refine (refRight_any _ _).mono ?_; rintro e w' ⟨rfl, rfl⟩; rw [ht]) | (go_at_call 57; refine (refUnit_no _ _ h).mono ?_; rintro e w' ⟨rfl, rfl⟩))
  go_ret2
  exact ⟨rfl, Below.refl _ _⟩

theorem in_step (n : Int) : ((decide (-400000000000 ≤ n) && decide (n ≤ 400000000000)) = false ∧ (n > 315537897599 ∨ n < -315537897599)) ∨ ((decide (-400000000000 ≤ n) && decide (n ≤ 400000000000)) = true ∧ -400000000000 ≤ n ∧ n ≤ 400000000000) := by
  by_cases h1 : -400000000000 ≤ n <;> by_cases h2 : n ≤ 400000000000 <;> simp [h1, h2] <;> omega

theorem uSec_sec (u : Nat) (h : u < 5) : uSec u = uLen u := by
  have hu : u = 0 ∨ u = 1 ∨ u = 2 ∨ u = 3 ∨ u = 4 := by omega
  rcases hu with rfl | rfl | rfl | rfl | rfl <;> rfl

set_option maxRecDepth 100000 in
set_option maxHeartbeats 800000 in
theorem refAdd_far (t n : Int) (s : ByteArray) (u : Nat) (w : World) (ht : isT t = true) (h : UnitIs s u) (hn : (decide (-400000000000 ≤ n) && decide (n ≤ 400000000000)) = false) :
    Calls Tryz.prog 27 #[.int .i64 t, .int .i64 n, .string s] w fun e w' => e = .returned (.tuple #[.int .i64 0, .int .i64 7]) ∧ Below w.heap.size w w' := by
  have HN := Lib.hid hn
  clear hn
  go_enter Tryz.func27, Tryz.ntmps27
  go_wp2_with (first | (go_at_call 36; refine (refRight_any _ _).mono ?_; rintro e w' ⟨rfl, rfl⟩; rw [ht]) | (go_at_call 57; refine (refUnit_is _ _ _ h).mono ?_; rintro e w' ⟨rfl, rfl⟩) | (go_at_call 42; refine (in_any _ _ _ _).mono ?_; rintro e w' ⟨rfl, rfl⟩; rw [HN.out]))
  go_ret2
  exact ⟨rfl, Below.refl _ _⟩

set_option maxRecDepth 100000 in
set_option maxHeartbeats 1600000 in
theorem refAdd_sec (t n : Int) (s : ByteArray) (u : Nat) (ht : isT t = true) (h : UnitIs s u) (h5 : u < 5) (hn : (decide (-400000000000 ≤ n) && decide (n ≤ 400000000000)) = true) (hn1 : -400000000000 ≤ n) (hn2 : n ≤ 400000000000) :
    ∃ T E : Int, AddTells t n u T E ∧ ∀ w : World, Calls Tryz.prog 27 #[.int .i64 t, .int .i64 n, .string s] w fun e w' => e = .returned (.tuple #[.int .i64 T, .int .i64 E]) ∧ Below w.heap.size w w' := by
  obtain ⟨t1, t2⟩ := isT_iff.1 ht
  have hL := uLen_sec u h5
  have hU := fun w => refUnit_is s u w h
  have hR : addR t n u = if isT (t + n * uLen u) then some (t + n * uLen u) else none := by unfold addR; rw [if_pos h5]
  rw [uSec_sec u h5] at hU
  obtain ⟨L, hLL⟩ : ∃ L, uLen u = L := ⟨_, rfl⟩
  rw [hLL] at hL hU hR
  have hm : -300000000000000000 ≤ n * L ∧ n * L ≤ 300000000000000000 := by
    constructor
    · by_cases h0 : 0 ≤ n
      · have := Int.mul_nonneg h0 (show 0 ≤ L by omega); omega
      · have a := Int.mul_le_mul_of_nonneg_left hL.2 (show 0 ≤ -n by omega)
        simp only [Int.neg_mul] at a
        omega
    · by_cases h0 : 0 ≤ n
      · have := Int.mul_le_mul_of_nonneg_left hL.2 h0; omega
      · have a := Int.mul_nonneg (show 0 ≤ -n by omega) (show 0 ≤ L by omega)
        simp only [Int.neg_mul] at a
        omega
  obtain ⟨m, hmm⟩ : ∃ m, n * L = m := ⟨_, rfl⟩
  have e1 : IntKind.i64.wrap (n * L) = m := (IntWalk.i64_in _ (by omega)).trans hmm
  rw [hmm] at hm hR
  have HU := Lib.hid hU
  have HN := Lib.hid hn
  have HT := Lib.hid ht
  have hL0 : 0 < L := by omega
  obtain ⟨m1, m2⟩ := hm
  clear hU hn ht hL hLL hmm h
  cases hb : isT (t + m) with
  | true =>
    rw [hb] at hR
    refine ⟨t + m, 0, .inl ⟨rfl, hR⟩, fun w => ?_⟩
    have HB := Lib.hid hb
    clear hR hb
    go_enter Tryz.func27, Tryz.ntmps27
    go_wp2_with fail
    refine (refRight_any _ _).mono ?_
    rintro e w' ⟨rfl, rfl⟩
    rw [HT.out]
    go_wp2_with fail
    refine (HU.out _).mono ?_
    rintro e w' ⟨rfl, rfl⟩
    go_wp2_with fail
    refine (in_any _ _ _ _).mono ?_
    rintro e w' ⟨rfl, rfl⟩
    rw [HN.out]
    go_wp2_with fail
    refine (refRight_any _ _).mono ?_
    rintro e w' ⟨rfl, rfl⟩
    rw [HB.out]
    go_wp2
    go_ret2
    exact ⟨rfl, Below.refl _ _⟩
  | false =>
    rw [hb] at hR
    refine ⟨0, 7, .inr ⟨rfl, rfl, hR⟩, fun w => ?_⟩
    have HB := Lib.hid hb
    clear hR hb
    go_enter Tryz.func27, Tryz.ntmps27
    go_wp2_with fail
    refine (refRight_any _ _).mono ?_
    rintro e w' ⟨rfl, rfl⟩
    rw [HT.out]
    go_wp2_with fail
    refine (HU.out _).mono ?_
    rintro e w' ⟨rfl, rfl⟩
    go_wp2_with fail
    refine (in_any _ _ _ _).mono ?_
    rintro e w' ⟨rfl, rfl⟩
    rw [HN.out]
    go_wp2_with fail
    refine (refRight_any _ _).mono ?_
    rintro e w' ⟨rfl, rfl⟩
    rw [HB.out]
    go_wp2
    go_ret2
    exact ⟨rfl, Below.refl _ _⟩
end Go.Proofs.YtcgabonoddloiaaGreatDoor
