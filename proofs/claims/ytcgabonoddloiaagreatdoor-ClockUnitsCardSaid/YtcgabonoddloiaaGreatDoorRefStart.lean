/- Start of the reference. -/
import Derived.Test.YtcgabonoddloiaaGreatDoorStart
import Derived.Test.YtcgabonoddloiaaGreatDoorRefUnits
namespace Go.Proofs.YtcgabonoddloiaaGreatDoor
open Go.RowKit Clk

set_option maxRecDepth 100000 in
set_option maxHeartbeats 800000 in
theorem refStart_no (t : Int) (s : ByteArray) (w : World) (ht : isT t = false) :
    Calls Tryz.prog 31 #[.int .i64 t, .string s] w fun e w' => e = .returned (.tuple #[.int .i64 0, .int .i64 7]) ∧ Below w.heap.size w w' := by
  go_enter Tryz.func31, Tryz.ntmps31
  go_wp2_with (first | (go_at_call 36; refine (refRight_any _ _).mono ?_; rintro e w' ⟨rfl, rfl⟩; rw [ht]))
  go_ret2
  exact ⟨rfl, Below.refl _ _⟩

set_option maxRecDepth 100000 in
set_option maxHeartbeats 800000 in
theorem refStart_name (t : Int) (s : ByteArray) (w : World) (ht : isT t = true) (h : UnitNo s) :
    Calls Tryz.prog 31 #[.int .i64 t, .string s] w fun e w' => e = .returned (.tuple #[.int .i64 0, .int .i64 5]) ∧ Below w.heap.size w w' := by
  go_enter Tryz.func31, Tryz.ntmps31
  go_wp2_with (first | (go_at_call 36; refine (refRight_any _ _).mono ?_; rintro e w' ⟨rfl, rfl⟩; rw [ht]) | (go_at_call 57; refine (refUnit_no _ _ h).mono ?_; rintro e w' ⟨rfl, rfl⟩))
  go_ret2
  exact ⟨rfl, Below.refl _ _⟩

set_option maxRecDepth 100000 in
set_option maxHeartbeats 3200000 in
theorem refStart_is (t : Int) (s : ByteArray) (u : Nat) (w : World) (ht : isT t = true) (h : UnitIs s u) :
    Calls Tryz.prog 31 #[.int .i64 t, .string s] w fun e w' => e = .returned (.tuple #[.int .i64 (startOf t u), .int .i64 0]) ∧ Below w.heap.size w w' := by
  obtain ⟨t1, t2⟩ := isT_iff.1 ht
  obtain ⟨⟨c1, c2, c3, c4, c5⟩, c6⟩ := isT_day ht
  have E := h.eqs
  have hu := h.lt
  have hU := fun w => refUnit_is s u w h
  have HT := Lib.hid ht
  obtain ⟨Y, M, D, hh, ii, ss, A⟩ := atIs t
  rw [A.y] at c1 c6
  rw [A.m] at c2 c3
  by_cases h5 : u < 5
  · have e5 : (s.toList == [109, 111, 110, 116, 104]) = false := by have := E.e5; rwa [show decide ((5 : Nat) = u) = false from decide_eq_false (by omega)] at this
    have e6 : (s.toList == [121, 101, 97, 114]) = false := by have := E.e6; rwa [show decide ((6 : Nat) = u) = false from decide_eq_false (by omega)] at this
    have HV : Hid (startOf t u = t - (t + 62135596800) % uLen u) := Lib.hid (by unfold startOf; rw [if_pos h5])
    rw [uSec_sec u h5] at hU
    have hL := uLen_sec u h5
    obtain ⟨L, hLL⟩ : ∃ L, uLen u = L := ⟨_, rfl⟩
    rw [hLL] at hU hL HV
    have HU := Lib.hid hU
    have HA := Lib.hid A
    obtain ⟨l1, l2⟩ := hL
    have l0 : 0 < L := by omega
    have hm1 := Int.emod_nonneg (t + 62135596800) (show L ≠ 0 by omega)
    have hm2 := Int.emod_lt_of_pos (t + 62135596800) l0
    clear hU A E h hu hLL ht c4 c5 h5
    go_enter Tryz.func31, Tryz.ntmps31
    go_wp2_with fail
    refine (refRight_any _ _).mono ?_
    rintro e w' ⟨rfl, rfl⟩
    rw [HT.out]
    go_wp2_with fail
    refine (HU.out _).mono ?_
    rintro e w' ⟨rfl, rfl⟩
    go_wp2_with fail
    refine (refDate_any t Y M D hh ii ss _ HA.out (by omega) (by omega)).mono ?_
    rintro e w1 ⟨rfl, hb1⟩
    go_wp2
    go_ret2
    exact ⟨by rw [HV.out]; rfl, hb1.alloc hb1.size _⟩
  · have hb := dTo_bd Y 1 1 (by omega) (by omega) (by omega) (by omega) (by omega) (by omega)
    have hb' := dTo_bd Y M 1 (by omega) (by omega) c2 c3 (by omega) (by omega)
    have hn1 := dTo_num Y 1 1 (by omega) (by omega)
    have hnM := dTo_num Y M 1 c2 c3
    have hN1 := Lib.hid (fun w => number_any Y 1 1 w (by omega) (by omega) (by omega) (by omega) (by omega) (by omega))
    have hNM := Lib.hid (fun w => number_any Y M 1 w (by omega) (by omega) c2 c3 (by omega) (by omega))
    have h56 : u = 5 ∨ u = 6 := by omega
    rcases h56 with rfl | rfl
    · have e5 : (s.toList == [109, 111, 110, 116, 104]) = true := E.e5
      have e6 : (s.toList == [121, 101, 97, 114]) = false := E.e6
      have HV : Hid (startOf t 5 = -62135596800 + num Y M 1 * 86400) := Lib.hid (by
        show dTo (cYear (t / 86400)) (cMonth (t / 86400)) 1 * 86400 = _
        rw [A.y, A.m]; omega)
      obtain ⟨N, hN⟩ : ∃ N, num Y M 1 = N := ⟨_, rfl⟩
      rw [hN] at hNM HV hnM
      have HU := Lib.hid hU
      have HA := Lib.hid A
      have n1 : -110000000 ≤ N := by omega
      have n2 : N ≤ 110000000 := by omega
      clear hU A E h hu ht hN c4 c5 h5 hb hb' hn1 hnM
      go_enter Tryz.func31, Tryz.ntmps31
      go_wp2_with fail
      refine (refRight_any _ _).mono ?_
      rintro e w' ⟨rfl, rfl⟩
      rw [HT.out]
      go_wp2_with fail
      refine (HU.out _).mono ?_
      rintro e w' ⟨rfl, rfl⟩
      go_wp2_with fail
      refine (refDate_any t Y M D hh ii ss _ HA.out (by omega) (by omega)).mono ?_
      rintro e w1 ⟨rfl, hb1⟩
      go_wp2_with (go_at_call 39; refine (hNM.out _).mono ?_; rintro e w' ⟨rfl, rfl⟩)
      go_ret2
      exact ⟨by rw [HV.out]; rfl, hb1.alloc hb1.size _⟩
    · have e5 : (s.toList == [109, 111, 110, 116, 104]) = false := E.e5
      have e6 : (s.toList == [121, 101, 97, 114]) = true := E.e6
      have HV : Hid (startOf t 6 = -62135596800 + num Y 1 1 * 86400) := Lib.hid (by
        show dTo (cYear (t / 86400)) 1 1 * 86400 = _
        rw [A.y]; omega)
      obtain ⟨N, hN⟩ : ∃ N, num Y 1 1 = N := ⟨_, rfl⟩
      rw [hN] at hN1 HV hn1
      have HU := Lib.hid hU
      have HA := Lib.hid A
      have n1 : -110000000 ≤ N := by omega
      have n2 : N ≤ 110000000 := by omega
      clear hU A E h hu ht hN c4 c5 h5 hb hb' hn1 hnM
      go_enter Tryz.func31, Tryz.ntmps31
      go_wp2_with fail
      refine (refRight_any _ _).mono ?_
      rintro e w' ⟨rfl, rfl⟩
      rw [HT.out]
      go_wp2_with fail
      refine (HU.out _).mono ?_
      rintro e w' ⟨rfl, rfl⟩
      go_wp2_with fail
      refine (refDate_any t Y M D hh ii ss _ HA.out (by omega) (by omega)).mono ?_
      rintro e w1 ⟨rfl, hb1⟩
      go_wp2_with (go_at_call 39; refine (hN1.out _).mono ?_; rintro e w' ⟨rfl, rfl⟩)
      go_ret2
      exact ⟨by rw [HV.out]; rfl, hb1.alloc hb1.size _⟩
end Go.Proofs.YtcgabonoddloiaaGreatDoor
