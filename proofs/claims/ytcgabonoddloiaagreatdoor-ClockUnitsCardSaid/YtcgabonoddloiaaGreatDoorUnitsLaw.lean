/- ClockUnits answers true, for every time, number and unit. -/
import Derived.Test.YtcgabonoddloiaaGreatDoorBetwB
import Derived.Test.YtcgabonoddloiaaGreatDoorAwake
namespace Go.Proofs.YtcgabonoddloiaaGreatDoor
open Go.RowKit Clk

theorem start_day (t d Y M : Int) (ht : isT t = true) (h : IsDay Y M d) (hn : num Y M d ≤ t / 86400 + 719162) : isT (dTo Y M d * 86400) = true ∧ cYear (dTo Y M d * 86400 / 86400) = Y ∧ cMonth (dTo Y M d * 86400 / 86400) = M ∧ dTo Y M d * 86400 ≤ t := by
  have hb := isT_iff.1 ht
  have hd := dTo_num Y M d h.2.1 h.2.2.1
  have e : dTo Y M d * 86400 / 86400 = dTo Y M d := by omega
  have h1 := num_lo h
  have h2 := dby_mono 1 Y h.1
  have h3 := dby_1
  obtain ⟨a, b, _⟩ := civ_eq (dTo Y M d) Y M d h (by omega)
  rw [e]
  exact ⟨isT_iff.2 (by omega), a, b, by omega⟩

/-- What the beginning of a unit is. -/
theorem start_facts (t : Int) (u : Nat) (ht : isT t = true) (hu : u < 7) : startOf t u ≤ t ∧ isT (startOf t u) = true ∧ startOf (startOf t u) u = startOf t u ∧ btwR (startOf t u) t u = 0 := by
  have hb := isT_iff.1 ht
  by_cases h5 : u < 5
  · have e : startOf t u = t - (t + 62135596800) % uLen u := by unfold startOf; rw [if_pos h5]
    have hL := uLen_sec u h5
    have h1 := Int.emod_nonneg (t + 62135596800) (show uLen u ≠ 0 by omega)
    have h2 := Int.emod_lt_of_pos (t + 62135596800) (show 0 < uLen u by omega)
    have h3 : (t + 62135596800) % uLen u ≤ t + 62135596800 := by
      have e1 := Int.emod_add_mul_ediv (t + 62135596800) (uLen u)
      have e2 := Int.mul_nonneg (show 0 ≤ uLen u by omega) (Int.ediv_nonneg (show 0 ≤ t + 62135596800 by omega) (show 0 ≤ uLen u by omega))
      omega
    have h4 : (t - (t + 62135596800) % uLen u + 62135596800) % uLen u = 0 := by
      rw [show t - (t + 62135596800) % uLen u + 62135596800 = (t + 62135596800) - (t + 62135596800) % uLen u by omega]
      exact Int.emod_eq_zero_of_dvd (Int.dvd_self_sub_emod)
    rw [e]
    refine ⟨by omega, isT_iff.2 (by omega), ?_, ?_⟩
    · unfold startOf
      rw [if_pos h5, h4]
      omega
    · unfold btwR btw
      rw [if_neg (by omega), if_pos h5, show t - (t - (t + 62135596800) % uLen u) = (t + 62135596800) % uLen u by omega]
      exact Int.ediv_eq_zero_of_lt h1 h2
  · obtain ⟨c, c6⟩ := isT_day ht
    have f := (civ (t / 86400) (by omega)).2
    obtain ⟨c1, c2, c3, c4, c5⟩ := c
    have hdm := dim_bd (cYear (t / 86400)) (cMonth (t / 86400))
    have h56 : u = 5 ∨ u = 6 := by omega
    rcases h56 with rfl | rfl
    · have e : startOf t 5 = dTo (cYear (t / 86400)) (cMonth (t / 86400)) 1 * 86400 := rfl
      have hday : IsDay (cYear (t / 86400)) (cMonth (t / 86400)) 1 := ⟨c1, c2, c3, by omega, by omega⟩
      obtain ⟨a1, a2, a3, a4⟩ := start_day t 1 _ _ ht hday (by unfold num at f ⊢; omega)
      rw [e]
      refine ⟨a4, a1, ?_, ?_⟩
      · show dTo (cYear _) (cMonth _) 1 * 86400 = _
        rw [a2, a3]
      · have hm : mDiff (dTo (cYear (t / 86400)) (cMonth (t / 86400)) 1 * 86400) t = 0 := by unfold mDiff; rw [a2, a3]; omega
        unfold btwR btw
        rw [if_neg (by omega), if_neg h5, hm]
        rfl
    · have e : startOf t 6 = dTo (cYear (t / 86400)) 1 1 * 86400 := rfl
      have hd1 := dim_bd (cYear (t / 86400)) 1
      have hday : IsDay (cYear (t / 86400)) 1 1 := ⟨c1, by omega, by omega, by omega, by omega⟩
      obtain ⟨a1, a2, a3, a4⟩ := start_day t 1 _ _ ht hday (by
        have := cum_bd (cYear (t / 86400)) (cMonth (t / 86400))
        have h1 := cum_1 (cYear (t / 86400))
        unfold num at f ⊢
        omega)
      rw [e]
      refine ⟨a4, a1, ?_, ?_⟩
      · show dTo (cYear _) 1 1 * 86400 = _
        rw [a2]
      · have hm : mDiff (dTo (cYear (t / 86400)) 1 1 * 86400) t = cMonth (t / 86400) - 1 := by unfold mDiff; rw [a2, a3]; omega
        have hz : ((cMonth (t / 86400) - 1) / uLen 6).toNat = 0 := by
          show ((cMonth (t / 86400) - 1) / 12).toNat = 0
          omega
        unfold btwR btw
        rw [if_neg (by omega), if_neg h5, hm, hz]
        rfl

set_option maxRecDepth 100000 in
set_option maxHeartbeats 8000000 in
theorem unitsLaw_any (t b n : Int) (s : ByteArray) (w : World) (hP : Pow w.heap.size w) :
    Calls Tryz.prog 5 #[.int .i64 t, .int .i64 b, .int .i64 n, .string s] w fun e w' => e = .returned (.bool true) ∧ Below w.heap.size w w' := by
  have HP := Lib.hid hP
  by_cases hlen : 40 < s.size
  · clear hP
    go_enter Tryz.func5, Tryz.ntmps5
    go_wp2_with fail
    refine (awake_any _ HP.out).mono ?_
    rintro e w2 ⟨rfl, hb2⟩
    go_wp2
    go_ret
    exact ⟨rfl, hb2⟩
  · obtain ⟨A1, E1, a1, a2, -⟩ := add_both t n s
    obtain ⟨A2, E2, b1, b2⟩ := between_both t b s
    obtain ⟨A3, E3, s1, s2, hs⟩ := start_both t s
    have H1 := Lib.hid a1
    have H2 := Lib.hid a2
    have H3 := Lib.hid b1
    have H4 := Lib.hid b2
    have H5 := Lib.hid s1
    have H6 := Lib.hid s2
    have HS := Lib.hid hs
    clear a1 a2 b1 b2 s1 s2 hs hP
    go_enter Tryz.func5, Tryz.ntmps5
    go_wp2_with fail
    refine (H1.out _).mono ?_
    rintro e w1 ⟨rfl, hb1⟩
    go_wp2_with fail
    refine (H2.out _).mono ?_
    rintro e w2 ⟨rfl, hb2⟩
    have B2 := Lib.hid (hb1.trans (hb2.mono hb1.size))
    clear hb1 hb2
    go_wp2_with fail
    refine (H3.out _).mono ?_
    rintro e w3 ⟨rfl, hb3⟩
    have B3 := Lib.hid (B2.out.trans (hb3.mono B2.out.size))
    clear hb3
    go_wp2_with fail
    refine (H4.out _).mono ?_
    rintro e w4 ⟨rfl, hb4⟩
    have B4 := Lib.hid (B3.out.trans (hb4.mono B3.out.size))
    clear hb4
    go_wp2_with fail
    refine (H5.out _).mono ?_
    rintro e w5 ⟨rfl, hb5⟩
    have B5 := Lib.hid (B4.out.trans (hb5.mono B4.out.size))
    clear hb5
    go_wp2_with fail
    refine (H6.out _).mono ?_
    rintro e w6 ⟨rfl, hb6⟩
    have B6 := Lib.hid (B5.out.trans (hb6.mono B5.out.size))
    clear hb6 B2 B3 B4 B5
    rcases HS.out with (rfl | rfl) | ⟨rfl, ht, u, hu, rfl⟩
    · go_wp2_with fail
      refine (awake_any _ (Pow.at HP.out B6.out B6.out.size)).mono ?_
      rintro e w7 ⟨rfl, hb7⟩
      go_wp2
      go_ret
      exact ⟨rfl, B6.out.trans (hb7.mono B6.out.size)⟩
    · go_wp2_with fail
      refine (awake_any _ (Pow.at HP.out B6.out B6.out.size)).mono ?_
      rintro e w7 ⟨rfl, hb7⟩
      go_wp2
      go_ret
      exact ⟨rfl, B6.out.trans (hb7.mono B6.out.size)⟩
    · obtain ⟨f1, f2, f3, f4⟩ := start_facts t u ht hu.lt
      have hsx := fun w => Start_is (startOf t u) s u w f2 hu
      have hbx := fun w => Between_is (startOf t u) t s u w f2 ht hu
      rw [f3] at hsx
      rw [f4] at hbx
      obtain ⟨x, hx⟩ : ∃ x, startOf t u = x := ⟨_, rfl⟩
      rw [hx] at f1 hsx hbx
      rw [hx]
      have HSX := Lib.hid hsx
      have HBX := Lib.hid hbx
      clear hsx hbx f2 f3 f4 ht hx HS H1 H2 H3 H4 H5 H6
      go_wp2_with fail
      refine (HSX.out _).mono ?_
      rintro e w7 ⟨rfl, hb7⟩
      go_wp2_with fail
      refine (HBX.out _).mono ?_
      rintro e w8 ⟨rfl, hb8⟩
      have B8 := Lib.hid ((B6.out.trans (hb7.mono B6.out.size)).trans (hb8.mono (Nat.le_trans B6.out.size hb7.size)))
      clear hb7 hb8
      go_wp2_with fail
      refine (awake_any _ (Pow.at HP.out B8.out B8.out.size)).mono ?_
      rintro e w9 ⟨rfl, hb9⟩
      go_wp2
      go_ret
      exact ⟨rfl, B8.out.trans (hb9.mono B8.out.size)⟩
end Go.Proofs.YtcgabonoddloiaaGreatDoor
