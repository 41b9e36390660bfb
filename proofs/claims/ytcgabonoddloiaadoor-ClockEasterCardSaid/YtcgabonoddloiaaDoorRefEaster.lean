/- Easter of the reference. -/
import Derived.Test.YtcgabonoddloiaaDoorRef
import Derived.Test.YtcgabonoddloiaaDoorEas
import Derived.Deep.CutRange
import Derived.Deep.DeepCutAuto
import Derived.Deep.CutBlock
namespace Go.Proofs.YtcgabonoddloiaaDoor
open Go.RowKit Clk

theorem er_mod (X : Int) (h : X.tmod 30 < 0) : X.tmod 30 + 30 = X % 30 := by
  have := Int.tmod_add_mul_tdiv X 30
  have := Int.emod_add_mul_ediv X 30
  have h3 := mod_bd X 30 (by decide)
  have h4 := Int.lt_tmod_of_pos X (show (0 : Int) < 30 by decide)
  omega
theorem er_mod' (X : Int) (h : 0 ≤ X.tmod 30) : X.tmod 30 = X % 30 := by
  have := Int.tmod_add_mul_tdiv X 30
  have := Int.emod_add_mul_ediv X 30
  have h3 := mod_bd X 30 (by decide)
  have h4 := Int.tmod_lt_of_pos X (show (0 : Int) < 30 by decide)
  omega
theorem er_time (N f : Int) : -62135596800 + (N + f - 1) * 86400 + (7 - ((-62135596800 + (N + f - 1) * 86400 + 62135596800) / 86400 + 1) % 7) * 86400 = (N + f - 1 + (7 - ((N + f - 1) % 7 + 1) % 7) - 719162) * 86400 := by
  rw [show (-62135596800 + (N + f - 1) * 86400 + 62135596800) / 86400 = N + f - 1 by omega]
  omega

set_option maxHeartbeats 1600000 in
theorem refEaster_ok (y : Int) (w : World) (y0 : 1 ≤ y) (y2 : y ≤ 9999) :
    Calls Tryd.prog 10 #[.int .i64 y] w fun e w' => e = .returned (.tuple #[.int .i64 ((erNum y - 719162) * 86400), .int .i64 0]) ∧ w = w' := by
  obtain ⟨g, hg⟩ : ∃ g, y % 19 + 1 = g := ⟨_, rfl⟩
  obtain ⟨c, hc⟩ : ∃ c, y / 100 + 1 = c := ⟨_, rfl⟩
  have g1 : 1 ≤ g ∧ g ≤ 19 := by have := mod_bd y 19 (by decide); omega
  have c1 : 1 ≤ c ∧ c ≤ 100 := by clear hg; omega
  obtain ⟨lo, hlo⟩ : ∃ l, 3 * c / 4 - 12 = l := ⟨_, rfl⟩
  obtain ⟨mo, hmo⟩ : ∃ m, (8 * c + 5) / 25 - 5 = m := ⟨_, rfl⟩
  have l1 : -12 ≤ lo ∧ lo ≤ 63 := by clear hg hc hmo; omega
  have m1 : -5 ≤ mo ∧ mo ≤ 28 := by clear hg hc hlo; omega
  obtain ⟨ep, hep⟩ : ∃ e, (11 * g + 20 + mo - lo) % 30 = e := ⟨_, rfl⟩
  have ep1 : 0 ≤ ep ∧ ep ≤ 29 := hep ▸ mod_bd (11 * g + 20 + mo - lo) 30 (by decide)
  have eG : erGolden y = g := hg
  have eC : erCentury y = c := hc
  have eL : erLost y = lo := by unfold erLost; rw [eC, hlo]
  have eM : erMoon y = mo := by unfold erMoon; rw [eC, hmo]
  have eE : erEpact0 y = ep := by unfold erEpact0; rw [eG, eM, eL, hep]
  have hE : erEpact y = if (ep = 25 ∧ g > 11) ∨ ep = 24 then ep + 1 else ep := by unfold erEpact; rw [eE, eG]
  have HE := Lib.hid hE
  obtain ⟨N, hN⟩ : ∃ N, num y 3 1 = N := ⟨_, rfl⟩
  have hNum : ∀ f, erFull y = f → -62135596800 + (N + f - 1) * 86400 + (7 - ((-62135596800 + (N + f - 1) * 86400 + 62135596800) / 86400 + 1) % 7) * 86400 = (erNum y - 719162) * 86400 := by
    intro f hf
    rw [er_time]
    unfold erNum erDay
    rw [hf, hN]
  have HNum := Lib.hid hNum
  have hF : erFull y = if 44 - erEpact y < 21 then 44 - erEpact y + 30 else 44 - erEpact y := rfl
  have HF := Lib.hid hF
  have N1 : 0 ≤ N ∧ N ≤ 4000000 := by
    rw [← hN]; unfold num
    have a := cum_bd y 3
    have b := dby_mono 1 y y0
    have c := dby_mono y 9999 y2
    have d := dby_1
    have e : dby 9999 = 3651694 := by decide
    omega
  have HN := Lib.hid hN
  have vg := Lib.hid hg
  have vc := Lib.hid hc
  have vl := Lib.hid hlo
  have vm := Lib.hid hmo
  have vE := Lib.hid hep
  obtain ⟨g0, g2⟩ := g1
  obtain ⟨c0, c2⟩ := c1
  obtain ⟨l0, l2⟩ := l1
  obtain ⟨m0, m2⟩ := m1
  obtain ⟨e0, e2⟩ := ep1
  obtain ⟨N0, N2⟩ := N1
  have hin : (decide (1 ≤ y) && decide (y ≤ 9999)) = true := by simp [y0, y2]
  clear hg hc hlo hmo hep eG eC eL eM eE hE hN hNum hF
  go_enter Tryd.func10, Tryd.ntmps10
  go_upto_region 3 with (first | (go_at_call 20; refine (in_any _ _ _ _).mono ?_; rintro e w' ⟨rfl, rfl⟩; rw [hin]))
  clear hin
  go_cut [2, 3, 4] from 14 to 72 (fun v2 v3 v4 wx => v2 = .int .i64 0 ∧ v3 = .int .i64 0 ∧ v4 = .int .i64 g ∧ w = wx)
  case first =>
    go_wp2
    go_meet
    case rel => exact ⟨rfl, rfl, by rw [vg.out], rfl⟩
  case rest =>
    obtain ⟨rfl, rfl, rfl, rfl⟩ := hcut
    go_upto_region 4 with fail
    go_cut [5] from 14 to 72 (fun v5 wx => v5 = .int .i64 c ∧ w = wx)
    case first =>
      go_wp2
      go_meet
      case rel => exact ⟨by rw [vc.out], rfl⟩
    case rest =>
      obtain ⟨rfl, rfl⟩ := hcut
      go_upto_region 5 with fail
      go_cut [6] from 14 to 72 (fun v6 wx => v6 = .int .i64 lo ∧ w = wx)
      case first =>
        go_wp2
        go_meet
        case rel => exact ⟨by rw [vl.out], rfl⟩
      case rest =>
        obtain ⟨rfl, rfl⟩ := hcut
        go_upto_region 6 with fail
        go_cut [7] from 14 to 72 (fun v7 wx => v7 = .int .i64 mo ∧ w = wx)
        case first =>
          go_wp2
          go_meet
          case rel => exact ⟨by rw [vm.out], rfl⟩
        case rest =>
          obtain ⟨rfl, rfl⟩ := hcut
          by_cases hX : (11 * g + 20 + mo - lo).tmod 30 < 0
          all_goals
            have hX2 := Lib.hid (show (11 * g + 20 + mo - lo).tmod 30 < 0 → (11 * g + 20 + mo - lo).tmod 30 + 30 = ep from fun h => (er_mod _ h).trans vE.out)
            have hX3 := Lib.hid (show 0 ≤ (11 * g + 20 + mo - lo).tmod 30 → (11 * g + 20 + mo - lo).tmod 30 = ep from fun h => (er_mod' _ h).trans vE.out)
            go_upto_region 10 with fail
            first | simp only [hX2.out hX] | simp only [hX3.out (by omega)]
            clear hX hX2 hX3
            have hc : ep = 24 ∨ ep = 25 ∨ (¬ ep = 24 ∧ ¬ ep = 25) := by omega
            rcases hc with h4 | h4 | ⟨n24, n25⟩
            · have HV := Lib.hid (HNum.out 49 (by rw [HF.out, HE.out, if_pos (Or.inr h4 : (ep = 25 ∧ g > 11) ∨ ep = 24), h4]; rfl))
              subst h4
              have hw : ¬ (wrap64 24 = 25) := by unfold wrap64; omega
              have hw2 : wrap64 24 = 24 := by unfold wrap64; omega
              clear e0 e2
              (go_wp2_with (first | (go_at_call 21; refine (number_any _ _ _ _ (by omega) (by omega) (by omega) (by omega) (by omega) (by omega)).mono ?_; rintro e w' ⟨rfl, rfl⟩; rw [HN.out]) | (go_at_call 22; refine (refWeekday_any _ _ (by omega) (by omega)).mono ?_; rintro e w' ⟨rfl, rfl⟩)); go_ret2; exact ⟨by rw [← HV.out]; rfl, rfl⟩)
            · have hw : wrap64 25 = 25 := by unfold wrap64; omega
              by_cases hg : 11 < g
              · have HV := Lib.hid (HNum.out 48 (by rw [HF.out, HE.out, if_pos (Or.inl ⟨h4, hg⟩ : (ep = 25 ∧ g > 11) ∨ ep = 24), h4]; rfl))
                subst h4
                clear e0 e2
                (go_wp2_with (first | (go_at_call 21; refine (number_any _ _ _ _ (by omega) (by omega) (by omega) (by omega) (by omega) (by omega)).mono ?_; rintro e w' ⟨rfl, rfl⟩; rw [HN.out]) | (go_at_call 22; refine (refWeekday_any _ _ (by omega) (by omega)).mono ?_; rintro e w' ⟨rfl, rfl⟩)); go_ret2; exact ⟨by rw [← HV.out]; rfl, rfl⟩)
              · have HV := Lib.hid (HNum.out 49 (by rw [HF.out, HE.out, if_neg (by omega : ¬ ((ep = 25 ∧ g > 11) ∨ ep = 24)), h4]; rfl))
                subst h4
                clear e0 e2
                (go_wp2_with (first | (go_at_call 21; refine (number_any _ _ _ _ (by omega) (by omega) (by omega) (by omega) (by omega) (by omega)).mono ?_; rintro e w' ⟨rfl, rfl⟩; rw [HN.out]) | (go_at_call 22; refine (refWeekday_any _ _ (by omega) (by omega)).mono ?_; rintro e w' ⟨rfl, rfl⟩)); go_ret2; exact ⟨by rw [← HV.out]; rfl, rfl⟩)
            · by_cases hf : 44 - ep < 21
              · have HV := Lib.hid (HNum.out (44 - ep + 30) (by rw [HF.out, HE.out, if_neg (by omega : ¬ ((ep = 25 ∧ g > 11) ∨ ep = 24)), if_pos hf]))
                have e3 : 26 ≤ ep := by omega
                have E3 := Lib.hid e3
                have hw : wrap64 ep = ep := by unfold wrap64; omega
                clear n24 n25 hf
                (go_wp2_with (first | (go_at_call 21; refine (number_any _ _ _ _ (by omega) (by omega) (by omega) (by omega) (by omega) (by omega)).mono ?_; rintro e w' ⟨rfl, rfl⟩; rw [HN.out]) | (go_at_call 22; refine (refWeekday_any _ _ (by omega) (by omega)).mono ?_; rintro e w' ⟨rfl, rfl⟩)); all_goals (first | (exfalso; have := E3.out; omega) | (go_ret2; exact ⟨by rw [← HV.out]; rfl, rfl⟩)))
              · have HV := Lib.hid (HNum.out (44 - ep) (by rw [HF.out, HE.out, if_neg (by omega : ¬ ((ep = 25 ∧ g > 11) ∨ ep = 24)), if_neg hf]))
                have e3 : ep ≤ 23 := by omega
                have E3 := Lib.hid e3
                have hw : wrap64 ep = ep := by unfold wrap64; omega
                clear n24 n25 hf
                (go_wp2_with (first | (go_at_call 21; refine (number_any _ _ _ _ (by omega) (by omega) (by omega) (by omega) (by omega) (by omega)).mono ?_; rintro e w' ⟨rfl, rfl⟩; rw [HN.out]) | (go_at_call 22; refine (refWeekday_any _ _ (by omega) (by omega)).mono ?_; rintro e w' ⟨rfl, rfl⟩)); all_goals (first | (exfalso; have := E3.out; omega) | (go_ret2; exact ⟨by rw [← HV.out]; rfl, rfl⟩)))

set_option maxHeartbeats 400000 in
theorem refEaster_no (y : Int) (w : World) (h : isY y = false) :
    Calls Tryd.prog 10 #[.int .i64 y] w fun e w' => e = .returned (.tuple #[.int .i64 0, .int .i64 7]) ∧ w = w' := by
  have hin : (decide (1 ≤ y) && decide (y ≤ 9999)) = false := h
  clear h
  go_enter Tryd.func10, Tryd.ntmps10
  go_wp2_with (first | (go_at_call 20; refine (in_any _ _ _ _).mono ?_; rintro e w' ⟨rfl, rfl⟩; rw [hin]))
  go_ret2
  exact ⟨rfl, rfl⟩
end Go.Proofs.YtcgabonoddloiaaDoor
