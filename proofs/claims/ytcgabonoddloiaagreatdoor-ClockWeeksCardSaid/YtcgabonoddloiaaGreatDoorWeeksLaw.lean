/- ClockWeeks answers true, for every time, year, number and weekday. -/
import Derived.Test.YtcgabonoddloiaaGreatDoorRefWeeks
import Derived.Test.YtcgabonoddloiaaGreatDoorAwake
namespace Go.Proofs.YtcgabonoddloiaaGreatDoor
open Go.RowKit Clk

/-- OfWeek of both. -/
theorem ofweek_both (y k wd : Int) : ∃ T E : Int, (∀ w, Calls Tryz.prog 24 #[.int .i64 y, .int .i64 k, .int .i64 wd] w fun e w' => e = .returned (.tuple #[.int .i64 T, .int .i64 E]) ∧ w = w') ∧
    (∀ w, Calls Tryz.prog 25 #[.int .i64 y, .int .i64 k, .int .i64 wd] w fun e w' => e = .returned (.tuple #[.int .i64 T, .int .i64 E]) ∧ Below w.heap.size w w') := by
  cases h : owArgs y k wd with
  | false => exact ⟨0, 7, fun w => OfWeek_args y k wd w h, fun w => (refOfWeek_args y k wd w h).mono fun _ _ hh => ⟨hh.1, hh.2 ▸ Below.refl _ _⟩⟩
  | true => exact ⟨_, _, fun w => OfWeek_fits y k wd w h _ rfl, fun w => refOfWeek_fits y k wd w h _ rfl⟩

/-- OfWeek of a time's own week. -/
theorem ofweek_back (t : Int) (h : isT t = true) (w : World) : Calls Tryz.prog 24 #[.int .i64 (wkY (t / 86400)), .int .i64 (wkN (t / 86400)), .int .i64 ((t / 86400 + 3) % 7 + 1)] w fun e w' => e = .returned (.tuple #[.int .i64 (t - (t + 62135596800) % 86400), .int .i64 0]) ∧ w = w' := by
  have hb := isT_iff.1 h
  obtain ⟨d1, d2⟩ := yday_day t h
  have hy := wkY_bd (t / 86400) d1 d2
  have hk := wkN_bd (t / 86400) d1
  have e := ow_back (t / 86400) d1
  have ha : owArgs (wkY (t / 86400)) (wkN (t / 86400)) ((t / 86400 + 3) % 7 + 1) = true := by
    unfold owArgs
    rw [isY_iff.2 hy]
    simp
    omega
  have ht : isT (t / 86400 * 86400) = true := isT_iff.2 (by omega)
  have hf : owFits (wkY (t / 86400)) (wkN (t / 86400)) ((t / 86400 + 3) % 7 + 1) = true := by
    unfold owFits
    rw [e, ht]
    simp
  refine (OfWeek_fits _ _ _ w ha true hf).mono fun ee w' hh => ⟨hh.1.trans ?_, hh.2⟩
  rw [e]
  show Ending.returned (.tuple #[.int .i64 (t / 86400 * 86400), .int .i64 0]) = _
  rw [show t / 86400 * 86400 = t - (t + 62135596800) % 86400 by omega]

theorem wd_next (t : Int) : ((t + 86400) / 86400 + 3) % 7 + 1 = ((t / 86400 + 3) % 7 + 1) % 7 + 1 := by omega

/-- Weekday of the next day. -/
theorem next_weekday (t : Int) : ∃ N E : Int, (∀ w, Calls Tryz.prog 18 #[.int .i64 (t + 86400)] w fun e w' => e = .returned (.tuple #[.int .i64 N, .int .i64 E]) ∧ w = w') ∧ ((E = 0 ∧ N = ((t / 86400 + 3) % 7 + 1) % 7 + 1) ∨ E = 7) := by
  cases h : isT (t + 86400) with
  | true => exact ⟨_, 0, fun w => Weekday_ok _ w h, .inl ⟨rfl, wd_next t⟩⟩
  | false => exact ⟨0, 7, fun w => Weekday_no _ w h, .inr rfl⟩

set_option maxRecDepth 100000 in
set_option maxHeartbeats 8000000 in
theorem weeksLaw_any (t y k wd : Int) (w : World) (hP : Pow w.heap.size w) :
    Calls Tryz.prog 4 #[.int .i64 t, .int .i64 y, .int .i64 k, .int .i64 wd] w fun e w' => e = .returned (.bool true) ∧ Below w.heap.size w w' := by
  obtain ⟨T, E, o1, o2⟩ := ofweek_both y k wd
  have O1 := Lib.hid o1
  have O2 := Lib.hid o2
  have HP := Lib.hid hP
  clear o1 o2 hP
  cases ht : isT t with
  | false =>
    have HT := Lib.hid ht
    clear ht
    go_enter Tryz.func4, Tryz.ntmps4
    go_wp2_with fail
    refine (Weekday_no _ _ HT.out).mono ?_
    rintro e w' ⟨rfl, rfl⟩
    go_wp2_with fail
    refine (refWeekday_no _ _ HT.out).mono ?_
    rintro e w' ⟨rfl, rfl⟩
    go_wp2_with fail
    refine (Yearday_no _ _ HT.out).mono ?_
    rintro e w' ⟨rfl, rfl⟩
    go_wp2_with fail
    refine (refYearday_no _ _ HT.out).mono ?_
    rintro e w' ⟨rfl, rfl⟩
    go_wp2_with fail
    refine (Week_no _ _ HT.out).mono ?_
    rintro e w' ⟨rfl, rfl⟩
    go_wp2_with fail
    refine (refWeek_no _ _ HT.out).mono ?_
    rintro e w' ⟨rfl, rfl⟩
    go_wp2_with fail
    refine (O1.out _).mono ?_
    rintro e w' ⟨rfl, rfl⟩
    go_wp2_with fail
    refine (O2.out _).mono ?_
    rintro e w1 ⟨rfl, hb1⟩
    go_wp2_with fail
    refine (awake_any _ (Pow.at HP.out hb1 hb1.size)).mono ?_
    rintro e w2 ⟨rfl, hb2⟩
    go_wp2
    go_ret
    exact ⟨rfl, hb1.trans (hb2.mono hb1.size)⟩
  | true =>
    have hb := isT_iff.1 ht
    obtain ⟨N2, E2, n1, n2⟩ := next_weekday t
    have hbk := fun w => ofweek_back t ht w
    obtain ⟨A, hA⟩ : ∃ A, (t / 86400 + 3) % 7 + 1 = A := ⟨_, rfl⟩
    have hw1 := fun w => Weekday_ok t w ht
    have hw2 := fun w => refWeekday_ok t w ht
    have hA1 : 1 ≤ A ∧ A ≤ 7 := by omega
    rw [hA] at n2 hbk hw1 hw2
    obtain ⟨wy, hwy⟩ : ∃ A, wkY (t / 86400) = A := ⟨_, rfl⟩
    obtain ⟨wk, hwk⟩ : ∃ A, wkN (t / 86400) = A := ⟨_, rfl⟩
    obtain ⟨yd, hyd⟩ : ∃ A, yday (t / 86400) = A := ⟨_, rfl⟩
    have hk1 := fun w => Week_ok t w ht
    have hk2 := fun w => refWeek_ok t w ht
    have hy1 := fun w => Yearday_ok t w ht
    have hy2 := fun w => refYearday_ok t w ht
    rw [hwy, hwk] at hk1 hk2 hbk
    rw [hyd] at hy1 hy2
    have W1 := Lib.hid hw1
    have W2 := Lib.hid hw2
    have K1 := Lib.hid hk1
    have K2 := Lib.hid hk2
    have Y1 := Lib.hid hy1
    have Y2 := Lib.hid hy2
    have BK := Lib.hid hbk
    have NX := Lib.hid n1
    have N2' := Lib.hid n2
    obtain ⟨t1, t2⟩ := hb
    obtain ⟨a1, a2⟩ := hA1
    clear hw1 hw2 hk1 hk2 hy1 hy2 hbk n1 n2 hA hwy hwk hyd ht
    go_enter Tryz.func4, Tryz.ntmps4
    go_wp2_with fail
    refine (W1.out _).mono ?_
    rintro e w' ⟨rfl, rfl⟩
    go_wp2_with fail
    refine (W2.out _).mono ?_
    rintro e w' ⟨rfl, rfl⟩
    go_wp2_with fail
    refine (Y1.out _).mono ?_
    rintro e w' ⟨rfl, rfl⟩
    go_wp2_with fail
    refine (Y2.out _).mono ?_
    rintro e w1 ⟨rfl, hb1⟩
    go_wp2_with fail
    refine (K1.out _).mono ?_
    rintro e w' ⟨rfl, rfl⟩
    go_wp2_with fail
    refine (K2.out _).mono ?_
    rintro e w2 ⟨rfl, hb2⟩
    have B2 := Lib.hid (hb1.trans (hb2.mono hb1.size))
    clear hb1 hb2
    go_wp2_with fail
    refine (O1.out _).mono ?_
    rintro e w' ⟨rfl, rfl⟩
    go_wp2_with fail
    refine (O2.out _).mono ?_
    rintro e w3 ⟨rfl, hb3⟩
    have B3 := Lib.hid (B2.out.trans (hb3.mono B2.out.size))
    clear hb3
    go_wp2_with fail
    refine (NX.out _).mono ?_
    rintro e w' ⟨rfl, rfl⟩
    rcases N2'.out with ⟨rfl, rfl⟩ | rfl
    all_goals
      go_wp2_with fail
      refine (BK.out _).mono ?_
      rintro e w' ⟨rfl, rfl⟩
      go_wp2_with fail
      refine (awake_any _ (Pow.at HP.out B3.out B3.out.size)).mono ?_
      rintro e w4 ⟨rfl, hb4⟩
      go_wp2
      go_ret
      exact ⟨rfl, B3.out.trans (hb4.mono B3.out.size)⟩
end Go.Proofs.YtcgabonoddloiaaGreatDoor
