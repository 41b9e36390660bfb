/- yearday, Yearday, week, Week, OfWeek of the reference. -/
import Derived.Test.YtcgabonoddloiaaGreatDoorWeeks
import Derived.Test.YtcgabonoddloiaaGreatDoorDates4
namespace Go.Proofs.YtcgabonoddloiaaGreatDoor
open Go.RowKit Clk

theorem day_of (t : Int) : (t + 62135596800) / 86400 = t / 86400 + 719162 := by omega
theorem wd_of (t : Int) : (t + 62135596800) / 86400 % 7 + 1 = (t / 86400 + 3) % 7 + 1 := by omega
theorem day_lo (t : Int) (h : -62135596800 ≤ t) : -719162 ≤ t / 86400 := by omega

set_option maxHeartbeats 800000 in
theorem refYearday_any (t : Int) (w : World) (h1 : -62135596800 ≤ t) (h2 : t ≤ 300000000000) :
    Calls Tryz.prog 51 #[.int .i64 t] w fun e w' => e = .returned (.int .i64 (yday (t / 86400))) ∧ Below w.heap.size w w' := by
  obtain ⟨Y, M, D, h, i, s, A⟩ := atIs t
  obtain ⟨c1, c2⟩ := civ (t / 86400) (day_lo t h1)
  have hyb := cYear_bd (t / 86400) (day_lo t h1) (by omega)
  have e1 := yday_eq (t / 86400)
  have e2 : num Y 1 1 = dby Y := by unfold num; rw [cum_1]; omega
  rw [A.y, A.m, A.d] at c1 c2
  rw [A.y] at hyb e1
  obtain ⟨c3, c4, c5, c6, c7⟩ := c1
  have hdim := dim_bd Y M
  have hN := fun w => number_any Y M D w (by omega) (by omega) (by omega) (by omega) (by omega) (by omega)
  have hN1 := fun w => number_any Y 1 1 w (by omega) (by omega) (by omega) (by omega) (by omega) (by omega)
  have hd := dby_ge Y c3
  rw [c2] at hN
  rw [e2] at hN1
  have hdb : 0 ≤ dby Y ∧ dby Y ≤ 7400000 := by unfold dby; omega
  obtain ⟨n, hn⟩ : ∃ n, t / 86400 = n := ⟨_, rfl⟩
  have hn1 : -719162 ≤ n ∧ n ≤ 4000000 := by omega
  rw [hn] at hN e1
  rw [hn]
  obtain ⟨B, hB⟩ : ∃ B, dby Y = B := ⟨_, rfl⟩
  rw [hB] at hN1 e1 hdb
  have HN := Lib.hid hN
  have HN1 := Lib.hid hN1
  have HV := Lib.hid e1
  have HA := Lib.hid A
  obtain ⟨n1, n2⟩ := hn1
  obtain ⟨b1, b2⟩ := hdb
  clear hN hN1 e1 A hn hB e2 c2 hyb hd hdim
  go_enter Tryz.func51, Tryz.ntmps51
  go_wp2_with (go_at_call 37; refine (refDate_any t Y M D h i s _ HA.out h1 h2).mono ?_; rintro e w1 ⟨rfl, hb1⟩)
  go_wp2_with fail
  go_quiet ((go_at_call 39; first | with_reducible exact Calls.quiet_of_same ((HN.out _).mono fun _ _ h => ⟨h.1, h.2.symm⟩) | with_reducible exact Calls.quiet_of_same ((HN1.out _).mono fun _ _ h => ⟨h.1, h.2.symm⟩)))
  go_wp2
  go_ret
  exact ⟨ret_int (by rw [HV.out]), Below.drewN' (hb1.alloc hb1.size _) _⟩

set_option maxHeartbeats 400000 in
theorem refWeekday_ok (t : Int) (w : World) (h : isT t = true) :
    Calls Tryz.prog 19 #[.int .i64 t] w fun e w' => e = .returned (.tuple #[.int .i64 ((t / 86400 + 3) % 7 + 1), .int .i64 0]) ∧ w = w' := by
  have hb := isT_iff.1 h
  go_enter Tryz.func19, Tryz.ntmps19
  go_wp2_with (first | (go_at_call 36; refine (refRight_any _ _).mono ?_; rintro e w' ⟨rfl, rfl⟩; rw [h]) | (go_at_call 49; refine (refWeekday_any _ _ (by omega) (by omega)).mono ?_; rintro e w' ⟨rfl, rfl⟩; rw [wd_of]))
  go_ret2
  exact ⟨rfl, rfl⟩

set_option maxHeartbeats 400000 in
theorem refWeekday_no (t : Int) (w : World) (h : isT t = false) :
    Calls Tryz.prog 19 #[.int .i64 t] w fun e w' => e = .returned (.tuple #[.int .i64 0, .int .i64 7]) ∧ w = w' := by
  go_enter Tryz.func19, Tryz.ntmps19
  go_wp2_with (first | (go_at_call 36; refine (refRight_any _ _).mono ?_; rintro e w' ⟨rfl, rfl⟩; rw [h]))
  go_ret2
  exact ⟨rfl, rfl⟩

set_option maxHeartbeats 400000 in
theorem refYearday_ok (t : Int) (w : World) (h : isT t = true) :
    Calls Tryz.prog 21 #[.int .i64 t] w fun e w' => e = .returned (.tuple #[.int .i64 (yday (t / 86400)), .int .i64 0]) ∧ Below w.heap.size w w' := by
  have hb := isT_iff.1 h
  go_enter Tryz.func21, Tryz.ntmps21
  go_wp2_with (first | (go_at_call 36; refine (refRight_any _ _).mono ?_; rintro e w' ⟨rfl, rfl⟩; rw [h]) | (go_at_call 51; refine (refYearday_any _ _ (by omega) (by omega)).mono ?_; rintro e w1 ⟨rfl, hb1⟩))
  go_ret2
  exact ⟨rfl, hb1⟩

set_option maxHeartbeats 400000 in
theorem refYearday_no (t : Int) (w : World) (h : isT t = false) :
    Calls Tryz.prog 21 #[.int .i64 t] w fun e w' => e = .returned (.tuple #[.int .i64 0, .int .i64 7]) ∧ w = w' := by
  go_enter Tryz.func21, Tryz.ntmps21
  go_wp2_with (first | (go_at_call 36; refine (refRight_any _ _).mono ?_; rintro e w' ⟨rfl, rfl⟩; rw [h]))
  go_ret2
  exact ⟨rfl, rfl⟩

/-- The Thursday of a time's week, as a day. -/
theorem thu_time (t : Int) : (t + (4 - ((t / 86400 + 3) % 7 + 1)) * 86400) / 86400 = thu (t / 86400) := by unfold thu; omega

theorem field_year (Y M D h i s : Int) (w : World) : (Instr.field 23 (.agg #[.int .i64 Y, .int .i64 M, .int .i64 D, .int .i64 h, .int .i64 i, .int .i64 s]) 0).run Tryz.prog w = .ok (.int .i64 Y) w := by
  kernel_rfl

set_option maxRecDepth 100000 in
set_option maxHeartbeats 1600000 in
theorem refWeek_any (t : Int) (w : World) (h1 : -62135596800 ≤ t) (h2 : t ≤ 299000000000) :
    Calls Tryz.prog 53 #[.int .i64 t] w fun e w' => e = .returned (.tuple #[.int .i64 (wkY (t / 86400)), .int .i64 (wkN (t / 86400))]) ∧ Below w.heap.size w w' := by
  have hth := thu_time t
  have hlo := thu_lo (t / 86400) (day_lo t h1)
  have hbd := thu_bd (t / 86400)
  obtain ⟨T, hT⟩ : ∃ T, t + (4 - ((t / 86400 + 3) % 7 + 1)) * 86400 = T := ⟨_, rfl⟩
  rw [hT] at hth
  have HY : Hid (wkY (t / 86400) = cYear (T / 86400)) := Lib.hid (by unfold wkY; rw [hth])
  have HN : Hid (wkN (t / 86400) = (yday (T / 86400) - 1) / 7 + 1) := Lib.hid (by unfold wkN; rw [hth])
  have hT1 : -62135596800 ≤ T ∧ T ≤ 300000000000 := by omega
  have hyb := yday_bd (T / 86400) (by omega)
  obtain ⟨q, hq⟩ : ∃ q, yday (T / 86400) = q := ⟨_, rfl⟩
  rw [hq] at hyb HN
  have HQ := Lib.hid hq
  obtain ⟨Y, M, D, h, i, s, A⟩ := atIs T
  rw [A.y] at HY
  have HA := Lib.hid A
  have HT := Lib.hid hT
  have HW := Lib.hid (wd_of t)
  obtain ⟨t1, t2⟩ := hT1
  obtain ⟨q1, q2⟩ := hyb
  clear hT hth hlo hbd hq A
  go_enter Tryz.func53, Tryz.ntmps53
  go_wp2_with (first | (go_at_call 49; refine (refWeekday_any _ _ (by omega) (by omega)).mono ?_; rintro e w' ⟨rfl, rfl⟩; rw [HW.out]))
  rw [HT.out]
  refine (refDate_any T Y M D h i s _ HA.out t1 t2).mono ?_
  rintro e w1 ⟨rfl, hb1⟩
  have hfl := field_year Y M D h i s
  go_wp2_with fail
  refine (refYearday_any T _ t1 t2).mono ?_
  rintro e w2 ⟨rfl, hb2⟩
  rw [HQ.out]
  go_wp2
  go_ret2
  exact ⟨by rw [HY.out, HN.out]; rfl, hb1.trans (hb2.mono hb1.size)⟩

set_option maxHeartbeats 400000 in
theorem refWeek_ok (t : Int) (w : World) (h : isT t = true) :
    Calls Tryz.prog 23 #[.int .i64 t] w fun e w' => e = .returned (.tuple #[.int .i64 (wkY (t / 86400)), .int .i64 (wkN (t / 86400)), .int .i64 0]) ∧ Below w.heap.size w w' := by
  have hb := isT_iff.1 h
  go_enter Tryz.func23, Tryz.ntmps23
  go_wp2_with (first | (go_at_call 36; refine (refRight_any _ _).mono ?_; rintro e w' ⟨rfl, rfl⟩; rw [h]) | (go_at_call 53; refine (refWeek_any _ _ (by omega) (by omega)).mono ?_; rintro e w1 ⟨rfl, hb1⟩))
  go_ret3
  exact ⟨rfl, hb1⟩

set_option maxHeartbeats 400000 in
theorem refWeek_no (t : Int) (w : World) (h : isT t = false) :
    Calls Tryz.prog 23 #[.int .i64 t] w fun e w' => e = .returned (.tuple #[.int .i64 0, .int .i64 0, .int .i64 7]) ∧ w = w' := by
  go_enter Tryz.func23, Tryz.ntmps23
  go_wp2_with (first | (go_at_call 36; refine (refRight_any _ _).mono ?_; rintro e w' ⟨rfl, rfl⟩; rw [h]))
  go_ret3
  exact ⟨rfl, rfl⟩

theorem in_eq (n lo hi : Int) (b : Bool) (w : World) (hb : (decide (lo ≤ n) && decide (n ≤ hi)) = b) :
    Calls Tryz.prog 42 #[.int .i64 n, .int .i64 lo, .int .i64 hi] w fun e w' => e = .returned (.bool b) ∧ w = w' :=
  (in_is n lo hi b w hb).mono fun _ _ h => ⟨h.1, h.2.symm⟩

set_option maxHeartbeats 800000 in
theorem refOfWeek_args (y k wd : Int) (w : World) (h : owArgs y k wd = false) :
    Calls Tryz.prog 25 #[.int .i64 y, .int .i64 k, .int .i64 wd] w fun e w' => e = .returned (.tuple #[.int .i64 0, .int .i64 7]) ∧ w = w' := by
  obtain ⟨a, ha⟩ : ∃ a, isY y = a := ⟨_, rfl⟩
  obtain ⟨b, hb⟩ : ∃ b, (decide (1 ≤ wd) && decide (wd ≤ 7)) = b := ⟨_, rfl⟩
  obtain ⟨c, hc⟩ : ∃ c, (decide (1 ≤ k) && decide (k ≤ 53)) = c := ⟨_, rfl⟩
  have h' : (a && (c && b)) = false := by rw [← ha, ← hb, ← hc]; exact h
  have ha' : (decide (1 ≤ y) && decide (y ≤ 9999)) = a := ha
  have HA := Lib.hid (fun w => in_eq y 1 9999 a w ha')
  have HB := Lib.hid (fun w => in_eq wd 1 7 b w hb)
  have HC := Lib.hid (fun w => in_eq k 1 53 c w hc)
  have hcc : a = false ∨ (a = true ∧ b = false) ∨ (a = true ∧ b = true ∧ c = false) := by
    cases a <;> cases b <;> cases c <;> simp at h' ⊢
  clear h h' ha hb hc ha'
  rcases hcc with rfl | ⟨rfl, rfl⟩ | ⟨rfl, rfl, rfl⟩
  · go_enter Tryz.func25, Tryz.ntmps25
    go_wp2_with fail
    refine (HA.out _).mono ?_
    rintro e w' ⟨rfl, rfl⟩
    go_wp2
    go_ret2
    exact ⟨rfl, rfl⟩
  · go_enter Tryz.func25, Tryz.ntmps25
    go_wp2_with fail
    refine (HA.out _).mono ?_
    rintro e w' ⟨rfl, rfl⟩
    go_wp2_with fail
    refine (HB.out _).mono ?_
    rintro e w' ⟨rfl, rfl⟩
    go_wp2
    go_ret2
    exact ⟨rfl, rfl⟩
  · go_enter Tryz.func25, Tryz.ntmps25
    go_wp2_with fail
    refine (HA.out _).mono ?_
    rintro e w' ⟨rfl, rfl⟩
    go_wp2_with fail
    refine (HB.out _).mono ?_
    rintro e w' ⟨rfl, rfl⟩
    go_wp2_with fail
    refine (HC.out _).mono ?_
    rintro e w' ⟨rfl, rfl⟩
    go_wp2
    go_ret2
    exact ⟨rfl, rfl⟩

theorem owFits_ref (y k wd : Int) (h : owArgs y k wd = true) : owFits y k wd = (decide (k ≤ wkN (num y 12 28 - 719162)) && isT (owDay y k wd * 86400)) := by
  have hr : isY y = true ∧ (1 ≤ k ∧ k ≤ 53) ∧ 1 ≤ wd ∧ wd ≤ 7 := by simpa [owArgs] using h
  obtain ⟨hy, ⟨k1, k2⟩, d1, d2⟩ := hr
  have := ow_week y k wd (isY_iff.1 hy).1 d1 d2 k1
  unfold owFits
  rw [show decide (wkY (owDay y k wd) = y) = decide (k ≤ wkN (num y 12 28 - 719162)) from decide_eq_decide.2 this]

theorem ow_time (y k wd : Int) : -62135596800 + (dby y + 3) * 86400 + (1 - ((dby y + 3) % 7 + 1) + 7 * (k - 1) + wd - 1) * 86400 = owDay y k wd * 86400 := by
  unfold owDay
  rw [dTo_4]
  omega

set_option maxRecDepth 100000 in
set_option maxHeartbeats 1600000 in
theorem refOfWeek_fits (y k wd : Int) (w : World) (h : owArgs y k wd = true) (b : Bool) (hb : owFits y k wd = b) :
    Calls Tryz.prog 25 #[.int .i64 y, .int .i64 k, .int .i64 wd] w fun e w' => e = .returned (.tuple #[.int .i64 (owT b (owDay y k wd)), .int .i64 (owE b)]) ∧ Below w.heap.size w w' := by
  have hr : isY y = true ∧ (1 ≤ k ∧ k ≤ 53) ∧ 1 ≤ wd ∧ wd ≤ 7 := by simpa [owArgs] using h
  obtain ⟨hy, ⟨k1, k2⟩, d1, d2⟩ := hr
  obtain ⟨y1, y2⟩ := isY_iff.1 hy
  rw [owFits_ref y k wd h] at hb
  have HA := Lib.hid (fun w => in_eq y 1 9999 true w (by simp; omega))
  have HB := Lib.hid (fun w => in_eq wd 1 7 true w (by simp; omega))
  have HC := Lib.hid (fun w => in_eq k 1 53 true w (by simp; omega))
  have hD := num_4 y
  have hE := dTo_28 y
  have hdb : 0 ≤ dby y ∧ dby y ≤ 3651694 := by
    have a := dby_mono 1 y y1
    have b := dby_1
    have c := dby_mono y 9999 y2
    have d : dby 9999 = 3651694 := by decide
    omega
  have hl := lp_01 y
  have hod := owDay_bd y k wd y1 y2 k1 k2 d1 d2
  have hot := ow_time y k wd
  have hN4 := fun w => number_any y 1 4 w (by omega) (by omega) (by omega) (by omega) (by omega) (by omega)
  have hN28 := fun w => number_any y 12 28 w (by omega) (by omega) (by omega) (by omega) (by omega) (by omega)
  rw [hD] at hN4
  obtain ⟨E, hEE⟩ : ∃ E, num y 12 28 = E := ⟨_, rfl⟩
  rw [hEE] at hN28 hE hb
  obtain ⟨B, hB⟩ : ∃ B, dby y = B := ⟨_, rfl⟩
  rw [hB] at hN4 hE hdb hot
  have hE2 : 361 ≤ E ∧ E ≤ 3652056 := by omega
  obtain ⟨K, hK⟩ : ∃ K, wkN (E - 719162) = K := ⟨_, rfl⟩
  rw [hK] at hb
  have hday : (-62135596800 + E * 86400) / 86400 = E - 719162 := by omega
  have hWk := fun w => refWeek_any (-62135596800 + E * 86400) w (by omega) (by omega)
  rw [hday, hK] at hWk
  have hwd : (-62135596800 + (B + 3) * 86400 + 62135596800) / 86400 % 7 + 1 = (B + 3) % 7 + 1 := by omega
  obtain ⟨O, hO⟩ : ∃ O, owDay y k wd = O := ⟨_, rfl⟩
  rw [hO] at hot hb hod ⊢
  have HN4 := Lib.hid hN4
  have HN28 := Lib.hid hN28
  have HW := Lib.hid hWk
  have HT := Lib.hid hot
  have HWD := Lib.hid hwd
  obtain ⟨b1, b2⟩ := hdb
  obtain ⟨e1, e2⟩ := hE2
  obtain ⟨o1, o2⟩ := hod
  clear hN4 hN28 hWk hot hwd hday hEE hB hO hK hE hD hl h hy
  by_cases hk : k ≤ K
  · have HBB : Hid (b = isT (O * 86400)) := Lib.hid (by rw [← hb]; simp [hk])
    have hk' : ¬ K < k := by omega
    clear hb hk
    cases hT : isT (O * 86400)
    all_goals
      rw [hT] at HBB
      have HTT := Lib.hid hT
      clear hT
      go_enter Tryz.func25, Tryz.ntmps25
      go_wp2_with fail
      refine (HA.out _).mono ?_
      rintro e w' ⟨rfl, rfl⟩
      go_wp2_with fail
      refine (HB.out _).mono ?_
      rintro e w' ⟨rfl, rfl⟩
      go_wp2_with fail
      refine (HC.out _).mono ?_
      rintro e w' ⟨rfl, rfl⟩
      go_wp2_with fail
      refine (HN4.out _).mono ?_
      rintro e w' ⟨rfl, rfl⟩
      go_wp2_with fail
      refine (HN28.out _).mono ?_
      rintro e w' ⟨rfl, rfl⟩
      go_wp2_with fail
      refine (HW.out _).mono ?_
      rintro e w1 ⟨rfl, hb1⟩
      go_wp2_with fail
      refine (refWeekday_any _ _ (by omega) (by omega)).mono ?_
      rintro e w' ⟨rfl, rfl⟩
      rw [HWD.out]
      go_wp2_with fail
      rw [HT.out]
      refine (refRight_any _ _).mono ?_
      rintro e w' ⟨rfl, rfl⟩
      rw [HTT.out]
      go_wp2
      go_ret2
      exact ⟨by rw [HBB.out]; rfl, hb1⟩
  · have HBB : Hid (b = false) := Lib.hid (by rw [← hb]; simp [hk])
    have hk' : K < k := by omega
    clear hb hk
    go_enter Tryz.func25, Tryz.ntmps25
    go_wp2_with fail
    refine (HA.out _).mono ?_
    rintro e w' ⟨rfl, rfl⟩
    go_wp2_with fail
    refine (HB.out _).mono ?_
    rintro e w' ⟨rfl, rfl⟩
    go_wp2_with fail
    refine (HC.out _).mono ?_
    rintro e w' ⟨rfl, rfl⟩
    go_wp2_with fail
    refine (HN4.out _).mono ?_
    rintro e w' ⟨rfl, rfl⟩
    go_wp2_with fail
    refine (HN28.out _).mono ?_
    rintro e w' ⟨rfl, rfl⟩
    go_wp2_with fail
    refine (HW.out _).mono ?_
    rintro e w1 ⟨rfl, hb1⟩
    go_wp2_with fail
    refine (refWeekday_any _ _ (by omega) (by omega)).mono ?_
    rintro e w' ⟨rfl, rfl⟩
    rw [HWD.out]
    go_wp2
    go_ret2
    exact ⟨by rw [HBB.out]; rfl, hb1⟩
end Go.Proofs.YtcgabonoddloiaaGreatDoor
