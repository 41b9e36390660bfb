/- yearday, Yearday, week, Week, OfWeek of the program. -/
import Derived.Test.YtcgabonoddloiaaGreatDoorWeek
import Derived.Test.YtcgabonoddloiaaGreatDoorCalWeek
namespace Go.Proofs.YtcgabonoddloiaaGreatDoor
open Go.RowKit Clk

set_option maxHeartbeats 400000 in
theorem yearday_any (n : Int) (w : World) (h1 : -719162 ≤ n) (h2 : n ≤ 4000000) :
    Calls Tryz.prog 50 #[.int .i64 n] w fun e w' => e = .returned (.int .i64 (yday n)) ∧ w = w' := by
  obtain ⟨c1, c2⟩ := cYear_bd n h1 h2
  obtain ⟨Y, hY⟩ : ∃ Y, cYear n = Y := ⟨_, rfl⟩
  rw [hY] at c1 c2
  have HY := Lib.hid hY
  have hb := dTo_bd Y 1 1 (by omega) (by omega) (by omega) (by omega) (by omega) (by omega)
  obtain ⟨D, hD⟩ : ∃ D, dTo Y 1 1 = D := ⟨_, rfl⟩
  rw [hD] at hb
  have HV : Hid (yday n = n - D + 1) := Lib.hid (by unfold yday; rw [hY, hD])
  have HD := Lib.hid hD
  obtain ⟨b1, b2⟩ := hb
  clear hY hD
  go_enter Tryz.func50, Tryz.ntmps50
  go_wp2_with (first | (go_at_call 69; refine (dateOf_any _ _ (by omega) (by omega)).mono ?_; rintro e w' ⟨rfl, rfl⟩; rw [HY.out]) | (go_at_call 54; refine (daysTo_any _ _ _ _ (by omega) (by omega) (by omega) (by omega) (by omega) (by omega)).mono ?_; rintro e w' ⟨rfl, rfl⟩; rw [HD.out]))
  go_ret
  exact ⟨ret_int (by rw [HV.out]), rfl⟩

theorem yday_day (t : Int) (h : isT t = true) : -719162 ≤ t / 86400 ∧ t / 86400 ≤ 2932896 := by
  have := isT_iff.1 h
  omega

set_option maxHeartbeats 400000 in
theorem Yearday_ok (t : Int) (w : World) (h : isT t = true) :
    Calls Tryz.prog 20 #[.int .i64 t] w fun e w' => e = .returned (.tuple #[.int .i64 (yday (t / 86400)), .int .i64 0]) ∧ w = w' := by
  have hb := isT_iff.1 h
  obtain ⟨d1, d2⟩ := yday_day t h
  obtain ⟨n, hn⟩ : ∃ n, t / 86400 = n := ⟨_, rfl⟩
  rw [hn] at d1 d2 ⊢
  have Hn := Lib.hid hn
  clear hn
  go_enter Tryz.func20, Tryz.ntmps20
  go_wp2_with (first | (go_at_call 34; refine (isTime_any _ _).mono ?_; rintro e w' ⟨rfl, rfl⟩; rw [h]) | (go_at_call 48; refine (floor_any _ _ _ (by omega) (by omega) (by omega) (by omega)).mono ?_; rintro e w' ⟨rfl, rfl⟩; rw [Hn.out]) | (go_at_call 50; refine (yearday_any _ _ (by omega) (by omega)).mono ?_; rintro e w' ⟨rfl, rfl⟩))
  go_ret2
  exact ⟨rfl, rfl⟩

set_option maxHeartbeats 400000 in
theorem Yearday_no (t : Int) (w : World) (h : isT t = false) :
    Calls Tryz.prog 20 #[.int .i64 t] w fun e w' => e = .returned (.tuple #[.int .i64 0, .int .i64 7]) ∧ w = w' := by
  go_enter Tryz.func20, Tryz.ntmps20
  go_wp2_with (first | (go_at_call 34; refine (isTime_any _ _).mono ?_; rintro e w' ⟨rfl, rfl⟩; rw [h]))
  go_ret2
  exact ⟨rfl, rfl⟩

set_option maxHeartbeats 400000 in
theorem week_any (n : Int) (w : World) (h1 : -719162 ≤ n) (h2 : n ≤ 3000000) :
    Calls Tryz.prog 52 #[.int .i64 n] w fun e w' => e = .returned (.tuple #[.int .i64 (wkY n), .int .i64 (wkN n)]) ∧ w = w' := by
  have hT : thu n = n - ((n + 3) % 7 + 1) + 4 := rfl
  have ht := thu_lo n h1
  have hb := thu_bd n
  obtain ⟨T, hTT⟩ : ∃ T, thu n = T := ⟨_, rfl⟩
  have HY : Hid (wkY n = cYear T) := Lib.hid (by unfold wkY; rw [hTT])
  have hyb := yday_bd T (by omega)
  obtain ⟨q, hq⟩ : ∃ q, yday T = q := ⟨_, rfl⟩
  have HN : Hid (wkN n = (q - 1) / 7 + 1) := Lib.hid (by unfold wkN; rw [hTT, hq])
  rw [hTT] at hT ht hb
  rw [hq] at hyb
  have HT := Lib.hid hT.symm
  have HQ := Lib.hid hq
  obtain ⟨q1, q2⟩ := hyb
  clear hTT hT hq
  go_enter Tryz.func52, Tryz.ntmps52
  go_wp2_with (first | (go_at_call 47; refine (weekday_any _ _ (by omega) (by omega)).mono ?_; rintro e w' ⟨rfl, rfl⟩) | (go_at_call 69; refine (dateOf_any _ _ (by omega) (by omega)).mono ?_; rintro e w' ⟨rfl, rfl⟩; rw [HT.out]) | (go_at_call 50; refine (yearday_any _ _ (by omega) (by omega)).mono ?_; rintro e w' ⟨rfl, rfl⟩; rw [HQ.out]))
  go_ret2
  exact ⟨by rw [HY.out, HN.out]; rfl, rfl⟩

set_option maxHeartbeats 400000 in
theorem Week_ok (t : Int) (w : World) (h : isT t = true) :
    Calls Tryz.prog 22 #[.int .i64 t] w fun e w' => e = .returned (.tuple #[.int .i64 (wkY (t / 86400)), .int .i64 (wkN (t / 86400)), .int .i64 0]) ∧ w = w' := by
  have hb := isT_iff.1 h
  obtain ⟨d1, d2⟩ := yday_day t h
  obtain ⟨n, hn⟩ : ∃ n, t / 86400 = n := ⟨_, rfl⟩
  rw [hn] at d1 d2 ⊢
  have Hn := Lib.hid hn
  clear hn
  go_enter Tryz.func22, Tryz.ntmps22
  go_wp2_with (first | (go_at_call 34; refine (isTime_any _ _).mono ?_; rintro e w' ⟨rfl, rfl⟩; rw [h]) | (go_at_call 48; refine (floor_any _ _ _ (by omega) (by omega) (by omega) (by omega)).mono ?_; rintro e w' ⟨rfl, rfl⟩; rw [Hn.out]) | (go_at_call 52; refine (week_any _ _ (by omega) (by omega)).mono ?_; rintro e w' ⟨rfl, rfl⟩))
  go_ret3
  exact ⟨rfl, rfl⟩

set_option maxHeartbeats 400000 in
theorem Week_no (t : Int) (w : World) (h : isT t = false) :
    Calls Tryz.prog 22 #[.int .i64 t] w fun e w' => e = .returned (.tuple #[.int .i64 0, .int .i64 0, .int .i64 7]) ∧ w = w' := by
  go_enter Tryz.func22, Tryz.ntmps22
  go_wp2_with (first | (go_at_call 34; refine (isTime_any _ _).mono ?_; rintro e w' ⟨rfl, rfl⟩; rw [h]))
  go_ret3
  exact ⟨rfl, rfl⟩

/-- Year, number and weekday that OfWeek takes. -/
def owArgs (y k wd : Int) : Bool := isY y && (decide (1 ≤ k) && decide (k ≤ 53) && (decide (1 ≤ wd) && decide (wd ≤ 7)))
def owT (b : Bool) (O : Int) : Int := if b then O * 86400 else 0
def owE (b : Bool) : Int := if b then 0 else 7
/-- The week is one of the year, and its day has a time. -/
def owFits (y k wd : Int) : Bool := decide (wkY (owDay y k wd) = y) && isT (owDay y k wd * 86400)

set_option maxHeartbeats 800000 in
theorem OfWeek_args (y k wd : Int) (w : World) (h : owArgs y k wd = false) :
    Calls Tryz.prog 24 #[.int .i64 y, .int .i64 k, .int .i64 wd] w fun e w' => e = .returned (.tuple #[.int .i64 0, .int .i64 7]) ∧ w = w' := by
  cases hy : isY y
  · go_enter Tryz.func24, Tryz.ntmps24
    go_wp2_with (first | (go_at_call 40; refine (isYear_any _ _).mono ?_; rintro e w' ⟨rfl, rfl⟩; rw [hy]))
    go_ret2
    exact ⟨rfl, rfl⟩
  · have hc : k < 1 ∨ (¬ k < 1 ∧ 53 < k) ∨ (¬ k < 1 ∧ ¬ 53 < k ∧ wd < 1) ∨ (¬ k < 1 ∧ ¬ 53 < k ∧ ¬ wd < 1 ∧ 7 < wd) := by
      unfold owArgs at h
      rw [hy] at h
      simp at h
      omega
    clear h
    rcases hc with h1 | ⟨h1, h2⟩ | ⟨h1, h2, h3⟩ | ⟨h1, h2, h3, h4⟩
    all_goals
      go_enter Tryz.func24, Tryz.ntmps24
      go_wp2_with (first | (go_at_call 40; refine (isYear_any _ _).mono ?_; rintro e w' ⟨rfl, rfl⟩; rw [hy]))
      go_ret2
      exact ⟨rfl, rfl⟩

theorem owDay_bd (y k wd : Int) (hy : 1 ≤ y) (hy2 : y ≤ 9999) (hk : 1 ≤ k) (hk2 : k ≤ 53) (h1 : 1 ≤ wd) (h2 : wd ≤ 7) : -719162 ≤ owDay y k wd ∧ owDay y k wd ≤ 2940000 := by
  have a := dby_mono 1 y hy
  have b := dby_1
  have c := dby_mono y 9999 hy2
  have d : dby 9999 = 3651694 := by decide
  have e : dby y % 7 = dby y % 7 := rfl
  unfold owDay
  rw [dTo_4]
  omega

set_option maxHeartbeats 1600000 in
theorem OfWeek_fits (y k wd : Int) (w : World) (h : owArgs y k wd = true) (b : Bool) (hb : owFits y k wd = b) :
    Calls Tryz.prog 24 #[.int .i64 y, .int .i64 k, .int .i64 wd] w fun e w' => e = .returned (.tuple #[.int .i64 (owT b (owDay y k wd)), .int .i64 (owE b)]) ∧ w = w' := by
  have hy : isY y = true := by
    cases hy : isY y
    · simp [owArgs, hy] at h
    · rfl
  have hyb := isY_iff.1 hy
  obtain ⟨y1, y2⟩ := hyb
  have hr : (1 ≤ k ∧ k ≤ 53) ∧ 1 ≤ wd ∧ wd ≤ 7 := by simpa [owArgs, hy] using h
  obtain ⟨⟨k1, k2⟩, d1, d2⟩ := hr
  have hd := owDay_bd y k wd y1 y2 k1 k2 d1 d2
  obtain ⟨F, hF⟩ : ∃ F, dTo y 1 4 = F := ⟨_, rfl⟩
  have hFb : -719162 ≤ F ∧ F ≤ 2940000 := by
    have a := dby_mono 1 y y1
    have b := dby_1
    have c := dby_mono y 9999 y2
    have d : dby 9999 = 3651694 := by decide
    rw [← hF, dTo_4]
    omega
  have hO : F - ((F + 3) % 7 + 1) + wd + 7 * (k - 1) = owDay y k wd := by rw [← hF]; rfl
  obtain ⟨O, hOO⟩ : ∃ O, owDay y k wd = O := ⟨_, rfl⟩
  have hb' : (decide (wkY O = y) && isT (O * 86400)) = b := by rw [← hOO]; exact hb
  rw [hOO] at hO hd ⊢
  have HF := Lib.hid hF
  have HO := Lib.hid hO
  obtain ⟨f1, f2⟩ := hFb
  obtain ⟨o1, o2⟩ := hd
  obtain ⟨Y, hY⟩ : ∃ Y, wkY O = Y := ⟨_, rfl⟩
  rw [hY] at hb'
  have HY := Lib.hid hY
  clear h hb hF hO hOO hY
  by_cases he : Y = y
  · have HB : Hid (b = isT (O * 86400)) := Lib.hid (by rw [← hb', he]; simp)
    have e1 : (Y == y) = true := by simpa using he
    have e2 : (Y != y) = false := by simpa using he
    clear hb' he
    cases hT : isT (O * 86400)
    all_goals
      rw [hT] at HB
      go_enter Tryz.func24, Tryz.ntmps24
      go_wp2_with (first | (go_at_call 40; refine (isYear_any _ _).mono ?_; rintro e w' ⟨rfl, rfl⟩; rw [hy]) | (go_at_call 54; refine (daysTo_any _ _ _ _ (by omega) (by omega) (by omega) (by omega) (by omega) (by omega)).mono ?_; rintro e w' ⟨rfl, rfl⟩; rw [HF.out]) | (go_at_call 47; refine (weekday_any _ _ (by omega) (by omega)).mono ?_; rintro e w' ⟨rfl, rfl⟩))
      rw [HO.out]
      refine (week_any _ _ (by omega) (by omega)).mono ?_
      rintro e w' ⟨rfl, rfl⟩
      rw [HY.out]
      go_wp2_with (go_at_call 34; refine (isTime_any _ _).mono ?_; rintro e w' ⟨rfl, rfl⟩; rw [hT])
      go_ret2
      exact ⟨by rw [HB.out]; rfl, rfl⟩
  · have HB : Hid (b = false) := Lib.hid (by rw [← hb']; simp [he])
    have e1 : (Y == y) = false := by simpa using he
    have e2 : (Y != y) = true := by simpa using he
    clear hb' he
    go_enter Tryz.func24, Tryz.ntmps24
    go_wp2_with (first | (go_at_call 40; refine (isYear_any _ _).mono ?_; rintro e w' ⟨rfl, rfl⟩; rw [hy]) | (go_at_call 54; refine (daysTo_any _ _ _ _ (by omega) (by omega) (by omega) (by omega) (by omega) (by omega)).mono ?_; rintro e w' ⟨rfl, rfl⟩; rw [HF.out]) | (go_at_call 47; refine (weekday_any _ _ (by omega) (by omega)).mono ?_; rintro e w' ⟨rfl, rfl⟩))
    rw [HO.out]
    refine (week_any _ _ (by omega) (by omega)).mono ?_
    rintro e w' ⟨rfl, rfl⟩
    rw [HY.out]
    go_wp2
    go_ret2
    exact ⟨by rw [HB.out]; rfl, rfl⟩
end Go.Proofs.YtcgabonoddloiaaGreatDoor
