/- The weeks of the calendar in plain mathematics: the day of the year, a week's Thursday, its year and number. -/
import Derived.Test.YtcgabonoddloiaaGreatDoorCal
namespace Clk

/-- The day of the year of a day's number (from 1970). -/
def yday (n : Int) : Int := n - dTo (cYear n) 1 1 + 1
/-- The Thursday of its week. -/
def thu (n : Int) : Int := n - ((n + 3) % 7 + 1) + 4
def wkY (n : Int) : Int := cYear (thu n)
def wkN (n : Int) : Int := (yday (thu n) - 1) / 7 + 1

theorem dTo_jan (y : Int) : dTo y 1 1 = dby y - 719162 := by
  rw [dTo_num y 1 1 (by omega) (by omega)]
  unfold num
  rw [cum_1]
  omega
theorem yday_eq (n : Int) : yday n = n + 719162 - dby (cYear n) + 1 := by unfold yday; rw [dTo_jan]; omega
/-- A day lies in its year. -/
theorem cYear_in (n : Int) (h : -719162 ≤ n) : 1 ≤ cYear n ∧ dby (cYear n) ≤ n + 719162 ∧ n + 719162 < dby (cYear n + 1) := by
  obtain ⟨a, b⟩ := civ n h
  have c := num_lo a
  have d := num_hi a
  exact ⟨a.1, by omega, by omega⟩
theorem cYear_of (n y : Int) (h : -719162 ≤ n) (h1 : dby y ≤ n + 719162) (h2 : n + 719162 < dby (y + 1)) : cYear n = y := by
  obtain ⟨_, b, c⟩ := cYear_in n h
  have k1 : ¬ cYear n + 1 ≤ y := fun hh => by have := dby_mono _ _ hh; omega
  have k2 : ¬ y + 1 ≤ cYear n := fun hh => by have := dby_mono _ _ hh; omega
  omega
theorem yday_bd (n : Int) (h : -719162 ≤ n) : 1 ≤ yday n ∧ yday n ≤ 366 := by
  obtain ⟨a, b, c⟩ := cYear_in n h
  have d := dby_succ (cYear n)
  have e := lp_01 (cYear n)
  rw [yday_eq]
  omega
theorem dby_ge (y : Int) (h : 1 ≤ y) : 365 * (y - 1) ≤ dby y := by unfold dby; omega
theorem cYear_bd (n : Int) (h : -719162 ≤ n) (h2 : n ≤ 4000000) : 1 ≤ cYear n ∧ cYear n ≤ 20000 := by
  obtain ⟨a, b, c⟩ := cYear_in n h
  have := dby_ge _ a
  omega
theorem thu_bd (n : Int) : n - 3 ≤ thu n ∧ thu n ≤ n + 3 := by unfold thu; omega
theorem thu_lo (n : Int) (h : -719162 ≤ n) : -719159 ≤ thu n := by unfold thu; omega

/-- The day of a weekday in a week of a year, as the program reckons it. -/
def owDay (y k wd : Int) : Int := dTo y 1 4 - ((dTo y 1 4 + 3) % 7 + 1) + wd + 7 * (k - 1)
theorem dTo_4 (y : Int) : dTo y 1 4 = dby y - 719159 := by
  rw [dTo_num y 1 4 (by omega) (by omega)]
  unfold num
  rw [cum_1]
  omega
theorem dTo_28 (y : Int) : num y 12 28 = dby y + 361 + lp y := by
  unfold num cum
  simp
  omega
theorem num_4 (y : Int) : num y 1 4 = dby y + 3 := by unfold num; rw [cum_1]; omega
/-- The Thursday of the k-th week. -/
theorem ow_thu (y k wd : Int) (h1 : 1 ≤ wd) (h2 : wd ≤ 7) : thu (owDay y k wd) = owDay y k 4 ∧ (owDay y k wd + 3) % 7 + 1 = wd := by
  unfold thu owDay
  omega
theorem ow_thu_lo (y k : Int) : dby y - 719162 + 7 * (k - 1) ≤ owDay y k 4 ∧ owDay y k 4 ≤ dby y - 719156 + 7 * (k - 1) := by
  unfold owDay
  rw [dTo_4]
  omega
/-- The number of the last week: that of December 28. -/
theorem last_week (y : Int) (hy : 1 ≤ y) : ∃ K : Int, wkN (num y 12 28 - 719162) = K ∧ 52 ≤ K ∧ K ≤ 53 ∧ owDay y K 4 + 719162 < dby (y + 1) ∧ dby (y + 1) ≤ owDay y (K + 1) 4 + 719162 := by
  have hd := dby_succ y
  have hl := lp_01 y
  have h1 := dby_mono 1 y hy
  have h0 := dby_1
  obtain ⟨n, hn⟩ : ∃ n, num y 12 28 - 719162 = n := ⟨_, rfl⟩
  have en : n = dby y + 361 + lp y - 719162 := by rw [← hn, dTo_28]
  obtain ⟨T, hT⟩ : ∃ T, thu n = T := ⟨_, rfl⟩
  have hT' : T = n - ((n + 3) % 7 + 1) + 4 := hT.symm
  have hTc : cYear T = y := cYear_of T y (by omega) (by omega) (by omega)
  have e1 : wkN n = (T + 719162 - dby y) / 7 + 1 := by
    unfold wkN
    rw [hT, yday_eq, hTc]
    omega
  refine ⟨(T + 719162 - dby y) / 7 + 1, by rw [hn]; exact e1, ?_⟩
  clear e1 hTc hT hn
  unfold owDay
  rw [dTo_4]
  generalize dby y = D at *
  generalize dby (y + 1) = E at *
  generalize lp y = l at *
  omega
/-- The week of that day, while the week is one of the year. -/
theorem ow_week (y k wd : Int) (hy : 1 ≤ y) (h1 : 1 ≤ wd) (h2 : wd ≤ 7) (hk : 1 ≤ k) : wkY (owDay y k wd) = y ↔ k ≤ wkN (num y 12 28 - 719162) := by
  obtain ⟨K, hK, k1, k2, k3, k4⟩ := last_week y hy
  rw [hK]
  unfold wkY
  rw [(ow_thu y k wd h1 h2).1]
  obtain ⟨b1, b2⟩ := ow_thu_lo y k
  have h1 := dby_mono 1 y hy
  have h0 := dby_1
  have e1 : owDay y k 4 = owDay y 1 4 + 7 * (k - 1) := by unfold owDay; omega
  have e2 : owDay y K 4 = owDay y 1 4 + 7 * (K - 1) := by unfold owDay; omega
  have e3 : owDay y (K + 1) 4 = owDay y 1 4 + 7 * K := by unfold owDay; omega
  rw [e2] at k3
  rw [e3] at k4
  constructor
  · intro hc
    obtain ⟨c1, c2, c3⟩ := cYear_in (owDay y k 4) (by omega)
    rw [hc] at c2 c3
    omega
  · intro hle
    refine cYear_of _ y (by omega) (by omega) (by omega)
/-- The day again, out of its week. -/
theorem ow_back (n : Int) (h : -719162 ≤ n) : owDay (wkY n) (wkN n) ((n + 3) % 7 + 1) = n := by
  have ht := thu_lo n h
  obtain ⟨c1, c2, c3⟩ := cYear_in (thu n) (by omega)
  have e := yday_eq (thu n)
  unfold wkN wkY
  rw [e]
  unfold owDay
  rw [dTo_4]
  have hs := dby_succ (cYear (thu n))
  have hl := lp_01 (cYear (thu n))
  have hth : thu n = n - ((n + 3) % 7 + 1) + 4 := rfl
  clear e
  generalize dby (cYear (thu n)) = D at *
  generalize dby (cYear (thu n) + 1) = E at *
  generalize lp (cYear (thu n)) = l at *
  generalize thu n = T at *
  omega
theorem wkN_bd (n : Int) (h : -719162 ≤ n) : 1 ≤ wkN n ∧ wkN n ≤ 53 := by
  have := yday_bd (thu n) (by have := thu_lo n h; omega)
  unfold wkN
  omega
theorem wkY_bd (n : Int) (h : -719162 ≤ n) (h2 : n ≤ 2932896) : 1 ≤ wkY n ∧ wkY n ≤ 9999 := by
  have ht := thu_lo n h
  obtain ⟨c1, c2, c3⟩ := cYear_in (thu n) (by omega)
  refine ⟨c1, ?_⟩
  by_cases hh : cYear (thu n) ≤ 9999
  · exact hh
  · exfalso
    have k2 := dby_mono 10000 (cYear (thu n)) (by omega)
    have k3 : dby 10000 = 3652059 := by decide
    unfold thu at *
    omega
end Clk
