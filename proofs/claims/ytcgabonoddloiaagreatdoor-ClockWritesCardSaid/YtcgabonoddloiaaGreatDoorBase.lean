/- The arithmetic functions of the clock layer: floor, isTime, isYear, daysTo, dateOf. -/
import Derived.Test.YtcgabonoddloiaaGreatDoorRows
import Derived.Test.YtcgabonoddloiaaGreatDoorCal
import Derived.WalkKit
import Derived.WalkSpells
import Derived.WalkLawsBesides
import Derived.BigQuiet
import Derived.Deep.QuietTactic
import Derived.Lib.Hide
import Derived.IntWalk
import Derived.Outline
namespace Go.Proofs.YtcgabonoddloiaaGreatDoor
open Go.RowKit Clk

theorem ret_int {k : IntKind} {a b : Int} (h : a = b) : Ending.returned (.int k a) = .returned (.int k b) := by rw [h]

theorem tdiv_lo (a b : Int) (hb : 0 < b) (h : a.tmod b < 0) : a.tdiv b - 1 = a / b ∧ -1000000000000000 ≤ a / b ∨ a < -1000000000000000 := by
  have e1 := Int.tmod_add_mul_tdiv a b
  have e2 := Int.emod_add_mul_ediv a b
  have e3 := Int.emod_nonneg a (by omega : b ≠ 0)
  have e4 := Int.emod_lt_of_pos a hb
  have e5 : -b < a.tmod b := by have := Int.lt_tmod_of_pos a hb; omega
  by_cases hl : a < -1000000000000000
  · exact .inr hl
  · refine .inl ⟨?_, ?_⟩
    · have e6 : b * (a.tdiv b - 1 - a / b) = a % b - a.tmod b - b := by rw [Int.mul_sub, Int.mul_sub]; omega
      have e7 : b * (a.tdiv b - 1 - a / b) < b * 1 := by omega
      have e8 : b * (-1) < b * (a.tdiv b - 1 - a / b) := by omega
      have e9 := Int.lt_of_mul_lt_mul_left e7 (by omega)
      have e10 := Int.lt_of_mul_lt_mul_left e8 (by omega)
      omega
    · have : -1000000000000000 / b ≤ a / b := Int.ediv_le_ediv hb (by omega)
      have h2 : (-1000000000000000 : Int) ≤ -1000000000000000 / b := by
        have e11 := Int.emod_add_mul_ediv (-1000000000000000) b
        have e12 := Int.emod_lt_of_pos (-1000000000000000) hb
        rw [Int.le_ediv_iff_mul_le hb]
        have := Int.mul_le_mul_of_nonneg_left (show (1 : Int) ≤ b by omega) (show (0 : Int) ≤ 1000000000000000 by omega)
        omega
      omega

theorem tdiv_hi (a b : Int) (hb : 0 < b) (h : 0 ≤ a.tmod b) : a.tdiv b = a / b := by
  have e1 := Int.tmod_add_mul_tdiv a b
  have e2 := Int.emod_add_mul_ediv a b
  have e3 := Int.emod_nonneg a (by omega : b ≠ 0)
  have e4 := Int.emod_lt_of_pos a hb
  have e5 : a.tmod b < b := Int.tmod_lt_of_pos a hb
  have e6 : b * (a.tdiv b - a / b) = a % b - a.tmod b := by rw [Int.mul_sub]; omega
  have e7 : b * (a.tdiv b - a / b) < b * 1 := by omega
  have e8 : b * (-1) < b * (a.tdiv b - a / b) := by omega
  have e9 := Int.lt_of_mul_lt_mul_left e7 (by omega)
  have e10 := Int.lt_of_mul_lt_mul_left e8 (by omega)
  omega

set_option maxHeartbeats 400000 in
theorem floor_any (a b : Int) (w : World) (hb : 0 < b) (hb2 : b ≤ 1000000000) (h1 : -1000000000000000 ≤ a) (h2 : a ≤ 1000000000000000) :
    Calls Tryz.prog 48 #[.int .i64 a, .int .i64 b] w fun e w' => e = .returned (.int .i64 (a / b)) ∧ w = w' := by
  have H1 := tdiv_lo a b hb
  have H2 := tdiv_hi a b hb
  have hq : a / b ≤ 1000000000000000 := by
    have h3 := Int.ediv_le_ediv hb h2
    have h4 : (1000000000000000 : Int) / b ≤ 1000000000000000 := Int.ediv_le_self _ (by omega)
    omega
  by_cases hr : a.tmod b < 0
  · have hs : a.tdiv b - 1 = a / b ∧ -1000000000000000 ≤ a / b := by
      rcases H1 hr with h | h
      · exact h
      · omega
    have hA : -1000000000000000 ≤ a.tdiv b - 1 := by omega
    have hB : a.tdiv b - 1 ≤ 1000000000000000 := by omega
    have HS := Lib.hid hs
    clear H1 H2 hq hs
    go_enter Tryz.func48, Tryz.ntmps48
    go_wp2
    go_ret
    exact ⟨ret_int HS.out.1, rfl⟩
  · have HS := Lib.hid (H2 (by omega))
    clear H1 H2 hq
    go_enter Tryz.func48, Tryz.ntmps48
    go_wp2
    go_ret
    exact ⟨ret_int HS.out, rfl⟩

/-- The first and the last time. -/
def isT (t : Int) : Bool := decide (-62135596800 ≤ t) && decide (t ≤ 253402300799)
def isY (y : Int) : Bool := decide (1 ≤ y) && decide (y ≤ 9999)
theorem isT_iff {t : Int} : isT t = true ↔ -62135596800 ≤ t ∧ t ≤ 253402300799 := by simp [isT]
theorem isY_iff {t : Int} : isY t = true ↔ 1 ≤ t ∧ t ≤ 9999 := by simp [isY]

theorem isTime_any (t : Int) (w : World) :
    Calls Tryz.prog 34 #[.int .i64 t] w fun e w' => e = .returned (.bool (isT t)) ∧ w = w' := by
  by_cases h1 : -62135596800 ≤ t <;> by_cases h2 : t ≤ 253402300799
  all_goals
    have H : Hid (isT t = (decide (-62135596800 ≤ t) && decide (t ≤ 253402300799))) := Lib.hid rfl
    go_enter Tryz.func34, Tryz.ntmps34
    go_wp2
    go_ret
    refine ⟨?_, rfl⟩
    rw [H.out]
    simp [h1, h2]
    try omega

theorem isYear_any (t : Int) (w : World) :
    Calls Tryz.prog 40 #[.int .i64 t] w fun e w' => e = .returned (.bool (isY t)) ∧ w = w' := by
  by_cases h1 : 1 ≤ t <;> by_cases h2 : t ≤ 9999
  all_goals
    have H : Hid (isY t = (decide (1 ≤ t) && decide (t ≤ 9999))) := Lib.hid rfl
    go_enter Tryz.func40, Tryz.ntmps40
    go_wp2
    go_ret
    refine ⟨?_, rfl⟩
    rw [H.out]
    simp [h1, h2]
    try omega

set_option maxHeartbeats 800000 in
theorem daysTo_any (y m d : Int) (w : World) (y1 : -100000 ≤ y) (y2 : y ≤ 100000) (m1 : 1 ≤ m) (m2 : m ≤ 12) (d1 : -100000 ≤ d) (d2 : d ≤ 100000) :
    Calls Tryz.prog 54 #[.int .i64 y, .int .i64 m, .int .i64 d] w fun e w' => e = .returned (.int .i64 (dTo y m d)) ∧ w = w' := by
  by_cases h : m ≤ 2
  · have H : Hid (dTo y m d = (y - 1) * 365 + (y - 1) / 4 - (y - 1) / 100 + (y - 1) / 400 + ((153 * ((m + 9) % 12) + 2) / 5 + d - 1) - 719468) := Lib.hid (by unfold dTo; rw [if_pos h])
    go_enter Tryz.func54, Tryz.ntmps54
    go_wp2_with (go_at_call 48; refine (floor_any _ _ _ (by omega) (by omega) (by omega) (by omega)).mono ?_; rintro e w' ⟨rfl, rfl⟩)
    go_ret
    exact ⟨ret_int (by rw [H.out]), rfl⟩
  · have H : Hid (dTo y m d = y * 365 + y / 4 - y / 100 + y / 400 + ((153 * ((m + 9) % 12) + 2) / 5 + d - 1) - 719468) := Lib.hid (by unfold dTo; rw [if_neg h])
    go_enter Tryz.func54, Tryz.ntmps54
    go_wp2_with (go_at_call 48; refine (floor_any _ _ _ (by omega) (by omega) (by omega) (by omega)).mono ?_; rintro e w' ⟨rfl, rfl⟩)
    go_ret
    exact ⟨ret_int (by rw [H.out]), rfl⟩

theorem y_bd (r : Int) (h0 : 0 ≤ r) (h1 : r ≤ 146096) : 0 ≤ r - r / 1460 + r / 36524 - r / 146096 := by omega

set_option maxHeartbeats 1600000 in
theorem dateOf_any (n : Int) (w : World) (n1 : -100000000 ≤ n) (n2 : n ≤ 100000000) :
    Calls Tryz.prog 69 #[.int .i64 n] w fun e w' => e = .returned (.tuple #[.int .i64 (cYear n), .int .i64 (cMonth n), .int .i64 (cDay n)]) ∧ w = w' := by
  obtain ⟨E, hE⟩ : ∃ E, (n + 719468) / 146097 = E := ⟨_, rfl⟩
  have hR : cR n = n + 719468 - E * 146097 := by unfold cR; omega
  obtain ⟨b1, b2⟩ := cR_bd n
  obtain ⟨y0, y1, q0, q1, -⟩ := yoe_doy (cR n) b1 b2
  have m0 := mp_bd _ q0 q1
  have yb := y_bd _ b1 b2
  have e1 : -1000 ≤ E := by omega
  have e2 : E ≤ 1000 := by omega
  have HY : Hid (cYear n = E * 400 + yoe (cR n) + if cMonth n ≤ 2 then 1 else 0) := Lib.hid (by unfold cYear; rw [hE])
  have HM : Hid (cMonth n = (mp (doy (cR n)) + 2) % 12 + 1) := Lib.hid rfl
  have HD : Hid (cDay n = doy (cR n) - (153 * mp (doy (cR n)) + 2) / 5 + 1) := Lib.hid rfl
  have HE := Lib.hid hE
  obtain ⟨r, hr⟩ : ∃ r, n + 719468 - E * 146097 = r := ⟨_, rfl⟩
  have Hr := Lib.hid (hR.trans hr)
  rw [hR.trans hr] at b1 b2 y0 y1 q0 q1 m0 yb
  obtain ⟨y, hy⟩ : ∃ y, (r - r / 1460 + r / 36524 - r / 146096) / 365 = y := ⟨_, rfl⟩
  have ey : yoe r = y := hy
  have Hy := Lib.hid ey
  obtain ⟨q, hq⟩ : ∃ q, r - (365 * y + y / 4 - y / 100) = q := ⟨_, rfl⟩
  have eq : doy r = q := by unfold doy; rw [ey]; exact hq
  have Hq := Lib.hid eq
  obtain ⟨p, hp⟩ : ∃ p, (5 * q + 2) / 153 = p := ⟨_, rfl⟩
  have ep : mp q = p := hp
  have Hp := Lib.hid ep
  rw [ey] at y0 y1
  rw [eq] at q0 q1 m0
  rw [ep] at m0
  obtain ⟨p0, p1⟩ := m0
  clear hE hR ey eq ep
  by_cases hm : (p + 2) % 12 + 1 ≤ 2
  all_goals
    go_enter Tryz.func69, Tryz.ntmps69
    go_wp2_with (go_at_call 48; refine (floor_any _ _ _ (by omega) (by omega) (by omega) (by omega)).mono ?_; rintro e w' ⟨rfl, rfl⟩; rw [HE.out])
    go_ret3
    refine ⟨?_, rfl⟩
    rw [HY.out, HM.out, HD.out, Hr.out, Hy.out, Hq.out, Hp.out]
    first | (rw [if_pos hm]; try rfl) | (rw [if_neg (by omega), Int.add_zero]; try rfl)
end Go.Proofs.YtcgabonoddloiaaGreatDoor
