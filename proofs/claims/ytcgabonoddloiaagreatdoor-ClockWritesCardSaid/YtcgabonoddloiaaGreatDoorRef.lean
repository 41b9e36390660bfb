/- The reference's functions: in, leap, whole, length, number, weekday. -/
import Derived.Test.YtcgabonoddloiaaGreatDoorAt
namespace Go.Proofs.YtcgabonoddloiaaGreatDoor
open Go.RowKit Clk

theorem in_any (n lo hi : Int) (w : World) :
    Calls Tryz.prog 42 #[.int .i64 n, .int .i64 lo, .int .i64 hi] w fun e w' => e = .returned (.bool (decide (lo ≤ n) && decide (n ≤ hi))) ∧ w = w' := by
  by_cases h1 : lo ≤ n <;> by_cases h2 : n ≤ hi
  all_goals
    have H : Hid ((decide (lo ≤ n) && decide (n ≤ hi)) = (decide (lo ≤ n) && decide (n ≤ hi))) := Lib.hid rfl
    obtain ⟨b, hb⟩ : ∃ b, (decide (lo ≤ n) && decide (n ≤ hi)) = b := ⟨_, rfl⟩
    rw [hb]
    have Hb := Lib.hid hb
    clear hb H
    go_enter Tryz.func42, Tryz.ntmps42
    go_wp2
    go_ret
    refine ⟨?_, rfl⟩
    rw [← Hb.out]
    simp [h1, h2]
    try omega

/-- Is the year a leap year? -/
def lpB (y : Int) : Bool := decide (lp y = 1)

theorem lp_yes {y : Int} (h : y % 4 = 0 ∧ (y % 100 ≠ 0 ∨ y % 400 = 0)) : lpB y = true := by unfold lpB lp; rw [if_pos h]; rfl
theorem lp_no {y : Int} (h : ¬ (y % 4 = 0 ∧ (y % 100 ≠ 0 ∨ y % 400 = 0))) : lpB y = false := by unfold lpB lp; rw [if_neg h]; rfl

set_option maxHeartbeats 400000 in
theorem refLeap_any (y : Int) (w : World) (h1 : 0 ≤ y) (h2 : y ≤ 100000) :
    Calls Tryz.prog 43 #[.int .i64 y] w fun e w' => e = .returned (.bool (lpB y)) ∧ w = w' := by
  by_cases a : y % 4 = 0
  · by_cases b : y % 100 = 0
    · by_cases c : y % 400 = 0
      · have H := Lib.hid (lp_yes ⟨a, .inr c⟩)
        go_enter Tryz.func43, Tryz.ntmps43
        go_wp2
        go_ret
        exact ⟨by rw [H.out]; rfl, rfl⟩
      · have H := Lib.hid (lp_no (y := y) (by omega))
        go_enter Tryz.func43, Tryz.ntmps43
        go_wp2
        go_ret
        exact ⟨by rw [H.out]; simp [c], rfl⟩
    · have H := Lib.hid (lp_yes ⟨a, .inl b⟩)
      go_enter Tryz.func43, Tryz.ntmps43
      go_wp2
      go_ret
      exact ⟨by rw [H.out]; simp, rfl⟩
  · have H := Lib.hid (lp_no (y := y) (by omega))
    have c : ¬ y % 400 = 0 := by omega
    go_enter Tryz.func43, Tryz.ntmps43
    go_wp2
    go_ret
    exact ⟨by rw [H.out]; simp [c], rfl⟩

theorem lp_of_B {y : Int} {b : Bool} (h : lpB y = b) : lp y = if b then 1 else 0 := by
  have := lp_01 y
  cases b
  · have h2 : ¬ lp y = 1 := by simpa [lpB] using h
    simp; omega
  · have h2 : lp y = 1 := by simpa [lpB] using h
    simpa using h2

set_option maxHeartbeats 400000 in
theorem whole_any (y : Int) (w : World) (h1 : 0 ≤ y) (h2 : y ≤ 100000) :
    Calls Tryz.prog 70 #[.int .i64 y] w fun e w' => e = .returned (.int .i64 (365 + lp y)) ∧ w = w' := by
  cases hb : lpB y
  all_goals
    have H := Lib.hid (lp_of_B hb)
    go_enter Tryz.func70, Tryz.ntmps70
    go_wp2_with (go_at_call 43; refine (refLeap_any _ _ h1 h2).mono ?_; rintro e w' ⟨rfl, rfl⟩; rw [hb])
    go_ret
    exact ⟨by rw [H.out]; rfl, rfl⟩

theorem dim_2 {y : Int} {b : Bool} (h : lpB y = b) : dim y 2 = if b then 29 else 28 := by
  have := lp_of_B h
  unfold dim
  rw [if_pos rfl, this]
  cases b <;> rfl

set_option maxHeartbeats 400000 in
theorem refLength_any (y m : Int) (w : World) (h1 : 0 ≤ y) (h2 : y ≤ 100000) :
    Calls Tryz.prog 45 #[.int .i64 y, .int .i64 m] w fun e w' => e = .returned (.int .i64 (dim y m)) ∧ w = w' := by
  by_cases hm : m = 2
  · subst hm
    cases hb : lpB y
    all_goals
      have H := Lib.hid (dim_2 hb)
      go_enter Tryz.func45, Tryz.ntmps45
      go_wp2_with (go_at_call 43; refine (refLeap_any _ _ h1 h2).mono ?_; rintro e w' ⟨rfl, rfl⟩; rw [hb])
      go_ret
      exact ⟨by rw [H.out]; rfl, rfl⟩
  · by_cases h4 : m = 4 ∨ m = 6 ∨ m = 9 ∨ m = 11
    · have H := Lib.hid (show dim y m = 30 by unfold dim; rw [if_neg hm, if_pos h4])
      rcases h4 with rfl | rfl | rfl | rfl
      all_goals
        go_enter Tryz.func45, Tryz.ntmps45
        go_wp2
        go_ret
        exact ⟨by rw [H.out]; rfl, rfl⟩
    · have H := Lib.hid (show dim y m = 31 by unfold dim; rw [if_neg hm, if_neg h4])
      have a0 : (m == 2) = false := by simpa using hm
      have a1 : (m == 4) = false := by simp; omega
      have a2 : (m == 6) = false := by simp; omega
      have a3 : (m == 9) = false := by simp; omega
      have a4 : (m == 11) = false := by simp; omega
      clear hm h4
      go_enter Tryz.func45, Tryz.ntmps45
      go_wp2
      go_ret
      exact ⟨by rw [H.out]; rfl, rfl⟩

theorem num_split (y m d : Int) : num y m d = dby y + cum y m + (d - 1) := by unfold num; omega

set_option maxHeartbeats 800000 in
set_option maxRecDepth 100000 in
theorem number_any (y m d : Int) (w : World) (y1 : 1 ≤ y) (y2 : y ≤ 100000) (m1 : 1 ≤ m) (m2 : m ≤ 12) (d1 : -100000 ≤ d) (d2 : d ≤ 100000) :
    Calls Tryz.prog 39 #[.int .i64 y, .int .i64 m, .int .i64 d] w fun e w' => e = .returned (.int .i64 (num y m d)) ∧ w = w' := by
  have HN := Lib.hid (num_split y m d)
  have Hc := Lib.hid (cum_1 y)
  have Hd := Lib.hid dby_1
  have dB : ∀ k, 1 ≤ k → k ≤ 100001 → 0 ≤ dby k ∧ dby k ≤ 37000000 := fun k a b => by unfold dby; omega
  have DB := Lib.hid dB
  clear dB
  go_enter Tryz.func39, Tryz.ntmps39
  go_wp2_with fail
  go_loop [7, 8] (fun v7 v8 => ∃ k : Int, 1 ≤ k ∧ k ≤ y ∧ v8 = .int .i64 k ∧ v7 = .int .i64 (dby k + (d - 1))) (fun _ v8 => (y - intOf v8).toNat)
  case atStart => exact ⟨1, by omega, by omega, rfl, by rw [Hd.out]; simp⟩
  case round =>
    obtain ⟨k, k1, k2, rfl, rfl⟩ := hrel
    have hB := DB.out k k1 (by omega)
    have hS := Lib.hid (dby_succ k)
    have hl := lp_01 k
    obtain ⟨N, hN⟩ : ∃ N, dby k = N := ⟨_, rfl⟩
    obtain ⟨l, hl'⟩ : ∃ l, lp k = l := ⟨_, rfl⟩
    rw [hN] at hB
    rw [hl'] at hl
    have HN' := Lib.hid hN
    have HL := Lib.hid hl'
    rw [hN]
    clear hN hl'
    by_cases hlt : k < y
    · go_wp2_with (go_at_call 70; refine (whole_any _ _ (by omega) (by omega)).mono ?_; rintro e w' ⟨rfl, rfl⟩; rw [HL.out])
      go_round
      case rel => exact ⟨k + 1, by omega, by omega, rfl, by rw [hS.out, HN'.out, HL.out]; go_num⟩
      case measure => simp [intOf]; omega
    · obtain rfl : k = y := by omega
      clear hlt
      go_wp2_with fail
      go_loop [7, 9] (fun v7 v9 => ∃ j : Int, 1 ≤ j ∧ j ≤ m ∧ v9 = .int .i64 j ∧ v7 = .int .i64 (N + cum k j + (d - 1))) (fun _ v9 => (m - intOf v9).toNat)
      case atStart => exact ⟨1, by omega, by omega, rfl, by rw [Hc.out]; simp⟩
      case round =>
        obtain ⟨j, j1, j2, rfl, rfl⟩ := hrel
        have hB2 := cum_bd k j
        have hS2 := Lib.hid (cum_succ k j j1 (by omega))
        have hl2 := dim_bd k j
        obtain ⟨C, hC⟩ : ∃ C, cum k j = C := ⟨_, rfl⟩
        obtain ⟨D, hD⟩ : ∃ D, dim k j = D := ⟨_, rfl⟩
        rw [hC] at hB2
        rw [hD] at hl2
        have HC := Lib.hid hC
        have HD := Lib.hid hD
        rw [hC]
        clear hC hD
        by_cases hlt : j < m
        · go_wp2_with (go_at_call 45; refine (refLength_any _ _ _ (by omega) (by omega)).mono ?_; rintro e w' ⟨rfl, rfl⟩; rw [HD.out])
          go_round
          case rel => exact ⟨j + 1, by omega, by omega, rfl, by rw [hS2.out, HC.out, HD.out]; go_num⟩
          case measure => simp [intOf]; omega
        · obtain rfl : j = m := by omega
          go_wp2
          go_ret
          exact ⟨ret_int (by rw [HN.out, HN'.out, HC.out]), rfl⟩

set_option maxHeartbeats 400000 in
theorem refWeekday_any (t : Int) (w : World) (h1 : -62135596800 ≤ t) (h2 : t ≤ 1000000000000) :
    Calls Tryz.prog 49 #[.int .i64 t] w fun e w' => e = .returned (.int .i64 ((t + 62135596800) / 86400 % 7 + 1)) ∧ w = w' := by
  go_enter Tryz.func49, Tryz.ntmps49
  go_wp2
  go_ret
  exact ⟨ret_int (by omega), rfl⟩
end Go.Proofs.YtcgabonoddloiaaGreatDoor
