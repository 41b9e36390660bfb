/- Date, Valid, Time, Leap, Days of the program. -/
import Derived.Test.YtcgabonoddloiaaGreatDoorAt
import Derived.Test.YtcgabonoddloiaaGreatDoorRef
import Derived.Test.YtcgabonoddloiaaGreatDoorHas
import Derived.Deep.LoopGhost
import Derived.Deep.CutBlock
import Derived.Deep.RegionHeld3
namespace Go.Proofs.YtcgabonoddloiaaGreatDoor
open Go.RowKit Clk

set_option maxHeartbeats 800000 in
theorem date_no (t : Int) (w : World) (ht : isT t = false) :
    Calls Tryz.prog 7 #[.int .i64 t] w fun e w' => e = .returned (.tuple #[.agg #[.int .i64 0, .int .i64 0, .int .i64 0, .int .i64 0, .int .i64 0, .int .i64 0], .int .i64 7]) ∧ Below w.heap.size w w' := by
  go_enter Tryz.func7, Tryz.ntmps7
  go_wp2_with (first | (go_at_call 34; refine (isTime_any _ _).mono ?_; rintro e w' ⟨rfl, rfl⟩; rw [ht]))
  refine bodyPost_ret (v := .tuple #[.agg #[.int .i64 0, .int .i64 0, .int .i64 0, .int .i64 0, .int .i64 0, .int .i64 0], .int .i64 7]) ?_ rfl ⟨rfl, ?_⟩
  · simp [results, Tryz.results7, go_sem]
  · exact (Below.refl w.heap.size w).alloc (Nat.le_refl _) _

/-- Is it a date? -/
def vB (y m d h i s : Int) : Bool := decide (1 ≤ y ∧ y ≤ 9999 ∧ 1 ≤ m ∧ m ≤ 12 ∧ 1 ≤ d ∧ d ≤ dim y m ∧ 0 ≤ h ∧ h ≤ 23 ∧ 0 ≤ i ∧ i ≤ 59 ∧ 0 ≤ s ∧ s ≤ 59)

/-- A date comes back just if it is one. -/
theorem back_iff (y m d h i s t Y M D hh ii ss : Int) (y1 : 1 ≤ y) (y2 : y ≤ 9999) (m1 : 1 ≤ m) (m2 : m ≤ 12) (d1 : 0 ≤ d) (h1 : 0 ≤ h) (i1 : 0 ≤ i) (s1 : 0 ≤ s) (ht : t = dTo y m d * 86400 + h * 3600 + i * 60 + s) (A : AtIs t Y M D hh ii ss) :
    vB y m d h i s = true ↔ (Y = y ∧ M = m ∧ D = d ∧ hh = h ∧ ii = i ∧ ss = s) := by
  have hdn := dTo_num y m d m1 m2
  have hnum : num y m d = dby y + cum y m + d - 1 := rfl
  have hd0 := dby_mono 1 y y1
  have hd1 := dby_1
  have hc := cum_bd y m
  obtain ⟨a1, a2, a3, a4, a5, a6⟩ := A
  unfold vB
  rw [decide_eq_true_iff]
  constructor
  · rintro ⟨_, _, _, _, b1, b2, b3, b4, b5, b6, b7, b8⟩
    have e : t / 86400 = dTo y m d := by omega
    have er : t % 86400 = h * 3600 + i * 60 + s := by omega
    obtain ⟨c1, c2, c3⟩ := civ_eq (t / 86400) y m d ⟨y1, m1, m2, b1, b2⟩ (by omega)
    refine ⟨a1.symm.trans c1, a2.symm.trans c2, a3.symm.trans c3, ?_, ?_, ?_⟩
    · rw [← a4, er]; omega
    · rw [← a5, er]; omega
    · rw [← a6, er]; omega
  · rintro ⟨rfl, rfl, rfl, rfl, rfl, rfl⟩
    have hn : -719163 ≤ t / 86400 := by omega
    by_cases h3 : t / 86400 = -719163
    · have : cYear (-719163) = 0 := by decide +kernel
      rw [h3] at a1
      omega
    · obtain ⟨⟨c1, c2, c3, c4, c5⟩, c6⟩ := civ (t / 86400) (by omega)
      rw [a1, a2, a3] at *
      refine ⟨y1, y2, m1, m2, c4, c5, ?_, ?_, ?_, ?_, ?_, ?_⟩ <;> omega

theorem Below.undrew {B : Nat} {w w' : World} (h : Below B w.drew w') : Below B w w' := ⟨h.os, h.tape, h.output, h.size, h.block⟩

theorem eql_date (a0 a1 a2 a3 a4 a5 b0 b1 b2 b3 b4 b5 : Int) (w : World) :
    (binOp .eql 23 (.agg #[.int .i64 a0, .int .i64 a1, .int .i64 a2, .int .i64 a3, .int .i64 a4, .int .i64 a5]) (.agg #[.int .i64 b0, .int .i64 b1, .int .i64 b2, .int .i64 b3, .int .i64 b4, .int .i64 b5])).run Tryz.prog w = .ok (.bool (a0 == b0 && (a1 == b1 && (a2 == b2 && (a3 == b3 && (a4 == b4 && a5 == b5)))))) w := by
  by_cases h0 : a0 = b0
  · by_cases h1 : a1 = b1
    · by_cases h2 : a2 = b2
      · by_cases h3 : a3 = b3
        · by_cases h4 : a4 = b4
          · by_cases h5 : a5 = b5
            · simp [go_sem, h0, h1, h2, h3, h4, h5]
            · simp [go_sem, h0, h1, h2, h3, h4, h5]
          · simp [go_sem, h0, h1, h2, h3, h4]
        · simp [go_sem, h0, h1, h2, h3]
      · simp [go_sem, h0, h1, h2]
    · simp [go_sem, h0, h1]
  · simp [go_sem, h0]

theorem vB_no (y m d h i s : Int) (hn : ¬ (0 ≤ y ∧ y ≤ 9999) ∨ ¬ (0 ≤ m ∧ m ≤ 9999) ∨ ¬ (0 ≤ d ∧ d ≤ 9999) ∨ ¬ (0 ≤ h ∧ h ≤ 9999) ∨ ¬ (0 ≤ i ∧ i ≤ 9999) ∨ ¬ (0 ≤ s ∧ s ≤ 9999) ∨ ¬ (1 ≤ y ∧ 1 ≤ m ∧ m ≤ 12)) : vB y m d h i s = false := by
  have := dim_bd y m
  unfold vB
  rw [decide_eq_false_iff_not]
  omega

set_option maxRecDepth 100000 in
set_option maxHeartbeats 4000000 in
theorem valid_any (y m d h i s : Int) (w : World) :
    Calls Tryz.prog 15 #[.agg #[.int .i64 y, .int .i64 m, .int .i64 d, .int .i64 h, .int .i64 i, .int .i64 s]] w fun e w' => e = .returned (.bool (vB y m d h i s)) ∧ Below w.heap.size w w' := by
  have i0 : ∀ w, (Instr.index 52 (.agg #[.int .i64 y, .int .i64 m, .int .i64 d, .int .i64 h, .int .i64 i, .int .i64 s]) (.int .i64 0)).run Tryz.prog w = .ok (.int .i64 y) w := fun _ => by kernel_rfl
  have i1 : ∀ w, (Instr.index 52 (.agg #[.int .i64 y, .int .i64 m, .int .i64 d, .int .i64 h, .int .i64 i, .int .i64 s]) (.int .i64 1)).run Tryz.prog w = .ok (.int .i64 m) w := fun _ => by kernel_rfl
  have i2 : ∀ w, (Instr.index 52 (.agg #[.int .i64 y, .int .i64 m, .int .i64 d, .int .i64 h, .int .i64 i, .int .i64 s]) (.int .i64 2)).run Tryz.prog w = .ok (.int .i64 d) w := fun _ => by kernel_rfl
  have i3 : ∀ w, (Instr.index 52 (.agg #[.int .i64 y, .int .i64 m, .int .i64 d, .int .i64 h, .int .i64 i, .int .i64 s]) (.int .i64 3)).run Tryz.prog w = .ok (.int .i64 h) w := fun _ => by kernel_rfl
  have i4 : ∀ w, (Instr.index 52 (.agg #[.int .i64 y, .int .i64 m, .int .i64 d, .int .i64 h, .int .i64 i, .int .i64 s]) (.int .i64 4)).run Tryz.prog w = .ok (.int .i64 i) w := fun _ => by kernel_rfl
  have i5 : ∀ w, (Instr.index 52 (.agg #[.int .i64 y, .int .i64 m, .int .i64 d, .int .i64 h, .int .i64 i, .int .i64 s]) (.int .i64 5)).run Tryz.prog w = .ok (.int .i64 s) w := fun _ => by kernel_rfl
  obtain ⟨V, hV⟩ : ∃ V, vB y m d h i s = V := ⟨_, rfl⟩
  rw [hV]
  have HV := Lib.hid hV
  clear hV
  go_enter Tryz.func15, Tryz.ntmps15
  go_wp2_with fail
  go_loopg [4, 18] 6 (fun g v4 v18 wx => ∃ j : Nat, v18 = .int .i64 j ∧ j ≤ 6 ∧ 6 - j ≤ g ∧ (0 < j → 0 ≤ y ∧ y ≤ 9999) ∧ (1 < j → 0 ≤ m ∧ m ≤ 9999) ∧ (2 < j → 0 ≤ d ∧ d ≤ 9999) ∧ (3 < j → 0 ≤ h ∧ h ≤ 9999) ∧ (4 < j → 0 ≤ i ∧ i ≤ 9999) ∧ (5 < j → 0 ≤ s ∧ s ≤ 9999) ∧ wx = w.alloc (.cells #[.int .i64 y, .int .i64 m, .int .i64 d, .int .i64 h, .int .i64 i, .int .i64 s] 23))
  case atStart => exact ⟨0, rfl, by omega, by omega, by omega, by omega, by omega, by omega, by omega, by omega, rfl⟩
  case round =>
    obtain ⟨j, rfl, hj, hjg, q0, q1, q2, q3, q4, q5, rfl⟩ := hrel
    have hc : j = 0 ∨ j = 1 ∨ j = 2 ∨ j = 3 ∨ j = 4 ∨ j = 5 ∨ j = 6 := by omega
    rcases hc with rfl | rfl | rfl | rfl | rfl | rfl | rfl
    · by_cases hp : 0 ≤ y ∧ y ≤ 9999
      · obtain ⟨p0, p1⟩ := hp
        have Q := Lib.hid (And.intro q0 (And.intro q1 (And.intro q2 (And.intro q3 (And.intro q4 q5)))))
        clear q0 q1 q2 q3 q4 q5
        go_wp2_with fail
        obtain ⟨q0, q1, q2, q3, q4, q5⟩ := Q.out
        go_roundg (gk - 1)
        case measure => omega
        case rel => exact ⟨1, rfl, by omega, by omega, by omega, by omega, by omega, by omega, by omega, by omega, rfl⟩
      · have hv := HV.out.symm.trans (vB_no _ _ _ _ _ _ (by omega))
        subst hv
        clear q0 q1 q2 q3 q4 q5
        by_cases hp2 : y < 0
        all_goals
          go_wp2_with fail
          go_ret
          exact ⟨rfl, (Below.refl _ _).alloc (Nat.le_refl _) _⟩
    · by_cases hp : 0 ≤ m ∧ m ≤ 9999
      · obtain ⟨p0, p1⟩ := hp
        have Q := Lib.hid (And.intro q0 (And.intro q1 (And.intro q2 (And.intro q3 (And.intro q4 q5)))))
        clear q0 q1 q2 q3 q4 q5
        go_wp2_with fail
        obtain ⟨q0, q1, q2, q3, q4, q5⟩ := Q.out
        go_roundg (gk - 1)
        case measure => omega
        case rel => exact ⟨2, rfl, by omega, by omega, by omega, by omega, by omega, by omega, by omega, by omega, rfl⟩
      · have hv := HV.out.symm.trans (vB_no _ _ _ _ _ _ (by omega))
        subst hv
        clear q0 q1 q2 q3 q4 q5
        by_cases hp2 : m < 0
        all_goals
          go_wp2_with fail
          go_ret
          exact ⟨rfl, (Below.refl _ _).alloc (Nat.le_refl _) _⟩
    · by_cases hp : 0 ≤ d ∧ d ≤ 9999
      · obtain ⟨p0, p1⟩ := hp
        have Q := Lib.hid (And.intro q0 (And.intro q1 (And.intro q2 (And.intro q3 (And.intro q4 q5)))))
        clear q0 q1 q2 q3 q4 q5
        go_wp2_with fail
        obtain ⟨q0, q1, q2, q3, q4, q5⟩ := Q.out
        go_roundg (gk - 1)
        case measure => omega
        case rel => exact ⟨3, rfl, by omega, by omega, by omega, by omega, by omega, by omega, by omega, by omega, rfl⟩
      · have hv := HV.out.symm.trans (vB_no _ _ _ _ _ _ (by omega))
        subst hv
        clear q0 q1 q2 q3 q4 q5
        by_cases hp2 : d < 0
        all_goals
          go_wp2_with fail
          go_ret
          exact ⟨rfl, (Below.refl _ _).alloc (Nat.le_refl _) _⟩
    · by_cases hp : 0 ≤ h ∧ h ≤ 9999
      · obtain ⟨p0, p1⟩ := hp
        have Q := Lib.hid (And.intro q0 (And.intro q1 (And.intro q2 (And.intro q3 (And.intro q4 q5)))))
        clear q0 q1 q2 q3 q4 q5
        go_wp2_with fail
        obtain ⟨q0, q1, q2, q3, q4, q5⟩ := Q.out
        go_roundg (gk - 1)
        case measure => omega
        case rel => exact ⟨4, rfl, by omega, by omega, by omega, by omega, by omega, by omega, by omega, by omega, rfl⟩
      · have hv := HV.out.symm.trans (vB_no _ _ _ _ _ _ (by omega))
        subst hv
        clear q0 q1 q2 q3 q4 q5
        by_cases hp2 : h < 0
        all_goals
          go_wp2_with fail
          go_ret
          exact ⟨rfl, (Below.refl _ _).alloc (Nat.le_refl _) _⟩
    · by_cases hp : 0 ≤ i ∧ i ≤ 9999
      · obtain ⟨p0, p1⟩ := hp
        have Q := Lib.hid (And.intro q0 (And.intro q1 (And.intro q2 (And.intro q3 (And.intro q4 q5)))))
        clear q0 q1 q2 q3 q4 q5
        go_wp2_with fail
        obtain ⟨q0, q1, q2, q3, q4, q5⟩ := Q.out
        go_roundg (gk - 1)
        case measure => omega
        case rel => exact ⟨5, rfl, by omega, by omega, by omega, by omega, by omega, by omega, by omega, by omega, rfl⟩
      · have hv := HV.out.symm.trans (vB_no _ _ _ _ _ _ (by omega))
        subst hv
        clear q0 q1 q2 q3 q4 q5
        by_cases hp2 : i < 0
        all_goals
          go_wp2_with fail
          go_ret
          exact ⟨rfl, (Below.refl _ _).alloc (Nat.le_refl _) _⟩
    · by_cases hp : 0 ≤ s ∧ s ≤ 9999
      · obtain ⟨p0, p1⟩ := hp
        have Q := Lib.hid (And.intro q0 (And.intro q1 (And.intro q2 (And.intro q3 (And.intro q4 q5)))))
        clear q0 q1 q2 q3 q4 q5
        go_wp2_with fail
        obtain ⟨q0, q1, q2, q3, q4, q5⟩ := Q.out
        go_roundg (gk - 1)
        case measure => omega
        case rel => exact ⟨6, rfl, by omega, by omega, by omega, by omega, by omega, by omega, by omega, by omega, rfl⟩
      · have hv := HV.out.symm.trans (vB_no _ _ _ _ _ _ (by omega))
        subst hv
        clear q0 q1 q2 q3 q4 q5
        by_cases hp2 : s < 0
        all_goals
          go_wp2_with fail
          go_ret
          exact ⟨rfl, (Below.refl _ _).alloc (Nat.le_refl _) _⟩
    · have r0 := q0 (by omega)
      have r1 := q1 (by omega)
      have r2 := q2 (by omega)
      have r3 := q3 (by omega)
      have r4 := q4 (by omega)
      have r5 := q5 (by omega)
      clear q0 q1 q2 q3 q4 q5 i0 i1 i2 i3 i4 i5
      by_cases hg : 1 ≤ y ∧ 1 ≤ m ∧ m ≤ 12
      · obtain ⟨g0, g1, g2⟩ := hg
        obtain ⟨T, hT⟩ : ∃ T, dTo y m d * 86400 + h * 3600 + i * 60 + s = T := ⟨_, rfl⟩
        obtain ⟨Y, M, D, hh, ii, ss, A⟩ := atIs T
        have hbk := back_iff y m d h i s T Y M D hh ii ss g0 (by omega) g1 g2 (by omega) (by omega) (by omega) (by omega) hT.symm A
        obtain ⟨b1, b2⟩ := dTo_bd y m d (by omega) (by omega) g1 g2 (by omega) (by omega)
        have t1 : -10000000000000 ≤ T := by omega
        have hTO := fun w => timeOf_any y m d h i s w (by omega) (by omega) g1 g2 (by omega) (by omega) (by omega) (by omega) (by omega) (by omega) (by omega) (by omega)
        rw [hT] at hTO
        have hE : (Y == y && (M == m && (D == d && (hh == h && (ii == i && ss == s))))) = V := by
          rw [← HV.out, Bool.eq_iff_iff, hbk]
          simp
        have hql := fun w => eql_date Y M D hh ii ss y m d h i s w
        rw [hE] at hql
        have HA := Lib.hid A
        have HTO := Lib.hid hTO
        have HBK := Lib.hid hbk
        have hTb : -1000000000000 ≤ T ∧ T ≤ 1000000000000 := by
          have : dTo y m d ≤ 4000000 := by unfold dTo; split <;> omega
          have : -1000000 ≤ dTo y m d := by unfold dTo; split <;> omega
          omega
        obtain ⟨t2, t3⟩ := hTb
        have k1 : decide (0 < y) = true := by simp; omega
        have k2 : decide (0 < m) = true := by simp; omega
        have k3 : decide (m ≤ 12) = true := by simp; omega
        clear hT A hbk hTO b1 b2 t1 hE
        obtain ⟨B, hB⟩ : ∃ B, w.heap.size = B := ⟨_, rfl⟩
        have hs := Has.new w 23 #[.int .i64 y, .int .i64 m, .int .i64 d, .int .i64 h, .int .i64 i, .int .i64 s]
        have HB := Lib.hid hB
        rw [hB] at hs
        have hbw := (Below.refl B w).alloc (by omega) (.cells #[.int .i64 y, .int .i64 m, .int .i64 d, .int .i64 h, .int .i64 i, .int .i64 s] 23)
        obtain ⟨W, hW⟩ : ∃ W, w.alloc (.cells #[.int .i64 y, .int .i64 m, .int .i64 d, .int .i64 h, .int .i64 i, .int .i64 s] 23) = W := ⟨_, rfl⟩
        rw [hW] at hs hbw
        rw [hW, hB]
        have HBW := Lib.hid hbw
        have hsl := hs.lt
        have c0 : W.cell? ⟨B, 0, none⟩ = some (.int .i64 y) := hs.cell 0
        have c1 : W.cell? ⟨B, 1, none⟩ = some (.int .i64 m) := hs.cell 1
        have c2 : W.cell? ⟨B, 2, none⟩ = some (.int .i64 d) := hs.cell 2
        have c3 : W.cell? ⟨B, 3, none⟩ = some (.int .i64 h) := hs.cell 3
        have c4 : W.cell? ⟨B, 4, none⟩ = some (.int .i64 i) := hs.cell 4
        have c5 : W.cell? ⟨B, 5, none⟩ = some (.int .i64 s) := hs.cell 5
        clear hW hB hs hbw
        go_wp2_with fail
        go_region_held3 (fun w' => w'.cell? ⟨B, 0, none⟩ = some (.int .i64 y) ∧ w'.cell? ⟨B, 1, none⟩ = some (.int .i64 m) ∧ w'.cell? ⟨B, 2, none⟩ = some (.int .i64 d) ∧ w'.cell? ⟨B, 3, none⟩ = some (.int .i64 h) ∧ w'.cell? ⟨B, 4, none⟩ = some (.int .i64 i) ∧ w'.cell? ⟨B, 5, none⟩ = some (.int .i64 s))
          (first
            | (go_split_ands; exact ⟨c0, c1, c2, c3, c4, c5⟩)
            | (go_split_ands; refine ⟨?_, ?_, ?_, ?_, ?_, ?_⟩ <;> first | exact ((hb2.cell (p := ⟨B, _, none⟩) (Nat.lt_of_lt_of_le hsl hb1.size)).trans ((hb1.cell (p := ⟨B, _, none⟩) hsl).trans (by assumption))) | exact ((hb1.cell (p := ⟨B, _, none⟩) hsl).trans (by assumption))))
          (first | (go_at_call 38; refine (HTO.out _).mono ?_; rintro e w1 ⟨rfl, hb1⟩) | (go_at_call 35; refine (at_any _ _ _ _ _ _ _ _ HA.out (by omega) (by omega)).mono ?_; rintro e w2 ⟨rfl, hb2⟩))
        go_wp2
        go_ret
        refine ⟨rfl, ?_⟩
        rw [HB.out]
        exact (HBW.out.trans ((Below.undrew hb1).mono (Nat.le_of_lt hsl))).trans (hb2.mono (by have := hb1.size; have h9 : W.drew.heap.size = W.heap.size := rfl; omega))
      · have hv := HV.out.symm.trans (vB_no _ _ _ _ _ _ (by omega))
        subst hv
        by_cases g0 : 0 < y
        · by_cases g1 : 0 < m
          · have k3 : decide (m ≤ 12) = false := by simp; omega
            have k1 : decide (0 < y) = true := by simpa using g0
            have k2 : decide (0 < m) = true := by simpa using g1
            clear hg r0 r1 r2 r3 r4 r5
            go_wp2_with fail
            go_quiet (fail)
            go_wp2
            go_ret
            exact ⟨rfl, Below.drewN' ((Below.refl _ _).alloc (Nat.le_refl _) _) _⟩
          · have k2 : decide (0 < m) = false := by simpa using g1
            have k1 : decide (0 < y) = true := by simpa using g0
            clear hg r0 r1 r2 r3 r4 r5
            go_wp2_with fail
            go_quiet (fail)
            go_wp2
            go_ret
            exact ⟨rfl, Below.drewN' ((Below.refl _ _).alloc (Nat.le_refl _) _) _⟩
        · have k1 : decide (0 < y) = false := by simpa using g0
          clear hg r0 r1 r2 r3 r4 r5
          go_wp2_with fail
          go_quiet (fail)
          go_wp2
          go_ret
          exact ⟨rfl, Below.drewN' ((Below.refl _ _).alloc (Nat.le_refl _) _) _⟩
end Go.Proofs.YtcgabonoddloiaaGreatDoor
