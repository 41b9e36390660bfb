/- Date, Valid, Time, Leap, Days of the program. -/
import Derived.Test.YtcgabonoddloiaaDoorAt
import Derived.Test.YtcgabonoddloiaaDoorRef
import Derived.Test.YtcgabonoddloiaaDoorHas
import Derived.Deep.LoopGhost
import Derived.Deep.CutBlock
import Derived.Deep.RegionHeld3
namespace Go.Proofs.YtcgabonoddloiaaDoor
open Go.RowKit Clk

set_option maxHeartbeats 800000 in
theorem date_no (t : Int) (w : World) (ht : isT t = false) :
    Calls Tryd.prog 6 #[.int .i64 t] w fun e w' => e = .returned (.tuple #[.agg #[.int .i64 0, .int .i64 0, .int .i64 0, .int .i64 0, .int .i64 0, .int .i64 0], .int .i64 7]) ∧ Below w.heap.size w w' := by
  go_enter Tryd.func6, Tryd.ntmps6
  go_wp2_with (first | (go_at_call 13; refine (isTime_any _ _).mono ?_; rintro e w' ⟨rfl, rfl⟩; rw [ht]))
  refine bodyPost_ret (v := .tuple #[.agg #[.int .i64 0, .int .i64 0, .int .i64 0, .int .i64 0, .int .i64 0, .int .i64 0], .int .i64 7]) ?_ rfl ⟨rfl, ?_⟩
  · simp [results, Tryd.results6, go_sem]
  · exact (Below.refl w.heap.size w).alloc (Nat.le_refl _) _

/-- Is it a date? -/
def vB (y m d h i s : Int) : Bool := decide (1 ≤ y ∧ y ≤ 9999 ∧ 1 ≤ m ∧ m ≤ 12 ∧ 1 ≤ d ∧ d ≤ dim y m ∧ 0 ≤ h ∧ h ≤ 23 ∧ 0 ≤ i ∧ i ≤ 59 ∧ 0 ≤ s ∧ s ≤ 59)

/-- A date comes back just if it is one. -/
theorem back_iff (y m d h i s t Y M D hh ii ss : Int) (y1 : 1 ≤ y) (y2 : y ≤ 9999) (m1 : 1 ≤ m) (m2 : m ≤ 12) (d1 : 0 ≤ d) (h1 : 0 ≤ h) (i1 : 0 ≤ i) (s1 : 0 ≤ s) (ht : t = dTo y m d * 86400 + h * 3600 + i * 60 + s) (A : AtIs t Y M D hh ii ss) :
    vB y m d h i s = true ↔ (Y = y ∧ M = m ∧ D = d ∧ hh = h ∧ ii = i ∧ ss = s) := by
  have hdn := dTo_num y m d m1 m2
  have hnum : num y m d = dby y + cum y m + d - 1 := rfl
  have hd0 := dby_mono 1 y y1
  have hd1 := dby_1
  have hc := cum_bd y m
  obtain ⟨a1, a2, a3, a4, a5, a6⟩ := A
  unfold vB
  rw [decide_eq_true_iff]
  constructor
  · rintro ⟨_, _, _, _, b1, b2, b3, b4, b5, b6, b7, b8⟩
    have e : t / 86400 = dTo y m d := by omega
    have er : t % 86400 = h * 3600 + i * 60 + s := by omega
    obtain ⟨c1, c2, c3⟩ := civ_eq (t / 86400) y m d ⟨y1, m1, m2, b1, b2⟩ (by omega)
    refine ⟨a1.symm.trans c1, a2.symm.trans c2, a3.symm.trans c3, ?_, ?_, ?_⟩
    · rw [← a4, er]; omega
    · rw [← a5, er]; omega
    · rw [← a6, er]; omega
  · rintro ⟨rfl, rfl, rfl, rfl, rfl, rfl⟩
    have hn : -719163 ≤ t / 86400 := by omega
    by_cases h3 : t / 86400 = -719163
    · have : cYear (-719163) = 0 := by decide +kernel
      rw [h3] at a1
      omega
    · obtain ⟨⟨c1, c2, c3, c4, c5⟩, c6⟩ := civ (t / 86400) (by omega)
      rw [a1, a2, a3] at *
      refine ⟨y1, y2, m1, m2, c4, c5, ?_, ?_, ?_, ?_, ?_, ?_⟩ <;> omega

theorem Below.undrew {B : Nat} {w w' : World} (h : Below B w.drew w') : Below B w w' := ⟨h.os, h.tape, h.output, h.size, h.block⟩

theorem eql_date (a0 a1 a2 a3 a4 a5 b0 b1 b2 b3 b4 b5 : Int) (w : World) :
    (binOp .eql 24 (.agg #[.int .i64 a0, .int .i64 a1, .int .i64 a2, .int .i64 a3, .int .i64 a4, .int .i64 a5]) (.agg #[.int .i64 b0, .int .i64 b1, .int .i64 b2, .int .i64 b3, .int .i64 b4, .int .i64 b5])).run Tryd.prog w = .ok (.bool (a0 == b0 && (a1 == b1 && (a2 == b2 && (a3 == b3 && (a4 == b4 && a5 == b5)))))) w := by
  by_cases h0 : a0 = b0
  · by_cases h1 : a1 = b1
    · by_cases h2 : a2 = b2
      · by_cases h3 : a3 = b3
        · by_cases h4 : a4 = b4
          · by_cases h5 : a5 = b5
            · simp [go_sem, h0, h1, h2, h3, h4, h5]
            · simp [go_sem, h0, h1, h2, h3, h4, h5]
          · simp [go_sem, h0, h1, h2, h3, h4]
        · simp [go_sem, h0, h1, h2, h3]
      · simp [go_sem, h0, h1, h2]
    · simp [go_sem, h0, h1]
  · simp [go_sem, h0]

theorem vB_no (y m d h i s : Int) (hn : ¬ (0 ≤ y ∧ y ≤ 9999) ∨ ¬ (0 ≤ m ∧ m ≤ 9999) ∨ ¬ (0 ≤ d ∧ d ≤ 9999) ∨ ¬ (0 ≤ h ∧ h ≤ 9999) ∨ ¬ (0 ≤ i ∧ i ≤ 9999) ∨ ¬ (0 ≤ s ∧ s ≤ 9999) ∨ ¬ (1 ≤ y ∧ 1 ≤ m ∧ m ≤ 12)) : vB y m d h i s = false := by
  have := dim_bd y m
  unfold vB
  rw [decide_eq_false_iff_not]
  omega

end Go.Proofs.YtcgabonoddloiaaDoor
