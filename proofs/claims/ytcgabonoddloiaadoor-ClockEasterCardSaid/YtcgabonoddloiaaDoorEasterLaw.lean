/- ClockEaster answers true, for every year. -/
import Derived.Test.YtcgabonoddloiaaDoorAwake
import Derived.Test.YtcgabonoddloiaaDoorRefEaster
namespace Go.Proofs.YtcgabonoddloiaaDoor
open Go.RowKit Clk

theorem es_facts (y : Int) (h1 : 1 ≤ y) (h2 : y ≤ 9999) : ∃ m d : Int, (m = 3 ∧ 22 ≤ d ∨ m = 4 ∧ d ≤ 25) ∧ 1 ≤ d ∧ d ≤ 31 ∧ (erNum y - 719162) * 86400 = esNum y * 86400 ∧ isT (esNum y * 86400) = true ∧ (esNum y * 86400 / 86400 + 3) % 7 + 1 = 7 ∧ AtIs (esNum y * 86400) y m d 0 0 0 := by
  obtain ⟨a, b, c⟩ := es_of y h1 h2
  have hd31 : 0 ≤ esDay y ∧ esDay y ≤ 31 := mod_bd _ 32 (by decide)
  have hm : 1 ≤ esMonth y ∧ esMonth y ≤ 12 := by omega
  have hn : esNum y = erNum y - 719162 := by unfold esNum; rw [dTo_num _ _ _ hm.1 hm.2, a]
  have hday : IsDay y (esMonth y) (esDay y) := by
    refine ⟨h1, hm.1, hm.2, by omega, ?_⟩
    rcases c with ⟨c1, c2⟩ | ⟨⟨c1, c2⟩, c3⟩
    · rw [c1, show dim y 3 = 31 from rfl]; omega
    · rw [c1, show dim y 4 = 30 from rfl]; omega
  have hciv := civ_eq (esNum y) y (esMonth y) (esDay y) hday (by omega)
  have hlo := num_lo hday
  have hhi := num_hi hday
  have d1 := dby_mono 1 y h1
  have d2 := dby_mono (y + 1) 10000 (by omega)
  have d3 := dby_1
  have d4 : dby 10000 = 3652059 := by decide
  have e : esNum y * 86400 / 86400 = esNum y := by omega
  refine ⟨esMonth y, esDay y, ?_, ?_, hd31.2, by rw [hn], isT_iff.2 (by omega), by rw [e]; omega, ?_⟩
  · rcases c with ⟨c1, c2⟩ | ⟨⟨c1, c2⟩, c3⟩
    · exact .inl ⟨c1, c2⟩
    · exact .inr ⟨c1, c3⟩
  · omega
  · exact ⟨by rw [e]; exact hciv.1, by rw [e]; exact hciv.2.1, by rw [e]; exact hciv.2.2, by omega, by omega, by omega⟩

set_option maxRecDepth 100000 in
set_option maxHeartbeats 4000000 in
theorem easterLaw_any (y : Int) (w : World) (hP : Pow w.heap.size w) : Calls Tryd.prog 4 #[.int .i64 y] w fun e w' => e = .returned (.bool true) ∧ Below w.heap.size w w' := by
  cases hy : isY y with
  | false =>
    go_enter Tryd.func4, Tryd.ntmps4
    go_wp2_with (first | (go_at_call 9; refine (easter_no _ _ hy).mono ?_; rintro e w' ⟨rfl, rfl⟩) | (go_at_call 10; refine (refEaster_no _ _ hy).mono ?_; rintro e w' ⟨rfl, rfl⟩) | (go_at_call 5; refine (awake_any _ hP).mono ?_; rintro e w1 ⟨rfl, hb1⟩))
    go_ret
    exact ⟨rfl, hb1⟩
  | true =>
    obtain ⟨y1, y2⟩ := isY_iff.1 hy
    obtain ⟨m, d, hmd, d1, d2, hre, hit, hwd, hat⟩ := es_facts y y1 y2
    obtain ⟨t, ht⟩ : ∃ t, esNum y * 86400 = t := ⟨_, rfl⟩
    rw [ht] at hre hit hwd hat
    have HT := Lib.hid ht
    have HR := Lib.hid hre
    have HW := Lib.hid hwd
    have HA := Lib.hid hat
    clear ht hre hwd hat
    rcases hmd with ⟨rfl, hd⟩ | ⟨rfl, hd⟩
    all_goals
      go_enter Tryd.func4, Tryd.ntmps4
      go_wp2_with fail
      refine (easter_ok _ _ hy).mono ?_
      rintro e w' ⟨rfl, rfl⟩
      rw [HT.out]
      go_wp2_with fail
      refine (refEaster_ok _ _ y1 y2).mono ?_
      rintro e w' ⟨rfl, rfl⟩
      rw [HR.out]
      go_wp2_with fail
      refine (Weekday_ok _ _ hit).mono ?_
      rintro e w' ⟨rfl, rfl⟩
      rw [HW.out]
      go_wp2_with fail
      refine (date_ok _ _ _ _ _ _ _ _ HA.out hit).mono ?_
      rintro e w2 ⟨rfl, hb2⟩
      have hz := hb2.size
      go_wp2_with fail
      have hal := fun o => hb2.alloc hz o
      refine (awake_any _ (Pow.at hP (hal _) (by simp; omega))).mono ?_
      rintro e w3 ⟨rfl, hb3⟩
      go_wp2
      go_ret
      exact ⟨rfl, (hal _).trans (hb3.mono (by simp; omega))⟩
end Go.Proofs.YtcgabonoddloiaaDoor
