/- Time of the reference; what dates and times tell of each other. -/
import Derived.Test.YtcgabonoddloiaaGreatDoorDates4
namespace Go.Proofs.YtcgabonoddloiaaGreatDoor
open Go.RowKit Clk

theorem tOf_num (y m d h i s : Int) (m1 : 1 ≤ m) (m2 : m ≤ 12) : -62135596800 + num y m d * 86400 + h * 3600 + i * 60 + s = tOf y m d h i s := by
  have := dTo_num y m d m1 m2
  unfold tOf
  omega

theorem num_bd9 {y m d : Int} (h : IsDay y m d) (y2 : y ≤ 9999) : 0 ≤ num y m d ∧ num y m d ≤ 3652058 := by
  have a := num_lo h
  have b := num_hi h
  have c := dby_mono 1 y h.1
  have e := dby_mono (y + 1) 10000 (by omega)
  have f := dby_1
  have g : dby 10000 = 3652059 := by decide
  omega

theorem at_valid (t Y M D h i s : Int) (ht : isT t = true) (A : AtIs t Y M D h i s) : vB Y M D h i s = true ∧ tOf Y M D h i s = t := by
  have hb := isT_iff.1 ht
  obtain ⟨a1, a2, a3, a4, a5, a6⟩ := A
  obtain ⟨c, c6⟩ := civ (t / 86400) (by omega)
  rw [a1, a2, a3] at c c6
  have hd := dTo_num Y M D c.2.1 c.2.2.1
  have hY : Y ≤ 9999 := by
    by_cases h9 : Y ≤ 9999
    · exact h9
    · exfalso
      have k1 := num_lo c
      have k2 := dby_mono 10000 Y (by omega)
      have k3 : dby 10000 = 3652059 := by decide
      omega
  obtain ⟨c1, c2, c3, c4, c5⟩ := c
  refine ⟨vB_iff.2 ⟨c1, hY, c2, c3, c4, c5, ?_⟩, ?_⟩
  · omega
  · unfold tOf
    rw [hd, c6, ← a4, ← a5, ← a6]
    omega

theorem valid_at (y m d h i s : Int) (hv : vB y m d h i s = true) : isT (tOf y m d h i s) = true ∧ AtIs (tOf y m d h i s) y m d h i s := by
  obtain ⟨y1, y2, m1, m2, d1, d2, h1, h2, i1, i2, s1, s2⟩ := vB_iff.1 hv
  have hn := num_bd9 ⟨y1, m1, m2, d1, d2⟩ y2
  have hd := dTo_num y m d m1 m2
  obtain ⟨Y, M, D, hh, ii, ss, A⟩ := atIs (tOf y m d h i s)
  have hb := (back_iff y m d h i s _ Y M D hh ii ss y1 y2 m1 m2 (by omega) h1 i1 s1 rfl A).1 hv
  obtain ⟨rfl, rfl, rfl, rfl, rfl, rfl⟩ := hb
  exact ⟨isT_iff.2 (by unfold tOf; omega), A⟩

set_option maxRecDepth 100000 in
set_option maxHeartbeats 1600000 in
theorem refTime_ok (y m d h i s : Int) (w : World) (hv : vB y m d h i s = true) :
    Calls Tryz.prog 10 #[.agg #[.int .i64 y, .int .i64 m, .int .i64 d, .int .i64 h, .int .i64 i, .int .i64 s]] w fun e w' => e = .returned (.tuple #[.int .i64 (tOf y m d h i s), .int .i64 0]) ∧ Below w.heap.size w w' := by
  obtain ⟨y1, y2, m1, m2, d1, d2, h1, h2, i1, i2, s1, s2⟩ := vB_iff.1 hv
  have hd := (dim_bd y m).2
  have hn := num_bd9 ⟨y1, m1, m2, d1, d2⟩ y2
  have hT := tOf_num y m d h i s m1 m2
  have hN := fun w => number_any y m d w (by omega) (by omega) m1 m2 (by omega) (by omega)
  obtain ⟨N, hNN⟩ : ∃ N, num y m d = N := ⟨_, rfl⟩
  rw [hNN] at hn hT hN
  have HN := Lib.hid hN
  have HT := Lib.hid hT
  have HV := Lib.hid (fun w => refValid_any y m d h i s w)
  obtain ⟨n0, n1⟩ := hn
  have e1 : IntKind.i64.wrap (N * 86400) = N * 86400 := IntWalk.i64_in _ (by omega)
  have e2 : IntKind.i64.wrap (-62135596800 + N * 86400) = -62135596800 + N * 86400 := IntWalk.i64_in _ (by omega)
  have e3 : IntKind.i64.wrap (h * 3600) = h * 3600 := IntWalk.i64_in _ (by omega)
  have e4 : IntKind.i64.wrap (-62135596800 + N * 86400 + h * 3600) = -62135596800 + N * 86400 + h * 3600 := IntWalk.i64_in _ (by omega)
  have e5 : IntKind.i64.wrap (i * 60) = i * 60 := IntWalk.i64_in _ (by omega)
  have e6 : IntKind.i64.wrap (-62135596800 + N * 86400 + h * 3600 + i * 60) = -62135596800 + N * 86400 + h * 3600 + i * 60 := IntWalk.i64_in _ (by omega)
  have e7 : IntKind.i64.wrap (-62135596800 + N * 86400 + h * 3600 + i * 60 + s) = -62135596800 + N * 86400 + h * 3600 + i * 60 + s := IntWalk.i64_in _ (by omega)
  clear hNN hN hT
  go_enter Tryz.func10, Tryz.ntmps10
  go_wp2_with fail
  refine (HV.out _).mono ?_
  rintro e w1 ⟨rfl, hb1⟩
  rw [hv]
  obtain ⟨hc, hf⟩ := bcell hb1
  have hz : w.heap.size < w1.heap.size := by have := hb1.size; simp at this; omega
  go_wp2_with fail
  go_quiet ((go_at_call 39; exact Calls.quiet_of_same ((HN.out _).mono fun _ _ h => ⟨h.1, h.2.symm⟩)))
  go_wp2
  go_ret2
  exact ⟨by rw [← HT.out]; rfl, Below.drewN' (((Below.refl w.heap.size w).alloc (Nat.le_refl _) _).trans (hb1.mono (by simp))) _⟩

set_option maxRecDepth 100000 in
set_option maxHeartbeats 800000 in
theorem refTime_no (y m d h i s : Int) (w : World) (hv : vB y m d h i s = false) :
    Calls Tryz.prog 10 #[.agg #[.int .i64 y, .int .i64 m, .int .i64 d, .int .i64 h, .int .i64 i, .int .i64 s]] w fun e w' => e = .returned (.tuple #[.int .i64 0, .int .i64 1]) ∧ Below w.heap.size w w' := by
  go_enter Tryz.func10, Tryz.ntmps10
  go_wp2_with fail
  refine (refValid_any y m d h i s _).mono ?_
  rintro e w1 ⟨rfl, hb1⟩
  rw [hv]
  go_wp2
  go_ret2
  exact ⟨rfl, ((Below.refl w.heap.size w).alloc (Nat.le_refl _) _).trans (hb1.mono (by simp))⟩
end Go.Proofs.YtcgabonoddloiaaGreatDoor
