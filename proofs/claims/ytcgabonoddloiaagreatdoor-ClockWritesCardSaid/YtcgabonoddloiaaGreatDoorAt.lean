/- at, timeOf, Date, weekday, Weekday of the program. -/
import Derived.Test.YtcgabonoddloiaaGreatDoorBase
import Derived.Below
namespace Go.Proofs.YtcgabonoddloiaaGreatDoor
open Go.RowKit Clk

theorem Below.drewN' {B : Nat} {a w : World} (h : Below B a w) (n : Nat) : Below B a (w.drewN n) := ⟨h.os, h.tape, h.output, h.size, h.block⟩

theorem bcell {W w1 : World} (hb : Below W.heap.size W w1) : (∀ b o, b < W.heap.size → w1.cell? ⟨b, o, none⟩ = W.cell? ⟨b, o, none⟩) ∧ (∀ b o, b < W.heap.size → w1.frozen? ⟨b, o, none⟩ = W.frozen? ⟨b, o, none⟩) :=
  ⟨fun b o h => hb.cell (p := ⟨b, o, none⟩) h, fun b o h => hb.frozen (p := ⟨b, o, none⟩) h⟩

/-- The parts of the date of a time. -/
structure AtIs (t Y M D h i s : Int) : Prop where
  y : cYear (t / 86400) = Y
  m : cMonth (t / 86400) = M
  d : cDay (t / 86400) = D
  h : t % 86400 / 3600 = h
  i : t % 86400 / 60 % 60 = i
  s : t % 86400 % 60 = s
theorem atIs (t : Int) : ∃ Y M D h i s, AtIs t Y M D h i s := ⟨_, _, _, _, _, _, ⟨rfl, rfl, rfl, rfl, rfl, rfl⟩⟩

set_option maxHeartbeats 800000 in
theorem at_any (t Y M D h i s : Int) (w : World) (A : AtIs t Y M D h i s) (h1 : -1000000000000 ≤ t) (h2 : t ≤ 1000000000000) :
    Calls Tryz.prog 35 #[.int .i64 t] w fun e w' => e = .returned (.agg #[.int .i64 Y, .int .i64 M, .int .i64 D, .int .i64 h, .int .i64 i, .int .i64 s]) ∧ Below w.heap.size w w' := by
  obtain ⟨hY, hM, hD, hh, hi, hs⟩ := A
  obtain ⟨n, hn⟩ : ∃ n, t / 86400 = n := ⟨_, rfl⟩
  obtain ⟨r, hr⟩ : ∃ r, t - n * 86400 = r := ⟨_, rfl⟩
  have s0 : 0 ≤ r := by omega
  have s1 : r < 86400 := by omega
  have er : t % 86400 = r := by omega
  rw [er] at hh hi hs
  rw [hn] at hY hM hD
  have Hn := Lib.hid hn
  have n1 : -100000000 ≤ n := by omega
  have n2 : n ≤ 100000000 := by omega
  clear hn er
  go_enter Tryz.func35, Tryz.ntmps35
  go_wp2_with (first | (go_at_call 48; refine (floor_any _ _ _ (by omega) (by omega) (by omega) (by omega)).mono ?_; rintro e w' ⟨rfl, rfl⟩; rw [Hn.out]) | (go_at_call 69; refine (dateOf_any _ _ (by omega) (by omega)).mono ?_; rintro e w' ⟨rfl, rfl⟩; rw [hY, hM, hD]))
  refine bodyPost_ret (v := .agg #[.int .i64 Y, .int .i64 M, .int .i64 D, .int .i64 h, .int .i64 i, .int .i64 s]) ?_ rfl ⟨rfl, ?_⟩
  · simp [results, Tryz.results35, go_sem]
  · exact ((Below.refl _ _).alloc (Nat.le_refl _) _)

theorem dTo_bd (y m d : Int) (y1 : 0 ≤ y) (y2 : y ≤ 100000) (_m1 : 1 ≤ m) (_m2 : m ≤ 12) (d1 : -100000 ≤ d) (d2 : d ≤ 100000) : -100000000 ≤ dTo y m d ∧ dTo y m d ≤ 100000000 := by
  unfold dTo
  split <;> omega

set_option maxHeartbeats 800000 in
set_option maxRecDepth 100000 in
theorem timeOf_any (y m d h i s : Int) (w : World) (y1 : 0 ≤ y) (y2 : y ≤ 100000) (m1 : 1 ≤ m) (m2 : m ≤ 12) (d1 : -100000 ≤ d) (d2 : d ≤ 100000) (hh : 0 ≤ h) (hh' : h ≤ 100000) (hi : 0 ≤ i) (hi' : i ≤ 100000) (hs : 0 ≤ s) (hs' : s ≤ 100000) :
    Calls Tryz.prog 38 #[.agg #[.int .i64 y, .int .i64 m, .int .i64 d, .int .i64 h, .int .i64 i, .int .i64 s]] w fun e w' => e = .returned (.int .i64 (dTo y m d * 86400 + h * 3600 + i * 60 + s)) ∧ Below w.heap.size w w' := by
  obtain ⟨b1, b2⟩ := dTo_bd y m d y1 y2 m1 m2 d1 d2
  have hD := fun w => daysTo_any y m d w (by omega) (by omega) (by omega) (by omega) (by omega) (by omega)
  obtain ⟨n, hn⟩ : ∃ n, dTo y m d = n := ⟨_, rfl⟩
  rw [hn] at b1 b2 hD ⊢
  have HD := Lib.hid hD
  clear hn hD
  have e1 : IntKind.i64.wrap (n * 86400) = n * 86400 := IntWalk.i64_in _ (by omega)
  have e2 : IntKind.i64.wrap (h * 3600) = h * 3600 := IntWalk.i64_in _ (by omega)
  have e3 : IntKind.i64.wrap (n * 86400 + h * 3600) = n * 86400 + h * 3600 := IntWalk.i64_in _ (by omega)
  have e4 : IntKind.i64.wrap (i * 60) = i * 60 := IntWalk.i64_in _ (by omega)
  have e5 : IntKind.i64.wrap (n * 86400 + h * 3600 + i * 60) = n * 86400 + h * 3600 + i * 60 := IntWalk.i64_in _ (by omega)
  have e6 : IntKind.i64.wrap (n * 86400 + h * 3600 + i * 60 + s) = n * 86400 + h * 3600 + i * 60 + s := IntWalk.i64_in _ (by omega)
  go_enter Tryz.func38, Tryz.ntmps38
  go_wp2_with fail
  go_quiet ((go_at_call 54; exact Calls.quiet_of_same ((HD.out _).mono fun _ _ h => ⟨h.1, h.2.symm⟩)))
  go_wp2
  go_ret
  exact ⟨rfl, Below.drewN' ((Below.refl _ _).alloc (Nat.le_refl _) _) _⟩

set_option maxHeartbeats 800000 in
theorem date_ok (t Y M D h i s : Int) (w : World) (A : AtIs t Y M D h i s) (ht : isT t = true) :
    Calls Tryz.prog 7 #[.int .i64 t] w fun e w' => e = .returned (.tuple #[.agg #[.int .i64 Y, .int .i64 M, .int .i64 D, .int .i64 h, .int .i64 i, .int .i64 s], .int .i64 0]) ∧ Below w.heap.size w w' := by
  have hb := isT_iff.1 ht
  go_enter Tryz.func7, Tryz.ntmps7
  go_wp2_with (first | (go_at_call 34; refine (isTime_any _ _).mono ?_; rintro e w' ⟨rfl, rfl⟩; rw [ht]) | (go_at_call 35; refine (at_any _ _ _ _ _ _ _ _ A (by omega) (by omega)).mono ?_; rintro e w1 ⟨rfl, hb1⟩; obtain ⟨hc, hf⟩ := bcell hb1; have hz : w.heap.size < w1.heap.size := by have := hb1.size; simp at this; omega))
  refine bodyPost_ret (v := .tuple #[.agg #[.int .i64 Y, .int .i64 M, .int .i64 D, .int .i64 h, .int .i64 i, .int .i64 s], .int .i64 0]) ?_ rfl ⟨rfl, ?_⟩
  · simp [results, Tryz.results7, go_sem, hc]
  · have h0 := ((Below.refl w.heap.size w).alloc (Nat.le_refl _) (.cells #[.int .i64 0, .int .i64 0, .int .i64 0, .int .i64 0, .int .i64 0, .int .i64 0] 23)).trans (hb1.mono (by simp))
    exact (((((h0.setCell (by simp) _).setCell (by simp) _).setCell (by simp) _).setCell (by simp) _).setCell (by simp) _).setCell (by simp) _
end Go.Proofs.YtcgabonoddloiaaGreatDoor
