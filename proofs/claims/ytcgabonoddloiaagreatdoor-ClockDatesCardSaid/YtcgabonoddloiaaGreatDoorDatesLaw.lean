/- ClockDates answers true, for every time, date, year and month. -/
import Derived.Test.YtcgabonoddloiaaGreatDoorDates5
import Derived.Test.YtcgabonoddloiaaGreatDoorAwake
namespace Go.Proofs.YtcgabonoddloiaaGreatDoor
open Go.RowKit Clk

theorem Has.below {w w' : World} {g : Nat} {t : TypeId} {cs : Array Value} (h : Has w g t cs) (hb : Below w.heap.size w w') : Has w' g t cs := (hb.block g h.lt).trans h

/-- Date of both. -/
theorem date_both (t : Int) : ∃ Y M D h i s E : Int, (∀ w, Calls Tryz.prog 7 #[.int .i64 t] w fun e w' => e = .returned (.tuple #[.agg #[.int .i64 Y, .int .i64 M, .int .i64 D, .int .i64 h, .int .i64 i, .int .i64 s], .int .i64 E]) ∧ Below w.heap.size w w') ∧
    (∀ w, Calls Tryz.prog 8 #[.int .i64 t] w fun e w' => e = .returned (.tuple #[.agg #[.int .i64 Y, .int .i64 M, .int .i64 D, .int .i64 h, .int .i64 i, .int .i64 s], .int .i64 E]) ∧ Below w.heap.size w w') ∧
    ((isT t = true ∧ E = 0 ∧ vB Y M D h i s = true ∧ tOf Y M D h i s = t) ∨ (isT t = false ∧ E = 7)) := by
  cases ht : isT t with
  | true =>
    obtain ⟨Y, M, D, h, i, s, A⟩ := atIs t
    obtain ⟨a, b⟩ := at_valid t Y M D h i s ht A
    exact ⟨Y, M, D, h, i, s, 0, fun w => date_ok _ _ _ _ _ _ _ w A ht, fun w => refDate_ok _ _ _ _ _ _ _ w A ht, .inl ⟨rfl, rfl, a, b⟩⟩
  | false => exact ⟨0, 0, 0, 0, 0, 0, 7, fun w => date_no t w ht, fun w => refDate_no t w ht, .inr ⟨rfl, rfl⟩⟩

/-- Time of both. -/
theorem time_both (y m d h i s : Int) : ∃ T E : Int, (∀ w, Calls Tryz.prog 9 #[.agg #[.int .i64 y, .int .i64 m, .int .i64 d, .int .i64 h, .int .i64 i, .int .i64 s]] w fun e w' => e = .returned (.tuple #[.int .i64 T, .int .i64 E]) ∧ Below w.heap.size w w') ∧
    (∀ w, Calls Tryz.prog 10 #[.agg #[.int .i64 y, .int .i64 m, .int .i64 d, .int .i64 h, .int .i64 i, .int .i64 s]] w fun e w' => e = .returned (.tuple #[.int .i64 T, .int .i64 E]) ∧ Below w.heap.size w w') ∧
    ((vB y m d h i s = true ∧ E = 0 ∧ T = tOf y m d h i s) ∨ (vB y m d h i s = false ∧ E = 1)) := by
  cases hv : vB y m d h i s with
  | true => exact ⟨_, 0, fun w => time_ok y m d h i s w hv, fun w => refTime_ok y m d h i s w hv, .inl ⟨rfl, rfl, rfl⟩⟩
  | false => exact ⟨0, 1, fun w => time_no y m d h i s w hv, fun w => refTime_no y m d h i s w hv, .inr ⟨rfl, rfl⟩⟩

/-- Days of both. -/
theorem days_both (y m : Int) : ∃ N E : Int, (∀ w, Calls Tryz.prog 13 #[.int .i64 y, .int .i64 m] w fun e w' => e = .returned (.tuple #[.int .i64 N, .int .i64 E]) ∧ w = w') ∧
    (∀ w, Calls Tryz.prog 14 #[.int .i64 y, .int .i64 m] w fun e w' => e = .returned (.tuple #[.int .i64 N, .int .i64 E]) ∧ w = w') := by
  cases hv : ymB y m with
  | true => exact ⟨_, 0, fun w => Days_yes y m w hv, fun w => refDays_yes y m w hv⟩
  | false => exact ⟨0, 7, fun w => Days_no y m w hv, fun w => refDays_no y m w hv⟩

/-- Leap of both. -/
theorem leap_both (y : Int) : ∃ (b : Bool) (E : Int), (∀ w, Calls Tryz.prog 11 #[.int .i64 y] w fun e w' => e = .returned (.tuple #[.bool b, .int .i64 E]) ∧ w = w') ∧
    (∀ w, Calls Tryz.prog 12 #[.int .i64 y] w fun e w' => e = .returned (.tuple #[.bool b, .int .i64 E]) ∧ w = w') :=
  ⟨_, _, fun w => Leap_any y w, fun w => refLeapE_any y w⟩

theorem neq_date (a0 a1 a2 a3 a4 a5 : Int) (w : World) :
    (binOp .neq 23 (.agg #[.int .i64 a0, .int .i64 a1, .int .i64 a2, .int .i64 a3, .int .i64 a4, .int .i64 a5]) (.agg #[.int .i64 a0, .int .i64 a1, .int .i64 a2, .int .i64 a3, .int .i64 a4, .int .i64 a5])).run Tryz.prog w = .ok (.bool false) w := by
  simp [go_sem]

theorem cells6 {w : World} {g : Nat} {T : TypeId} {a0 a1 a2 a3 a4 a5 : Value} (h : Has w g T #[a0, a1, a2, a3, a4, a5]) : w.cell? ⟨g, 0, none⟩ = some a0 ∧ w.cell? ⟨g, 1, none⟩ = some a1 ∧ w.cell? ⟨g, 2, none⟩ = some a2 ∧ w.cell? ⟨g, 3, none⟩ = some a3 ∧ w.cell? ⟨g, 4, none⟩ = some a4 ∧ w.cell? ⟨g, 5, none⟩ = some a5 :=
  ⟨h.cell 0, h.cell 1, h.cell 2, h.cell 3, h.cell 4, h.cell 5⟩

set_option maxRecDepth 100000 in
set_option maxHeartbeats 8000000 in
theorem datesLaw_any (t y m d h i s yr mo : Int) (w : World) (hP : Pow w.heap.size w) :
    Calls Tryz.prog 3 #[.int .i64 t, .agg #[.int .i64 y, .int .i64 m, .int .i64 d, .int .i64 h, .int .i64 i, .int .i64 s], .int .i64 yr, .int .i64 mo] w fun e w' => e = .returned (.bool true) ∧ Below w.heap.size w w' := by
  obtain ⟨aY, aM, aD, ah, ai, az, E1, d1, d2, hd⟩ := date_both t
  obtain ⟨T, E2, t1, t2, ht⟩ := time_both y m d h i s
  obtain ⟨lb, E3, l1, l2⟩ := leap_both yr
  obtain ⟨N, E4, n1, n2⟩ := days_both yr mo
  have D1 := Lib.hid d1
  have D2 := Lib.hid d2
  have T1 := Lib.hid t1
  have T2 := Lib.hid t2
  have L1 := Lib.hid l1
  have L2 := Lib.hid l2
  have N1 := Lib.hid n1
  have N2 := Lib.hid n2
  have HD := Lib.hid hd
  have HT := Lib.hid ht
  clear d1 d2 t1 t2 l1 l2 n1 n2 hd ht
  go_enter Tryz.func3, Tryz.ntmps3
  go_wp2_with fail
  have H00 := Has.new w 23 #[.int .i64 y, .int .i64 m, .int .i64 d, .int .i64 h, .int .i64 i, .int .i64 s]
  refine (D1.out _).mono ?_
  rintro e w1 ⟨rfl, hb1⟩
  have hz1 : w.heap.size < w1.heap.size := by have := hb1.size; simp at this; omega
  have B1 := Lib.hid (((Below.refl w.heap.size w).alloc (Nat.le_refl _) _).trans (hb1.mono (by simp)))
  have H01 := Lib.hid (H00.below hb1)
  clear hb1 H00
  go_wp2_with fail
  have HA1 := Has.new w1 23 #[.int .i64 aY, .int .i64 aM, .int .i64 aD, .int .i64 ah, .int .i64 ai, .int .i64 az]
  refine (D2.out _).mono ?_
  rintro e w2 ⟨rfl, hb2⟩
  have hz2 : w1.heap.size < w2.heap.size := by have := hb2.size; simp at this; omega
  have hy2 : w.heap.size < w2.heap.size := by omega
  have B2 := Lib.hid ((B1.out.alloc (Nat.le_of_lt hz1) _).trans (hb2.mono (by simp; omega)))
  have H02 := Lib.hid ((H01.out.alloc _).below hb2)
  have HA2 := Lib.hid (HA1.below hb2)
  obtain ⟨c0, c1, c2, c3, c4, c5⟩ := cells6 H02.out
  clear hb2 HA1 H01
  go_wp2_with fail
  have HB2 := Has.new w2 23 #[.int .i64 aY, .int .i64 aM, .int .i64 aD, .int .i64 ah, .int .i64 ai, .int .i64 az]
  refine (T1.out _).mono ?_
  rintro e w3 ⟨rfl, hb3⟩
  have hz3 : w2.heap.size < w3.heap.size := by have := hb3.size; simp at this; omega
  have B3 := Lib.hid ((B2.out.alloc (Nat.le_of_lt hy2) _).trans (hb3.mono (by simp; omega)))
  have H03 := Lib.hid ((H02.out.alloc _).below hb3)
  have HA3 := Lib.hid ((HA2.out.alloc _).below hb3)
  have HB3 := Lib.hid (HB2.below hb3)
  clear hb3 HB2 H02 HA2 c0 c1 c2 c3 c4 c5
  obtain ⟨c0, c1, c2, c3, c4, c5⟩ := cells6 H03.out
  go_wp2_with fail
  refine (T2.out _).mono ?_
  rintro e w4 ⟨rfl, hb4⟩
  have hz4 : w3.heap.size ≤ w4.heap.size := hb4.size
  have B4 := Lib.hid (B3.out.trans (hb4.mono (by omega)))
  have H04 := Lib.hid (H03.out.below hb4)
  have HA4 := Lib.hid (HA3.out.below hb4)
  have HB4 := Lib.hid (HB3.out.below hb4)
  clear hb4 H03 HA3 HB3 c0 c1 c2 c3 c4 c5
  go_wp2_with fail
  refine (L1.out _).mono ?_
  rintro e w' ⟨rfl, rfl⟩
  go_wp2_with fail
  refine (L2.out _).mono ?_
  rintro e w' ⟨rfl, rfl⟩
  go_wp2_with fail
  refine (N1.out _).mono ?_
  rintro e w' ⟨rfl, rfl⟩
  go_wp2_with fail
  refine (N2.out _).mono ?_
  rintro e w' ⟨rfl, rfl⟩
  obtain ⟨p0, hp0⟩ : ∃ p, w.heap.size = p := ⟨_, rfl⟩
  obtain ⟨p1, hp1⟩ : ∃ p, w1.heap.size = p := ⟨_, rfl⟩
  obtain ⟨p2, hp2⟩ : ∃ p, w2.heap.size = p := ⟨_, rfl⟩
  rw [hp0] at H04
  rw [hp1] at HA4
  rw [hp2] at HB4
  rw [hp0] at B4
  have hl0 := H04.out.lt
  have hl1 := HA4.out.lt
  have hl2 := HB4.out.lt
  obtain ⟨c0, c1, c2, c3, c4, c5⟩ := cells6 H04.out
  obtain ⟨x0, x1, x2, x3, x4, x5⟩ := cells6 HA4.out
  obtain ⟨z0, z1, z2, z3, z4, z5⟩ := cells6 HB4.out
  have HP := Lib.hid hP
  have Hp0 := Lib.hid hp0
  clear hz1 hz2 hz3 hz4 hy2 B1 B2 B3 D1 D2 T2 L1 L2 N1 N2 hP
  go_wp2_with fail
  clear hp0 hp1 hp2
  have hnq := fun w => neq_date aY aM aD ah ai az w
  go_region_held3 (fun w' => w'.cell? ⟨p0, 0, none⟩ = some (.int .i64 y) ∧ w'.cell? ⟨p0, 1, none⟩ = some (.int .i64 m) ∧ w'.cell? ⟨p0, 2, none⟩ = some (.int .i64 d) ∧ w'.cell? ⟨p0, 3, none⟩ = some (.int .i64 h) ∧ w'.cell? ⟨p0, 4, none⟩ = some (.int .i64 i) ∧ w'.cell? ⟨p0, 5, none⟩ = some (.int .i64 s) ∧ w'.cell? ⟨p1, 0, none⟩ = some (.int .i64 aY) ∧ w'.cell? ⟨p1, 1, none⟩ = some (.int .i64 aM) ∧ w'.cell? ⟨p1, 2, none⟩ = some (.int .i64 aD) ∧ w'.cell? ⟨p1, 3, none⟩ = some (.int .i64 ah) ∧ w'.cell? ⟨p1, 4, none⟩ = some (.int .i64 ai) ∧ w'.cell? ⟨p1, 5, none⟩ = some (.int .i64 az) ∧ w'.cell? ⟨p2, 0, none⟩ = some (.int .i64 aY) ∧ w'.cell? ⟨p2, 1, none⟩ = some (.int .i64 aM) ∧ w'.cell? ⟨p2, 2, none⟩ = some (.int .i64 aD) ∧ w'.cell? ⟨p2, 3, none⟩ = some (.int .i64 ah) ∧ w'.cell? ⟨p2, 4, none⟩ = some (.int .i64 ai) ∧ w'.cell? ⟨p2, 5, none⟩ = some (.int .i64 az))
    (first
      | (go_split_ands; exact ⟨c0, c1, c2, c3, c4, c5, x0, x1, x2, x3, x4, x5, z0, z1, z2, z3, z4, z5⟩)
      | (go_split_ands; refine ⟨?_, ?_, ?_, ?_, ?_, ?_, ?_, ?_, ?_, ?_, ?_, ?_, ?_, ?_, ?_, ?_, ?_, ?_⟩ <;> first | exact ((hb6.cell (p := ⟨_, _, none⟩) (Nat.lt_of_lt_of_le (by assumption) hb5.size)).trans ((hb5.cell (p := ⟨_, _, none⟩) (by assumption)).trans (by assumption))) | exact ((hb5.cell (p := ⟨_, _, none⟩) (by assumption)).trans (by assumption))))
    (first | (go_at_call 15; refine (valid_any _ _ _ _ _ _ _).mono ?_; rintro e w5 ⟨rfl, hb5⟩) | (go_at_call 16; refine (refValid_any _ _ _ _ _ _ _).mono ?_; rintro e w6 ⟨rfl, hb6⟩))
  have hs5 : w4.heap.size ≤ w5.heap.size := hb5.size
  have B6 := Lib.hid ((B4.out.trans ((Below.undrew hb5).mono (Nat.le_of_lt hl0))).trans (hb6.mono (by omega)))
  have H06 := Lib.hid ((Has.below (w := w4.drew) H04.out hb5).below hb6)
  have HA6 := Lib.hid ((Has.below (w := w4.drew) HA4.out hb5).below hb6)
  have hs6 : w5.heap.size ≤ w6.heap.size := hb6.size
  have hl6 : p0 < w6.heap.size := by omega
  have hr6 : p1 < w6.heap.size := by omega
  have c := cells6 H06.out
  have x := cells6 HA6.out
  have HC := Lib.hid (And.intro c x)
  clear c x hb5 hb6 hs5 hs6 H04 HA4 HB4 B4 hl0 hl1 hl2 c0 c1 c2 c3 c4 c5 x0 x1 x2 x3 x4 x5 z0 z1 z2 z3 z4 z5 hnq HA6
  have hnd := fun w => neq_date y m d h i s w
  rcases HD.out with ⟨_, rfl, hv, htt⟩ | ⟨_, rfl⟩
  · obtain ⟨⟨c0, c1, c2, c3, c4, c5⟩, ⟨x0, x1, x2, x3, x4, x5⟩⟩ := HC.out
    have htm := fun w => time_ok aY aM aD ah ai az w hv
    rw [htt] at htm
    have HTM := Lib.hid htm
    clear htm htt hv c0 c1 c2 c3 c4 c5
    go_wp2_with fail
    refine (HTM.out _).mono ?_
    rintro e w7 ⟨rfl, hb7⟩
    have B7 := Lib.hid (B6.out.trans (hb7.mono (by omega)))
    have H07 := Lib.hid (H06.out.below hb7)
    have hl7 := H07.out.lt
    clear hb7 x0 x1 x2 x3 x4 x5 B6 H06 HC
    rcases HT.out with ⟨hv2, rfl, hT2⟩ | ⟨_, rfl⟩
    · have hva := valid_at y m d h i s hv2
      rw [← hT2] at hva
      have hdm := fun w => date_ok T y m d h i s w hva.2 hva.1
      have HDM := Lib.hid hdm
      clear hdm hva hv2 hT2
      go_wp2_with fail
      refine (HDM.out _).mono ?_
      rintro e w8 ⟨rfl, hb8⟩
      have hsz8 : w7.heap.size ≤ w8.heap.size := hb8.size
      have B8 := Lib.hid (B7.out.trans (hb8.mono (by omega)))
      have H08 := Lib.hid (H07.out.below hb8)
      have hl8 : p0 < w8.heap.size := H08.out.lt
      obtain ⟨c0, c1, c2, c3, c4, c5⟩ := cells6 H08.out
      clear hb8
      go_wp2_with fail
      refine (awake_any _ (Pow.at HP.out (by rw [Hp0.out]; exact B8.out.alloc (by omega) _) (by rw [Hp0.out]; simp; omega))).mono ?_
      rintro e w9 ⟨rfl, hb9⟩
      go_wp2
      go_ret
      exact ⟨rfl, by rw [Hp0.out]; exact (B8.out.alloc (by omega) _).trans (hb9.mono (by simp; omega))⟩
    · go_wp2_with fail
      refine (awake_any _ (Pow.at HP.out (by rw [Hp0.out]; exact B7.out) (by rw [Hp0.out]; omega))).mono ?_
      rintro e w9 ⟨rfl, hb9⟩
      go_wp2
      go_ret
      exact ⟨rfl, by rw [Hp0.out]; exact B7.out.trans (hb9.mono (by omega))⟩
  · rcases HT.out with ⟨hv2, rfl, hT2⟩ | ⟨_, rfl⟩
    · have hva := valid_at y m d h i s hv2
      rw [← hT2] at hva
      have hdm := fun w => date_ok T y m d h i s w hva.2 hva.1
      have HDM := Lib.hid hdm
      clear hdm hva hv2 hT2
      go_wp2_with fail
      refine (HDM.out _).mono ?_
      rintro e w8 ⟨rfl, hb8⟩
      have hsz8 : w6.heap.size ≤ w8.heap.size := hb8.size
      have B8 := Lib.hid (B6.out.trans (hb8.mono (by omega)))
      have H08 := Lib.hid (H06.out.below hb8)
      have hl8 : p0 < w8.heap.size := H08.out.lt
      obtain ⟨c0, c1, c2, c3, c4, c5⟩ := cells6 H08.out
      clear hb8
      go_wp2_with fail
      refine (awake_any _ (Pow.at HP.out (by rw [Hp0.out]; exact B8.out.alloc (by omega) _) (by rw [Hp0.out]; simp; omega))).mono ?_
      rintro e w9 ⟨rfl, hb9⟩
      go_wp2
      go_ret
      exact ⟨rfl, by rw [Hp0.out]; exact (B8.out.alloc (by omega) _).trans (hb9.mono (by simp; omega))⟩
    · go_wp2_with fail
      refine (awake_any _ (Pow.at HP.out (by rw [Hp0.out]; exact B6.out) (by rw [Hp0.out]; omega))).mono ?_
      rintro e w9 ⟨rfl, hb9⟩
      go_wp2
      go_ret
      exact ⟨rfl, by rw [Hp0.out]; exact B6.out.trans (hb9.mono (by omega))⟩
end Go.Proofs.YtcgabonoddloiaaGreatDoor
