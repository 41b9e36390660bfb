/- Start of the program. -/
import Derived.Test.YtcgabonoddloiaaGreatDoorBetwP
import Derived.Test.YtcgabonoddloiaaGreatDoorWeek
import Derived.Laws.EntriesVeiled
namespace Go.Proofs.YtcgabonoddloiaaGreatDoor
open Go.RowKit Clk

/-- The beginning of the unit in which a time lies. -/
def startOf (t : Int) (u : Nat) : Int :=
  if u < 5 then t - (t + 62135596800) % uLen u
  else if u = 5 then dTo (cYear (t / 86400)) (cMonth (t / 86400)) 1 * 86400
  else dTo (cYear (t / 86400)) 1 1 * 86400

set_option maxHeartbeats 400000 in
theorem even_any (n : Int) (w : World) :
    Calls Tryz.prog 59 #[.int .i64 n] w fun e w' => e = .returned (.func (.func 60) #[] #[.pointer (some ⟨w.heap.size, 0, none⟩)]) ∧ w' = w.alloc (.cells #[.int .i64 n] 3) := by
  go_enter Tryz.func59, Tryz.ntmps59
  go_wp2
  go_ret
  exact ⟨rfl, rfl⟩

theorem even_at (n : Int) (w : World) :
    Calls Tryz.prog 59 #[.int .i64 n] w fun e w' => e = .returned (.func (.func 60) #[] #[.pointer (some ⟨w.heap.size, 0, none⟩)]) ∧ Below w.heap.size w w' ∧ w'.cell? ⟨w.heap.size, 0, none⟩ = some (.int .i64 n) ∧ w.heap.size < w'.heap.size :=
  (even_any n w).mono fun _ _ h => ⟨h.1, h.2 ▸ (Below.refl _ _).alloc (Nat.le_refl _) _, h.2 ▸ (Has.new w 3 #[.int .i64 n]).cell 0, h.2 ▸ by simp⟩

theorem even_mul (t n : Int) (h : 0 < n) (h2 : n ≤ 604800) (t1 : -62135596800 ≤ t) (t2 : t ≤ 253402300799) : -70000000000 ≤ t / n * n ∧ t / n * n ≤ 300000000000 := by
  have e1 := Int.emod_add_mul_ediv t n
  have e2 := Int.emod_nonneg t (show n ≠ 0 by omega)
  have e3 := Int.emod_lt_of_pos t h
  have e4 : n * (t / n) = t / n * n := Int.mul_comm _ _
  omega

set_option maxRecDepth 100000 in
set_option maxHeartbeats 800000 in
theorem evenIn_any (t n : Int) (b : Nat) (w : World) (hc : w.cell? ⟨b, 0, none⟩ = some (.int .i64 n)) (h : 0 < n) (h2 : n ≤ 604800) (ht : isT t = true) :
    Calls Tryz.prog 60 #[.int .i64 t, .pointer (some ⟨b, 0, none⟩)] w fun e w' => e = .returned (.int .i64 (t / n * n)) ∧ Below w.heap.size w w' := by
  obtain ⟨t1, t2⟩ := isT_iff.1 ht
  have hm := even_mul t n h h2 t1 t2
  have HF := Lib.hid (fun w => floor_any t n w h (by omega) (by omega) (by omega))
  obtain ⟨q, hq⟩ : ∃ q, t / n = q := ⟨_, rfl⟩
  rw [hq] at hm HF
  have HQ := Lib.hid hq
  have e1 : IntKind.i64.wrap (q * n) = q * n := IntWalk.i64_in _ (by omega)
  clear hq hm
  go_enter Tryz.func60, Tryz.ntmps60
  go_wp2_with fail
  go_quiet ((go_at_call 48; exact Calls.quiet_of_same ((HF.out _).mono fun _ _ h => ⟨h.1, h.2.symm⟩)))
  go_wp2
  go_ret
  exact ⟨ret_int (by rw [HQ.out]), Below.drewN' (Below.refl _ _) _⟩

set_option maxHeartbeats 400000 in
theorem weekStart_any (t : Int) (w : World) (ht : isT t = true) :
    Calls Tryz.prog 61 #[.int .i64 t] w fun e w' => e = .returned (.int .i64 (t - (t + 62135596800) % 604800)) ∧ w = w' := by
  obtain ⟨t1, t2⟩ := isT_iff.1 ht
  have HV := Lib.hid (show (t / 86400 - ((t / 86400 + 3) % 7 + 1) + 1) * 86400 = t - (t + 62135596800) % 604800 by omega)
  have hb : -719162 ≤ t / 86400 ∧ t / 86400 ≤ 2932896 := by omega
  have HF := Lib.hid (fun w => floor_any t 86400 w (by omega) (by omega) (by omega) (by omega))
  obtain ⟨n, hn⟩ : ∃ n, t / 86400 = n := ⟨_, rfl⟩
  rw [hn] at HV hb HF
  obtain ⟨n1, n2⟩ := hb
  clear hn
  go_enter Tryz.func61, Tryz.ntmps61
  go_wp2_with (first | (go_at_call 48; refine (HF.out _).mono ?_; rintro e w' ⟨rfl, rfl⟩) | (go_at_call 47; refine (weekday_any _ _ (by omega) (by omega)).mono ?_; rintro e w' ⟨rfl, rfl⟩))
  go_ret
  exact ⟨ret_int HV.out, rfl⟩

set_option maxHeartbeats 400000 in
theorem monStart_any (t : Int) (w : World) (ht : isT t = true) :
    Calls Tryz.prog 62 #[.int .i64 t] w fun e w' => e = .returned (.int .i64 (dTo (cYear (t / 86400)) (cMonth (t / 86400)) 1 * 86400)) ∧ Below w.heap.size w w' := by
  obtain ⟨t1, t2⟩ := isT_iff.1 ht
  obtain ⟨⟨c1, c2, c3, c4, c5⟩, c6⟩ := isT_day ht
  obtain ⟨Y, M, D, h, i, s, A⟩ := atIs t
  rw [A.y] at c1 c6
  rw [A.m] at c2 c3
  rw [A.y, A.m]
  have hb := dTo_bd Y M 1 (by omega) (by omega) c2 c3 (by omega) (by omega)
  have HD := Lib.hid (fun w => daysTo_any Y M 1 w (by omega) (by omega) (by omega) (by omega) (by omega) (by omega))
  obtain ⟨n, hn⟩ : ∃ n, dTo Y M 1 = n := ⟨_, rfl⟩
  rw [hn] at hb HD ⊢
  obtain ⟨b1, b2⟩ := hb
  have HA := Lib.hid A
  clear A hn c5 c4
  go_enter Tryz.func62, Tryz.ntmps62
  go_wp2_with fail
  refine (at_any t Y M D h i s _ HA.out (by omega) (by omega)).mono ?_
  rintro e w1 ⟨rfl, hb1⟩
  go_wp2_with (go_at_call 54; refine (HD.out _).mono ?_; rintro e w' ⟨rfl, rfl⟩)
  go_ret
  exact ⟨rfl, hb1.alloc hb1.size _⟩

set_option maxHeartbeats 400000 in
theorem yearStart_any (t : Int) (w : World) (ht : isT t = true) :
    Calls Tryz.prog 63 #[.int .i64 t] w fun e w' => e = .returned (.int .i64 (dTo (cYear (t / 86400)) 1 1 * 86400)) ∧ Below w.heap.size w w' := by
  obtain ⟨t1, t2⟩ := isT_iff.1 ht
  obtain ⟨⟨c1, c2, c3, c4, c5⟩, c6⟩ := isT_day ht
  obtain ⟨Y, M, D, h, i, s, A⟩ := atIs t
  rw [A.y] at c1 c6
  rw [A.y]
  have hb := dTo_bd Y 1 1 (by omega) (by omega) (by omega) (by omega) (by omega) (by omega)
  have HD := Lib.hid (fun w => daysTo_any Y 1 1 w (by omega) (by omega) (by omega) (by omega) (by omega) (by omega))
  obtain ⟨n, hn⟩ : ∃ n, dTo Y 1 1 = n := ⟨_, rfl⟩
  rw [hn] at hb HD ⊢
  obtain ⟨b1, b2⟩ := hb
  have HA := Lib.hid A
  have hfl : ∀ w : World, (Instr.field 23 (.agg #[.int .i64 Y, .int .i64 M, .int .i64 D, .int .i64 h, .int .i64 i, .int .i64 s]) 0).run Tryz.prog w = .ok (.int .i64 Y) w := fun w => by show _ = _; kernel_rfl
  clear A hn c5 c4
  go_enter Tryz.func63, Tryz.ntmps63
  go_wp2_with fail
  refine (at_any t Y M D h i s _ HA.out (by omega) (by omega)).mono ?_
  rintro e w1 ⟨rfl, hb1⟩
  go_wp2_with (go_at_call 54; refine (HD.out _).mono ?_; rintro e w' ⟨rfl, rfl⟩)
  go_ret
  exact ⟨rfl, hb1⟩

theorem even_is (t L : Int) (hL : L = 1 ∨ L = 60 ∨ L = 3600 ∨ L = 86400) : t / L * L = t - (t + 62135596800) % L := by
  rcases hL with rfl | rfl | rfl | rfl <;> omega

set_option maxRecDepth 100000 in
set_option maxHeartbeats 1600000 in
theorem Start_is (t : Int) (s : ByteArray) (u : Nat) (w : World) (ht : isT t = true) (h : UnitIs s u) :
    Calls Tryz.prog 30 #[.int .i64 t, .string s] w fun e w' => e = .returned (.tuple #[.int .i64 (startOf t u), .int .i64 0]) ∧ Below w.heap.size w w' := by
  have hu := h.lt
  have HT := Lib.hid ht
  have HU := Lib.hid (fun w => unitOf_is s u w h)
  obtain ⟨V, hV⟩ : ∃ V, startOf t u = V := ⟨_, rfl⟩
  rw [hV]
  have hu' : u = 0 ∨ u = 1 ∨ u = 2 ∨ u = 3 ∨ u = 4 ∨ u = 5 ∨ u = 6 := by omega
  clear h hu ht
  have hv : u < 4 → t / uLen u * uLen u = V := fun hu => by
    rw [← hV, startOf, if_pos (by omega)]
    refine even_is t _ ?_
    have : u = 0 ∨ u = 1 ∨ u = 2 ∨ u = 3 := by omega
    rcases this with rfl | rfl | rfl | rfl <;> decide
  have HV := Lib.hid hv
  have HW := Lib.hid hV
  clear hv hV
  go_enter Tryz.func30, Tryz.ntmps30
  go_wp2_with fail
  refine (isTime_any _ _).mono ?_
  rintro e w' ⟨rfl, rfl⟩
  rw [HT.out]
  go_wp2_with fail
  refine (HU.out _).mono ?_
  rintro e w1 ⟨rfl, hb1⟩
  have hz1 := hb1.size
  go_wp2_with fail
  refine (even_at _ _).mono ?_
  rintro e w2 ⟨rfl, hb2, hc2, hz2⟩
  go_wp2_with fail
  refine (even_at _ _).mono ?_
  rintro e w3 ⟨rfl, hb3, hc3, hz3⟩
  go_wp2_with fail
  refine (even_at _ _).mono ?_
  rintro e w4 ⟨rfl, hb4, hc4, hz4⟩
  go_wp2_with fail
  refine (even_at _ _).mono ?_
  rintro e w5 ⟨rfl, hb5, hc5, hz5⟩
  have k2 : w5.cell? ⟨w1.heap.size, 0, none⟩ = some (.int .i64 1) := ((hb5.cell (p := ⟨w1.heap.size, 0, none⟩) (by show w1.heap.size < _; omega)).trans ((hb4.cell (p := ⟨w1.heap.size, 0, none⟩) (by show w1.heap.size < _; omega)).trans (hb3.cell (p := ⟨w1.heap.size, 0, none⟩) hz2))).trans hc2
  have k3 : w5.cell? ⟨w2.heap.size, 0, none⟩ = some (.int .i64 60) := ((hb5.cell (p := ⟨w2.heap.size, 0, none⟩) (by show w2.heap.size < _; omega)).trans (hb4.cell (p := ⟨w2.heap.size, 0, none⟩) hz3)).trans hc3
  have k4 : w5.cell? ⟨w3.heap.size, 0, none⟩ = some (.int .i64 3600) := (hb5.cell (p := ⟨w3.heap.size, 0, none⟩) hz4).trans hc4
  have hbb : Below w.heap.size w w5 := (((hb1.trans (hb2.mono hz1)).trans (hb3.mono (by omega))).trans (hb4.mono (by omega))).trans (hb5.mono (by omega))
  have HK := Lib.hid (And.intro k2 (And.intro k3 (And.intro k4 (And.intro hc5 hbb))))
  generalize w1.heap.size = g1 at *
  generalize w2.heap.size = g2 at *
  generalize w3.heap.size = g3 at *
  generalize w4.heap.size = g4 at *
  clear k2 k3 k4 hc2 hc3 hc4 hc5 hb2 hb3 hb4 hb5 hb1 hbb
  go_upto_region 8 with fail
  have hal := fun o => (Below.refl w5.heap.size w5).alloc (Nat.le_refl _) o
  have HX1 := Lib.hid (fun o => ((hal o).cell (p := ⟨g1, 0, none⟩) (by show g1 < _; omega)).trans HK.out.1)
  have HX2 := Lib.hid (fun o => ((hal o).cell (p := ⟨g2, 0, none⟩) (by show g2 < _; omega)).trans HK.out.2.1)
  have HX3 := Lib.hid (fun o => ((hal o).cell (p := ⟨g3, 0, none⟩) (by show g3 < _; omega)).trans HK.out.2.2.1)
  have HX4 := Lib.hid (fun o => ((hal o).cell (p := ⟨g4, 0, none⟩) (by show g4 < _; omega)).trans HK.out.2.2.2.1)
  have HB := Lib.hid (fun o => HK.out.2.2.2.2.alloc (show w.heap.size ≤ w5.heap.size by omega) o)
  have hws : w.heap.size ≤ w5.heap.size := by omega
  clear hal
  rcases hu' with rfl | rfl | rfl | rfl | rfl | rfl | rfl
  · go_wp2_with fail
    refine (evenIn_any t 1 g1 _ (HX1.out _) (by decide) (by decide) HT.out).mono ?_
    rintro e w6 ⟨rfl, hb6⟩
    go_wp2
    go_ret2
    exact ⟨by rw [← HV.out (by decide), show t / uLen 0 * uLen 0 = t by show t / 1 * 1 = t; omega]; rfl, (HB.out _).trans (hb6.mono (by simp; omega))⟩
  · go_wp2_with fail
    refine (evenIn_any t 60 g2 _ (HX2.out _) (by decide) (by decide) HT.out).mono ?_
    rintro e w6 ⟨rfl, hb6⟩
    go_wp2
    go_ret2
    exact ⟨by rw [← HV.out (by decide)]; rfl, (HB.out _).trans (hb6.mono (by simp; omega))⟩
  · go_wp2_with fail
    refine (evenIn_any t 3600 g3 _ (HX3.out _) (by decide) (by decide) HT.out).mono ?_
    rintro e w6 ⟨rfl, hb6⟩
    go_wp2
    go_ret2
    exact ⟨by rw [← HV.out (by decide)]; rfl, (HB.out _).trans (hb6.mono (by simp; omega))⟩
  · go_wp2_with fail
    refine (evenIn_any t 86400 g4 _ (HX4.out _) (by decide) (by decide) HT.out).mono ?_
    rintro e w6 ⟨rfl, hb6⟩
    go_wp2
    go_ret2
    exact ⟨by rw [← HV.out (by decide)]; rfl, (HB.out _).trans (hb6.mono (by simp; omega))⟩
  · go_wp2_with fail
    refine (weekStart_any t _ HT.out).mono ?_
    rintro e w' ⟨rfl, rfl⟩
    go_wp2
    go_ret2
    exact ⟨by rw [← HW.out]; rfl, HB.out _⟩
  · go_wp2_with fail
    refine (monStart_any t _ HT.out).mono ?_
    rintro e w6 ⟨rfl, hb6⟩
    go_wp2
    go_ret2
    exact ⟨by rw [← HW.out]; rfl, (HB.out _).trans (hb6.mono (by simp; omega))⟩
  · go_wp2_with fail
    refine (yearStart_any t _ HT.out).mono ?_
    rintro e w6 ⟨rfl, hb6⟩
    go_wp2
    go_ret2
    exact ⟨by rw [← HW.out]; rfl, (HB.out _).trans (hb6.mono (by simp; omega))⟩

set_option maxRecDepth 100000 in
set_option maxHeartbeats 800000 in
theorem Start_no (t : Int) (s : ByteArray) (w : World) (ht : isT t = false) :
    Calls Tryz.prog 30 #[.int .i64 t, .string s] w fun e w' => e = .returned (.tuple #[.int .i64 0, .int .i64 7]) ∧ Below w.heap.size w w' := by
  go_enter Tryz.func30, Tryz.ntmps30
  go_wp2_with (first | (go_at_call 34; refine (isTime_any _ _).mono ?_; rintro e w' ⟨rfl, rfl⟩; rw [ht]))
  go_ret2
  exact ⟨rfl, Below.refl _ _⟩

set_option maxRecDepth 100000 in
set_option maxHeartbeats 800000 in
theorem Start_name (t : Int) (s : ByteArray) (w : World) (ht : isT t = true) (h : UnitNo s) :
    Calls Tryz.prog 30 #[.int .i64 t, .string s] w fun e w' => e = .returned (.tuple #[.int .i64 0, .int .i64 5]) ∧ Below w.heap.size w w' := by
  go_enter Tryz.func30, Tryz.ntmps30
  go_wp2_with (first | (go_at_call 34; refine (isTime_any _ _).mono ?_; rintro e w' ⟨rfl, rfl⟩; rw [ht]) | (go_at_call 55; refine (unitOf_no _ _ h).mono ?_; rintro e w1 ⟨rfl, hb1⟩))
  go_ret2
  exact ⟨rfl, hb1⟩
end Go.Proofs.YtcgabonoddloiaaGreatDoor
