/- add of the program. -/
import Derived.Test.YtcgabonoddloiaaDoorUnits
import Derived.StillTailTactics
import Derived.Deep.RegionHeld3
namespace Go.Proofs.YtcgabonoddloiaaDoor
open Go.RowKit Clk

/-- A time k months later. -/
def addM (t k : Int) : Option Int :=
  if isY (amY (cYear (t / 86400)) (cMonth (t / 86400)) k) then
    some (dTo (amY (cYear (t / 86400)) (cMonth (t / 86400)) k) (amM (cYear (t / 86400)) (cMonth (t / 86400)) k) (amD (cYear (t / 86400)) (cMonth (t / 86400)) (cDay (t / 86400)) k) * 86400 + t % 86400)
  else none
/-- A time n units later. -/
def addR (t n : Int) (u : Nat) : Option Int :=
  if u < 5 then (if isT (t + n * uLen u) then some (t + n * uLen u) else none) else addM t (n * uLen u)

theorem uLen_sec (u : Nat) (h : u < 5) : 1 ≤ uLen u ∧ uLen u ≤ 604800 := by
  have hu : u = 0 ∨ u = 1 ∨ u = 2 ∨ u = 3 ∨ u = 4 := by omega
  rcases hu with rfl | rfl | rfl | rfl | rfl <;> decide
theorem uLen_mon (u : Nat) (h : 5 ≤ u) : uLen u = 1 ∨ uLen u = 12 := by
  match u, h with
  | 5, _ => exact .inl rfl
  | n + 6, _ => exact .inr rfl
theorem isT_day {t : Int} (h : isT t = true) : IsDay (cYear (t / 86400)) (cMonth (t / 86400)) (cDay (t / 86400)) ∧ cYear (t / 86400) ≤ 9999 := by
  have hb := isT_iff.1 h
  obtain ⟨c, c6⟩ := civ (t / 86400) (by omega)
  refine ⟨c, ?_⟩
  by_cases h9 : cYear (t / 86400) ≤ 9999
  · exact h9
  · exfalso
    have k1 := num_lo c
    have k2 := dby_mono 10000 (cYear (t / 86400)) (by omega)
    have k3 : dby 10000 = 3652059 := by decide
    omega
theorem far_sec (t n L : Int) (h1 : -62135596800 ≤ t) (h2 : t ≤ 253402300799) (hL : 1 ≤ L) (hn : n > 315537897599 ∨ n < -315537897599) : isT (t + n * L) = false := by
  cases hb : isT (t + n * L) with
  | false => rfl
  | true =>
    have hc := isT_iff.1 hb
    exfalso
    rcases hn with hn | hn
    · have := Int.mul_le_mul_of_nonneg_left hL (show 0 ≤ n by omega)
      omega
    · have := Int.mul_le_mul_of_nonneg_left hL (show 0 ≤ -n by omega)
      simp only [Int.neg_mul] at this
      omega
theorem addR_far (t n : Int) (u : Nat) (ht : isT t = true) (hn : n > 315537897599 ∨ n < -315537897599) : addR t n u = none := by
  have hb := isT_iff.1 ht
  unfold addR
  by_cases hu : u < 5
  · rw [if_pos hu, far_sec t n _ hb.1 hb.2 (uLen_sec u hu).1 hn]
    rfl
  · rw [if_neg hu]
    obtain ⟨⟨c1, c2, c3, c4, c5⟩, c6⟩ := isT_day ht
    unfold addM
    have hf : isY (amY (cYear (t / 86400)) (cMonth (t / 86400)) (n * uLen u)) = false := by
      cases hy : isY (amY (cYear (t / 86400)) (cMonth (t / 86400)) (n * uLen u)) with
      | false => rfl
      | true =>
        have := isY_iff.1 hy
        unfold amY at this
        rcases uLen_mon u (by omega) with e | e
        · rw [e] at this; omega
        · rw [e] at this; omega
    rw [hf]
    rfl

/-- What add tells. -/
def AddSays (t n : Int) (u : Nat) (r : Int) (b : Bool) : Prop := (b = true ∧ addR t n u = some r) ∨ (b = false ∧ addR t n u = none)

set_option maxRecDepth 100000 in
set_option maxHeartbeats 800000 in
theorem add_far (t n : Int) (u : Nat) (w : World) (hn : n > 315537897599 ∨ n < -315537897599) :
    Calls Tryd.prog 16 #[.int .i64 t, .int .i64 n, .int .i64 u] w fun e w' => e = .returned (.tuple #[.int .i64 0, .bool false]) ∧ Below w.heap.size w w' := by
  have hc : n > 315537897599 ∨ (¬ n > 315537897599 ∧ n < -315537897599) := by omega
  clear hn
  rcases hc with h | ⟨h, h2⟩
  all_goals
    go_enter Tryd.func16, Tryd.ntmps16
    go_wp2
    go_ret2
    exact ⟨rfl, Below.refl _ _⟩

set_option maxRecDepth 100000 in
set_option maxHeartbeats 800000 in
theorem add_sec (t n : Int) (u : Nat) (w : World) (ht : isT t = true) (hu : u < 5) (hn : ¬ n > 315537897599) (hn2 : ¬ n < -315537897599) (b : Bool) (hb : isT (t + n * uLen u) = b) :
    Calls Tryd.prog 16 #[.int .i64 t, .int .i64 n, .int .i64 u] w fun e w' => e = .returned (.tuple #[.int .i64 (t + n * uLen u), .bool b]) ∧ Below w.heap.size w w' := by
  obtain ⟨t1, t2⟩ := isT_iff.1 ht
  have hL := uLen_sec u hu
  have HL := Lib.hid (fun w => length_any u w (by omega))
  obtain ⟨L, hLL⟩ : ∃ L, uLen u = L := ⟨_, rfl⟩
  rw [hLL] at hL HL hb ⊢
  have hm : -190837320467875200 ≤ n * L ∧ n * L ≤ 190837320467875200 := by
    constructor
    · by_cases h0 : 0 ≤ n
      · have := Int.mul_nonneg h0 (show 0 ≤ L by omega); omega
      · have a := Int.mul_le_mul_of_nonneg_left hL.2 (show 0 ≤ -n by omega)
        simp only [Int.neg_mul] at a
        omega
    · by_cases h0 : 0 ≤ n
      · have := Int.mul_le_mul_of_nonneg_left hL.2 h0; omega
      · have a := Int.mul_nonneg (show 0 ≤ -n by omega) (show 0 ≤ L by omega)
        simp only [Int.neg_mul] at a
        omega
  obtain ⟨m, hmm⟩ : ∃ m, n * L = m := ⟨_, rfl⟩
  have e1 : IntKind.i64.wrap (n * L) = m := (IntWalk.i64_in _ (by omega)).trans hmm
  rw [hmm] at hm hb ⊢
  have HM := Lib.hid hmm
  have HB := Lib.hid hb
  obtain ⟨m1, m2⟩ := hm
  clear hLL hmm hb ht hL
  go_enter Tryd.func16, Tryd.ntmps16
  go_wp2_with fail
  refine (HL.out _).mono ?_
  rintro e w' ⟨rfl, rfl⟩
  go_wp2_with fail
  refine (isTime_any _ _).mono ?_
  rintro e w' ⟨rfl, rfl⟩
  rw [HB.out]
  go_wp2
  go_ret2
  exact ⟨rfl, Below.refl _ _⟩

/-- The sums of add, in months. -/
theorem add_sums (Y M n L : Int) (hY : 1 ≤ Y) (hY2 : Y ≤ 9999) (hM : 1 ≤ M) (hM2 : M ≤ 12) (hL : L = 1 ∨ L = 12) (hn : ¬ n > 315537897599) (hn2 : ¬ n < -315537897599) :
    -4000000000000 ≤ n * L ∧ n * L ≤ 4000000000000 ∧ IntKind.i64.wrap (Y * 12) = Y * 12 ∧ IntKind.i64.wrap (Y * 12 + M) = Y * 12 + M ∧ IntKind.i64.wrap (Y * 12 + M - 1) = Y * 12 + M - 1 ∧ IntKind.i64.wrap (n * L) = n * L ∧ IntKind.i64.wrap (Y * 12 + M - 1 + n * L) = Y * 12 + M - 1 + n * L := by
  have h : -4000000000000 ≤ n * L ∧ n * L ≤ 4000000000000 := by rcases hL with rfl | rfl <;> omega
  exact ⟨h.1, h.2, IntWalk.i64_in _ (by omega), IntWalk.i64_in _ (by omega), IntWalk.i64_in _ (by omega), IntWalk.i64_in _ (by omega), IntWalk.i64_in _ (by omega)⟩

set_option maxRecDepth 100000 in
set_option maxHeartbeats 3200000 in
theorem add_mon (t n : Int) (u : Nat) (ht : isT t = true) (hu : 5 ≤ u) (hu7 : u < 7) (hn : ¬ n > 315537897599) (hn2 : ¬ n < -315537897599) :
    ∃ r b, AddSays t n u r b ∧ ∀ w : World, Calls Tryd.prog 16 #[.int .i64 t, .int .i64 n, .int .i64 u] w fun e w' => e = .returned (.tuple #[.int .i64 r, .bool b]) ∧ Below w.heap.size w w' := by
  obtain ⟨t1, t2⟩ := isT_iff.1 ht
  obtain ⟨⟨c1, c2, c3, c4, c5⟩, c6⟩ := isT_day ht
  have hL := uLen_mon u hu
  have HLen := Lib.hid (fun w => length_any u w hu7)
  have hR : addR t n u = addM t (n * uLen u) := by unfold addR; rw [if_neg (by omega)]
  obtain ⟨Y, M, D, h, i, s, A⟩ := atIs t
  have hts : h * 3600 + i * 60 + s = t % 86400 := by rw [← A.h, ← A.i, ← A.s]; omega
  have hhs : 0 ≤ h ∧ h ≤ 23 ∧ 0 ≤ i ∧ i ≤ 59 ∧ 0 ≤ s ∧ s ≤ 59 := by rw [← A.h, ← A.i, ← A.s]; omega
  have hdim := dim_bd (cYear (t / 86400)) (cMonth (t / 86400))
  unfold addM at hR
  rw [A.y, A.m, A.d] at hR c5
  rw [A.y, A.m] at hdim
  rw [A.y] at c1 c6
  rw [A.m] at c2 c3
  rw [A.d] at c4
  obtain ⟨L, hLL⟩ : ∃ L, uLen u = L := ⟨_, rfl⟩
  rw [hLL] at hL HLen hR
  obtain ⟨k1, k2, e1, e2, e3, e4, e5⟩ := add_sums Y M n L c1 c6 c2 c3 hL hn hn2
  have hy : (Y * 12 + M - 1 + n * L) / 12 = amY Y M (n * L) := by unfold amY; rw [show 12 * Y + M - 1 + n * L = Y * 12 + M - 1 + n * L by omega]
  have hm : Y * 12 + M - 1 + n * L - 12 * ((Y * 12 + M - 1 + n * L) / 12) + 1 = amM Y M (n * L) := by unfold amM; rw [show 12 * Y + M - 1 + n * L = Y * 12 + M - 1 + n * L by omega]; omega
  have hmb := amM_bd Y M (n * L)
  have HA := Lib.hid A
  obtain ⟨y', hy'⟩ : ∃ y', amY Y M (n * L) = y' := ⟨_, rfl⟩
  obtain ⟨m', hm'⟩ : ∃ m', amM Y M (n * L) = m' := ⟨_, rfl⟩
  have hd : amD Y M D (n * L) = min D (dim y' m') := by unfold amD; rw [hy', hm']
  rw [hd, hy', hm'] at hR
  rw [hy'] at hy
  rw [hm', hy] at hm
  rw [hm'] at hmb
  obtain ⟨T, hT⟩ : ∃ T, Y * 12 + M - 1 + n * L = T := ⟨_, rfl⟩
  rw [hT] at hy hm e5
  have HT := Lib.hid hT
  have HY := Lib.hid hy
  have HM := Lib.hid hm
  have HR := Lib.hid hR
  have HTS := Lib.hid hts
  have hTb : -5000000000000 ≤ T ∧ T ≤ 5000000000000 := by omega
  obtain ⟨T1, T2⟩ := hTb
  obtain ⟨m1, m2⟩ := hmb
  have hy'b : -500000000000 ≤ y' ∧ y' ≤ 500000000000 := by omega
  clear hy' hm' hd hR hT hy hm hLL A hts hL
  cases hyb : isY y' with
  | false =>
    refine ⟨0, false, .inr ⟨rfl, by rw [HR.out, hyb]; rfl⟩, fun w => ?_⟩
    go_enter Tryd.func16, Tryd.ntmps16
    go_wp2_with (go_at_call 14; refine (at_any _ _ _ _ _ _ _ _ HA.out (by omega) (by omega)).mono ?_; rintro e w1 ⟨rfl, hb1⟩)
    have hz1 := hb1.size
    go_quiet ((go_at_call 29; exact Calls.quiet_of_same ((HLen.out _).mono fun _ _ h => ⟨h.1, h.2.symm⟩)))
    rw [HT.out]
    have hs : Has ((w1.alloc (.cells #[.int .i64 Y, .int .i64 M, .int .i64 D, .int .i64 h, .int .i64 i, .int .i64 s] 24)).drewN nq) w1.heap.size 24 #[.int .i64 Y, .int .i64 M, .int .i64 D, .int .i64 h, .int .i64 i, .int .i64 s] := Has.new w1 _ _
    have hbw : Below w.heap.size w ((w1.alloc (.cells #[.int .i64 Y, .int .i64 M, .int .i64 D, .int .i64 h, .int .i64 i, .int .i64 s] 24)).drewN nq) := Below.drewN' (hb1.alloc hz1 _) _
    generalize ((w1.alloc (.cells #[.int .i64 Y, .int .i64 M, .int .i64 D, .int .i64 h, .int .i64 i, .int .i64 s] 24)).drewN nq) = W2 at *
    generalize w1.heap.size = g at *
    have c0 : W2.cell? ⟨g, 0, none⟩ = some (.int .i64 Y) := hs.cell 0
    have c1' : W2.cell? ⟨g, 1, none⟩ = some (.int .i64 M) := hs.cell 1
    have f0 := hs.free 0
    have f1 := hs.free 1
    clear hb1 hs
    go_wp2_with (first | (go_at_call 24; refine (floor_any _ _ _ (by omega) (by omega) (by omega) (by omega)).mono ?_; rintro e w' ⟨rfl, rfl⟩; rw [HY.out]) | (go_at_call 18; refine (isYear_any _ _).mono ?_; rintro e w' ⟨rfl, rfl⟩; rw [hyb]))
    go_ret2
    exact ⟨rfl, (hbw.setCell hz1 _).setCell hz1 _⟩
  | true =>
    have hdm := dim_bd y' m'
    have hyb2 := isY_iff.1 hyb
    refine ⟨dTo y' m' (min D (dim y' m')) * 86400 + t % 86400, true, .inl ⟨rfl, by rw [HR.out, hyb]; rfl⟩, fun w => ?_⟩
    go_enter Tryd.func16, Tryd.ntmps16
    go_wp2_with (go_at_call 14; refine (at_any _ _ _ _ _ _ _ _ HA.out (by omega) (by omega)).mono ?_; rintro e w1 ⟨rfl, hb1⟩)
    have hz1 := hb1.size
    go_quiet ((go_at_call 29; exact Calls.quiet_of_same ((HLen.out _).mono fun _ _ h => ⟨h.1, h.2.symm⟩)))
    rw [HT.out]
    have hs : Has ((w1.alloc (.cells #[.int .i64 Y, .int .i64 M, .int .i64 D, .int .i64 h, .int .i64 i, .int .i64 s] 24)).drewN nq) w1.heap.size 24 #[.int .i64 Y, .int .i64 M, .int .i64 D, .int .i64 h, .int .i64 i, .int .i64 s] := Has.new w1 _ _
    have hbw : Below w.heap.size w ((w1.alloc (.cells #[.int .i64 Y, .int .i64 M, .int .i64 D, .int .i64 h, .int .i64 i, .int .i64 s] 24)).drewN nq) := Below.drewN' (hb1.alloc hz1 _) _
    generalize ((w1.alloc (.cells #[.int .i64 Y, .int .i64 M, .int .i64 D, .int .i64 h, .int .i64 i, .int .i64 s] 24)).drewN nq) = W2 at *
    generalize w1.heap.size = g at *
    have c0 : W2.cell? ⟨g, 0, none⟩ = some (.int .i64 Y) := hs.cell 0
    have c1' : W2.cell? ⟨g, 1, none⟩ = some (.int .i64 M) := hs.cell 1
    have f0 := hs.free 0
    have f1 := hs.free 1
    have c2' : W2.cell? ⟨g, 2, none⟩ = some (.int .i64 D) := hs.cell 2
    have HS := Lib.hid hs
    clear hb1 hs
    go_wp2_with (first | (go_at_call 24; refine (floor_any _ _ _ (by omega) (by omega) (by omega) (by omega)).mono ?_; rintro e w' ⟨rfl, rfl⟩; rw [HY.out]) | (go_at_call 18; refine (isYear_any _ _).mono ?_; rintro e w' ⟨rfl, rfl⟩; rw [hyb]))
    rw [HM.out]
    obtain ⟨W3, hW3⟩ : ∃ W3, ((W2.setCell ⟨g, 0, none⟩ (.int .i64 y')).setCell ⟨g, 1, none⟩ (.int .i64 m')) = W3 := ⟨_, rfl⟩
    have hs3 : Has W3 g 24 #[.int .i64 y', .int .i64 m', .int .i64 D, .int .i64 h, .int .i64 i, .int .i64 s] := hW3 ▸ (HS.out.put 0 _).put 1 _
    have hb3 : Below w.heap.size w W3 := hW3 ▸ (hbw.setCell hz1 _).setCell hz1 _
    rw [hW3]
    clear hW3 c0 c1' c2' f0 f1 hbw HS
    have d0 : W3.cell? ⟨g, 0, none⟩ = some (.int .i64 y') := hs3.cell 0
    have d1 : W3.cell? ⟨g, 1, none⟩ = some (.int .i64 m') := hs3.cell 1
    have d2 : W3.cell? ⟨g, 2, none⟩ = some (.int .i64 D) := hs3.cell 2
    have f2 := hs3.free 2
    have HS3 := Lib.hid hs3
    clear hs3
    have HDI := Lib.hid (fun w => daysIn_any y' m' w (by omega) (by omega))
    obtain ⟨Q, hQ⟩ : ∃ Q, dim y' m' = Q := ⟨_, rfl⟩
    rw [hQ] at hdm HDI
    have HQ := Lib.hid hQ
    clear hQ
    have hmin : (Q < D ∧ min D Q = Q) ∨ (¬ Q < D ∧ min D Q = D) := by omega
    rcases hmin with ⟨hq, hm0⟩ | ⟨hq, hm0⟩
    all_goals
      have HM0 := Lib.hid hm0
      clear hm0
      have h3 : W3.cell? ⟨g, 3, none⟩ = some (.int .i64 h) := HS3.out.cell 3
      have h4 : W3.cell? ⟨g, 4, none⟩ = some (.int .i64 i) := HS3.out.cell 4
      have h5 : W3.cell? ⟨g, 5, none⟩ = some (.int .i64 s) := HS3.out.cell 5
      go_region_law ((go_simp; go_at_call 30; refine (HDI.out _).mono ?_; rintro e w' ⟨rfl, rfl⟩))
      all_goals
        go_wp2_with fail
        refine (timeOf_any _ _ _ _ _ _ _ (by omega) (by omega) (by omega) (by omega) (by omega) (by omega) (by omega) (by omega) (by omega) (by omega) (by omega) (by omega)).mono ?_
        rintro e w4 ⟨rfl, hb4⟩
        go_wp2
        go_ret2
        refine ⟨?_, ?_⟩
        · rw [HQ.out, HM0.out, ← HTS.out, ← Int.add_assoc, ← Int.add_assoc]
          rfl
        · exact (hb3.setCell hz1 _).trans ((Below.undrew hb4).mono (by simpa using hb3.size))

/-- add of the program, of a time and a unit. -/
theorem add_any (t n : Int) (u : Nat) (ht : isT t = true) (hu : u < 7) :
    ∃ r b, AddSays t n u r b ∧ ∀ w : World, Calls Tryd.prog 16 #[.int .i64 t, .int .i64 n, .int .i64 u] w fun e w' => e = .returned (.tuple #[.int .i64 r, .bool b]) ∧ Below w.heap.size w w' := by
  by_cases hf : n > 315537897599 ∨ n < -315537897599
  · exact ⟨0, false, .inr ⟨rfl, addR_far t n u ht hf⟩, fun w => add_far t n u w hf⟩
  · by_cases h5 : u < 5
    · refine ⟨_, isT (t + n * uLen u), ?_, fun w => add_sec t n u w ht h5 (by omega) (by omega) _ rfl⟩
      unfold AddSays addR
      rw [if_pos h5]
      cases isT (t + n * uLen u)
      · exact .inr ⟨rfl, rfl⟩
      · exact .inl ⟨rfl, rfl⟩
    · obtain ⟨r, b, h, k⟩ := add_mon t n u ht (by omega) hu (by omega) (by omega)
      exact ⟨r, b, h, k⟩
end Go.Proofs.YtcgabonoddloiaaDoor
