/- Add of the reference, of months and years; Add of both. -/
import Derived.Test.YtcgabonoddloiaaGreatDoorAdds
namespace Go.Proofs.YtcgabonoddloiaaGreatDoor
open Go.RowKit Clk

theorem refAdd_sums (Y M k : Int) (_hY : 1 ≤ Y) (_hY2 : Y ≤ 9999) (_hM : 1 ≤ M) (_hM2 : M ≤ 12) (_k1 : -4800000000000 ≤ k) (_k2 : k ≤ 4800000000000) :
    (isY (amY Y M k) = false ∧ (12 * Y + M - 1 + k < 12 ∨ (¬ 12 * Y + M - 1 + k < 12 ∧ 120000 ≤ 12 * Y + M - 1 + k))) ∨ (isY (amY Y M k) = true ∧ 12 ≤ 12 * Y + M - 1 + k ∧ 12 * Y + M - 1 + k < 120000) := by
  cases h : isY (amY Y M k) with
  | true =>
    have := isY_iff.1 h
    unfold amY at this
    exact .inr ⟨rfl, by omega, by omega⟩
  | false =>
    refine .inl ⟨rfl, ?_⟩
    by_cases h1 : 12 * Y + M - 1 + k < 12
    · exact .inl h1
    · by_cases h2 : 120000 ≤ 12 * Y + M - 1 + k
      · exact .inr ⟨h1, h2⟩
      · exfalso
        have : isY (amY Y M k) = true := isY_iff.2 (by unfold amY; omega)
        rw [this] at h
        cases h

set_option maxRecDepth 100000 in
set_option maxHeartbeats 6400000 in
theorem refAdd_mon (t n : Int) (s : ByteArray) (u : Nat) (ht : isT t = true) (h : UnitIs s u) (h5 : 5 ≤ u) (hn : (decide (-400000000000 ≤ n) && decide (n ≤ 400000000000)) = true) (hn1 : -400000000000 ≤ n) (hn2 : n ≤ 400000000000) :
    ∃ T E : Int, AddTells t n u T E ∧ ∀ w : World, Calls Tryz.prog 27 #[.int .i64 t, .int .i64 n, .string s] w fun e w' => e = .returned (.tuple #[.int .i64 T, .int .i64 E]) ∧ Below w.heap.size w w' := by
  obtain ⟨t1, t2⟩ := isT_iff.1 ht
  obtain ⟨⟨c1, c2, c3, c4, c5⟩, c6⟩ := isT_day ht
  have hR : addR t n u = addM t (n * uLen u) := by unfold addR; rw [if_neg (by omega)]
  obtain ⟨Y, M, D, hh, ii, ss, A⟩ := atIs t
  have hts : hh * 3600 + ii * 60 + ss = t % 86400 := by rw [← A.h, ← A.i, ← A.s]; omega
  have hhs : 0 ≤ hh ∧ hh ≤ 23 ∧ 0 ≤ ii ∧ ii ≤ 59 ∧ 0 ≤ ss ∧ ss ≤ 59 := by rw [← A.h, ← A.i, ← A.s]; omega
  unfold addM at hR
  rw [A.y, A.m, A.d] at hR c5
  rw [A.y] at c1 c6
  rw [A.m] at c2 c3
  rw [A.d] at c4
  have hU := fun w => refUnit_is s u w h
  have hcs : (u = 5 ∧ (s.toList == [121, 101, 97, 114]) = false ∧ n * uLen u = n) ∨ (u = 6 ∧ (s.toList == [121, 101, 97, 114]) = true ∧ n * uLen u = n * 12) := by
    have hu := h.lt
    have E := h.eqs.e6
    by_cases e : u = 5
    · subst e
      exact .inl ⟨rfl, E, Int.mul_one n⟩
    · obtain rfl : u = 6 := by omega
      exact .inr ⟨rfl, E, rfl⟩
  obtain ⟨k, hk⟩ : ∃ k, n * uLen u = k := ⟨_, rfl⟩
  rw [hk] at hR hcs
  have hk1 : -4800000000000 ≤ k ∧ k ≤ 4800000000000 := by rcases hcs with ⟨_, _, e⟩ | ⟨_, _, e⟩ <;> omega
  obtain ⟨k1, k2⟩ := hk1
  have hsum := refAdd_sums Y M k c1 c6 c2 c3 k1 k2
  have hmb := amM_bd Y M k
  have hmon := am_mon Y M k
  have hday := fun hy => am_day Y M D k c4 hy
  obtain ⟨y', hy'⟩ : ∃ y', amY Y M k = y' := ⟨_, rfl⟩
  obtain ⟨m', hm'⟩ : ∃ m', amM Y M k = m' := ⟨_, rfl⟩
  have hd : amD Y M D k = min D (dim y' m') := by unfold amD; rw [hy', hm']
  rw [hd, hy', hm'] at hR hday
  rw [hy'] at hsum
  rw [hy', hm'] at hmon
  rw [hm'] at hmb
  have hy : (12 * Y + M - 1 + k) / 12 = y' := hy'
  have hm : (12 * Y + M - 1 + k) % 12 + 1 = m' := hm'
  have hU' : (∀ w, Calls Tryz.prog 57 #[.string s] w fun e w' => e = .returned (.tuple #[.int .i64 0, .bool true]) ∧ w = w') := by
    rcases hcs with ⟨rfl, _⟩ | ⟨rfl, _⟩ <;> exact hU
  have hrd : 12 * Y + M - 1 + k = 12 * Y + M - 1 + k := rfl
  obtain ⟨T, hT⟩ : ∃ T, 12 * Y + M - 1 + k = T := ⟨_, rfl⟩
  rw [hT] at hy hm hsum
  have HA := Lib.hid A
  have HU := Lib.hid hU'
  have HN := Lib.hid hn
  have HTT := Lib.hid ht
  have HR := Lib.hid hR
  have HS := Lib.hid hT
  have HY := Lib.hid hy
  have HM := Lib.hid hm
  have HD := Lib.hid hday
  have HTS := Lib.hid hts
  have hTb : -5000000000000 ≤ T ∧ T ≤ 5000000000000 := by omega
  obtain ⟨T1, T2⟩ := hTb
  obtain ⟨m1, m2⟩ := hmb
  clear hU hU' hn ht hR hT hy hm hy' hm' hd hday hts h A hmon hrd hk
  rcases hsum with ⟨hyb, hout⟩ | ⟨hyb, hin1, hin2⟩
  · refine ⟨0, 7, .inr ⟨rfl, rfl, by rw [HR.out, hyb]; rfl⟩, fun w => ?_⟩
    clear hyb
    rcases hcs with ⟨-, e6, hnk⟩ | ⟨-, e6, hnk⟩
    all_goals
      first | (have HK : Hid (n = k) := Lib.hid hnk.symm) | (have HK : Hid (n * 12 = k) := Lib.hid hnk.symm)
      clear hnk
      rcases hout with ho | ⟨ho, ho2⟩
      all_goals
        go_enter Tryz.func27, Tryz.ntmps27
        go_wp2_with fail
        refine (refRight_any _ _).mono ?_
        rintro e w' ⟨rfl, rfl⟩
        rw [HTT.out]
        go_wp2_with fail
        refine (HU.out _).mono ?_
        rintro e w' ⟨rfl, rfl⟩
        go_wp2_with fail
        refine (in_any _ _ _ _).mono ?_
        rintro e w' ⟨rfl, rfl⟩
        rw [HN.out]
        go_wp2_with fail
        refine (refDate_any t Y M D hh ii ss _ HA.out (by omega) (by omega)).mono ?_
        rintro e w1 ⟨rfl, hb1⟩
        go_upto_region 16 with fail
        rw [HK.out]
        have hz1 := hb1.size
        have hs : Has (w1.alloc (.cells #[.int .i64 Y, .int .i64 M, .int .i64 D, .int .i64 hh, .int .i64 ii, .int .i64 ss] 23)) w1.heap.size 23 #[.int .i64 Y, .int .i64 M, .int .i64 D, .int .i64 hh, .int .i64 ii, .int .i64 ss] := Has.new w1 _ _
        have hbw : Below w.heap.size w (w1.alloc (.cells #[.int .i64 Y, .int .i64 M, .int .i64 D, .int .i64 hh, .int .i64 ii, .int .i64 ss] 23)) := hb1.alloc hz1 _
        generalize (w1.alloc (.cells #[.int .i64 Y, .int .i64 M, .int .i64 D, .int .i64 hh, .int .i64 ii, .int .i64 ss] 23)) = W2 at *
        generalize w1.heap.size = g at *
        have d0 : W2.cell? ⟨g, 0, none⟩ = some (.int .i64 Y) := hs.cell 0
        have d1 : W2.cell? ⟨g, 1, none⟩ = some (.int .i64 M) := hs.cell 1
        clear hb1 hs
        go_upto_region 17 with fail
        rw [HS.out]
        go_wp2
        go_ret2
        exact ⟨rfl, hbw⟩
  · refine ⟨dTo y' m' (min D (dim y' m')) * 86400 + t % 86400, 0, .inl ⟨rfl, by rw [HR.out, hyb]; rfl⟩, fun w => ?_⟩
    have hyb2 := isY_iff.1 hyb
    have hdd := HD.out hyb2.1
    have hdm := dim_bd y' m'
    have hvb : vB y' m' (min D (dim y' m')) hh ii ss = true := vB_iff.2 ⟨hyb2.1, hyb2.2, m1, m2, hdd.2.2.2.1, hdd.2.2.2.2, by omega⟩
    have htO : tOf y' m' (min D (dim y' m')) hh ii ss = dTo y' m' (min D (dim y' m')) * 86400 + t % 86400 := by
      unfold tOf
      rw [← HTS.out]
      omega
    have HTM := Lib.hid (fun w => refTime_ok y' m' (min D (dim y' m')) hh ii ss w hvb)
    have HTO := Lib.hid htO
    have hle := Lib.hid (fun w => refLength_any y' m' w (by omega) (by omega))
    obtain ⟨Q, hQ⟩ : ∃ Q, dim y' m' = Q := ⟨_, rfl⟩
    rw [hQ] at hdm hle HTM HTO
    have HQ := Lib.hid hQ
    have hmin : (Q < D ∧ min D Q = Q) ∨ (¬ Q < D ∧ min D Q = D) := by omega
    clear hQ hyb hdd hvb htO
    rcases hcs with ⟨-, e6, hnk⟩ | ⟨-, e6, hnk⟩
    all_goals
      first | (have HK : Hid (n = k) := Lib.hid hnk.symm) | (have HK : Hid (n * 12 = k) := Lib.hid hnk.symm)
      clear hnk
      rcases hmin with ⟨hq, hm0⟩ | ⟨hq, hm0⟩
      all_goals
        have HM0 := Lib.hid hm0
        clear hm0
        go_enter Tryz.func27, Tryz.ntmps27
        go_wp2_with fail
        refine (refRight_any _ _).mono ?_
        rintro e w' ⟨rfl, rfl⟩
        rw [HTT.out]
        go_wp2_with fail
        refine (HU.out _).mono ?_
        rintro e w' ⟨rfl, rfl⟩
        go_wp2_with fail
        refine (in_any _ _ _ _).mono ?_
        rintro e w' ⟨rfl, rfl⟩
        rw [HN.out]
        go_wp2_with fail
        refine (refDate_any t Y M D hh ii ss _ HA.out (by omega) (by omega)).mono ?_
        rintro e w1 ⟨rfl, hb1⟩
        go_upto_region 16 with fail
        rw [HK.out]
        have hz1 := hb1.size
        have hs : Has (w1.alloc (.cells #[.int .i64 Y, .int .i64 M, .int .i64 D, .int .i64 hh, .int .i64 ii, .int .i64 ss] 23)) w1.heap.size 23 #[.int .i64 Y, .int .i64 M, .int .i64 D, .int .i64 hh, .int .i64 ii, .int .i64 ss] := Has.new w1 _ _
        have hbw : Below w.heap.size w (w1.alloc (.cells #[.int .i64 Y, .int .i64 M, .int .i64 D, .int .i64 hh, .int .i64 ii, .int .i64 ss] 23)) := hb1.alloc hz1 _
        generalize (w1.alloc (.cells #[.int .i64 Y, .int .i64 M, .int .i64 D, .int .i64 hh, .int .i64 ii, .int .i64 ss] 23)) = W2 at *
        generalize w1.heap.size = g at *
        have d0 : W2.cell? ⟨g, 0, none⟩ = some (.int .i64 Y) := hs.cell 0
        have d1 : W2.cell? ⟨g, 1, none⟩ = some (.int .i64 M) := hs.cell 1
        have f0 := hs.free 0
        have f1 := hs.free 1
        have HHS := Lib.hid hs
        clear hb1 hs
        go_upto_region 17 with fail
        rw [HS.out]
        go_upto_region 20 with fail
        rw [HY.out, HM.out]
        obtain ⟨W3, hW3⟩ : ∃ W3, ((W2.setCell ⟨g, 0, none⟩ (.int .i64 y')).setCell ⟨g, 1, none⟩ (.int .i64 m')) = W3 := ⟨_, rfl⟩
        have hs3 : Has W3 g 23 #[.int .i64 y', .int .i64 m', .int .i64 D, .int .i64 hh, .int .i64 ii, .int .i64 ss] := hW3 ▸ (HHS.out.put 0 _).put 1 _
        have hb3 : Below w.heap.size w W3 := hW3 ▸ (hbw.setCell hz1 _).setCell hz1 _
        rw [hW3]
        clear hW3 d0 d1 f0 f1 hbw HHS
        have d0 : W3.cell? ⟨g, 0, none⟩ = some (.int .i64 y') := hs3.cell 0
        have d1 : W3.cell? ⟨g, 1, none⟩ = some (.int .i64 m') := hs3.cell 1
        have d2 : W3.cell? ⟨g, 2, none⟩ = some (.int .i64 D) := hs3.cell 2
        have d3 : W3.cell? ⟨g, 3, none⟩ = some (.int .i64 hh) := hs3.cell 3
        have d4 : W3.cell? ⟨g, 4, none⟩ = some (.int .i64 ii) := hs3.cell 4
        have d5 : W3.cell? ⟨g, 5, none⟩ = some (.int .i64 ss) := hs3.cell 5
        have f2 := hs3.free 2
        clear hs3
        go_region_law ((go_simp; go_at_call 45; refine (hle.out _).mono ?_; rintro e w' ⟨rfl, rfl⟩))
        all_goals
          go_wp2_with fail
          have htm := HTM.out
          rw [HM0.out] at htm
          refine (htm _).mono ?_
          rintro e w4 ⟨rfl, hb4⟩
          go_wp2
          go_ret2
          refine ⟨?_, ?_⟩
          · have hto := HTO.out
            rw [HM0.out] at hto
            rw [hto, HQ.out, HM0.out]
            rfl
          · exact (hb3.setCell hz1 _).trans ((Below.undrew hb4).mono (by simpa using hb3.size))
end Go.Proofs.YtcgabonoddloiaaGreatDoor
