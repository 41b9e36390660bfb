/- between of the program. -/
import Derived.Test.YtcgabonoddloiaaDoorBetw
import Derived.Deep.LoopGhost
namespace Go.Proofs.YtcgabonoddloiaaDoor
open Go.RowKit Clk

set_option maxRecDepth 100000 in
set_option maxHeartbeats 800000 in
theorem between_sec (a b : Int) (u : Nat) (w : World) (ha : isT a = true) (hb : isT b = true) (h : a ≤ b) (hu : u < 5) :
    Calls Tryd.prog 17 #[.int .i64 a, .int .i64 b, .int .i64 u] w fun e w' => e = .returned (.int .i64 (btw a b u)) ∧ Below w.heap.size w w' := by
  obtain ⟨a1, a2⟩ := isT_iff.1 ha
  obtain ⟨b1, b2⟩ := isT_iff.1 hb
  have HB : Hid (btw a b u = (b - a) / uLen u) := Lib.hid (by unfold btw; rw [if_pos hu])
  have HL := Lib.hid (fun w => length_any u w (by omega))
  have hL := uLen_sec u hu
  obtain ⟨L, hLL⟩ : ∃ L, uLen u = L := ⟨_, rfl⟩
  rw [hLL] at hL HL HB
  obtain ⟨l1, l2⟩ := hL
  clear hLL ha hb
  go_enter Tryd.func17, Tryd.ntmps17
  go_wp2_with fail
  refine (HL.out _).mono ?_
  rintro e w' ⟨rfl, rfl⟩
  go_wp2_with fail
  go_ret
  exact ⟨ret_int HB.out.symm, Below.refl _ _⟩

theorem down_hit (P : Int → Bool) (k : Nat) (hk : 0 < k) (hp : P (k : Int) = true) : down P k = k := by
  obtain ⟨j, rfl⟩ : ∃ j, k = j + 1 := ⟨k - 1, by omega⟩
  rw [down, if_pos (by simpa using hp)]
theorem down_miss (P : Int → Bool) (k : Nat) (hk : 0 < k) (hp : P (k : Int) = false) : down P k = down P (k - 1) := by
  obtain ⟨j, rfl⟩ : ∃ j, k = j + 1 := ⟨k - 1, by omega⟩
  exact down_skip P j (by simpa using hp)

set_option maxRecDepth 100000 in
set_option maxHeartbeats 3200000 in
theorem between_mon (a b : Int) (u : Nat) (w : World) (ha : isT a = true) (hb : isT b = true) (h : a ≤ b) (hu : 5 ≤ u) (hu7 : u < 7) :
    Calls Tryd.prog 17 #[.int .i64 a, .int .i64 b, .int .i64 u] w fun e w' => e = .returned (.int .i64 (btw a b u)) ∧ Below w.heap.size w w' := by
  obtain ⟨a1, a2⟩ := isT_iff.1 ha
  obtain ⟨b1, b2⟩ := isT_iff.1 hb
  have h0 := mDiff_nonneg a b ha hb h
  have h0' := (mDiff_bd a b ha hb).1
  have HAdd := Lib.hid (fun n => add_any a n u ha hu7)
  obtain ⟨⟨c1, c2, c3, c4, c5⟩, c6⟩ := isT_day ha
  obtain ⟨⟨d1, d2, d3, d4, d5⟩, d6⟩ := isT_day hb
  have hmd : mDiff a b = 12 * cYear (b / 86400) + cMonth (b / 86400) - 12 * cYear (a / 86400) - cMonth (a / 86400) := rfl
  obtain ⟨Y, M, D, hh, ii, ss, A⟩ := atIs a
  obtain ⟨Y2, M2, D2, hh2, ii2, ss2, A2⟩ := atIs b
  rw [A.y, A.m, A2.y, A2.m] at hmd
  rw [A.y] at c1 c6
  rw [A.m] at c2 c3
  rw [A2.y] at d1 d6
  rw [A2.m] at d2 d3
  have HL := Lib.hid (fun w => length_any u w hu7)
  have hLm := uLen_mon u hu
  obtain ⟨n0, hn0⟩ : ∃ n0 : Nat, n0 = (mDiff a b / uLen u).toNat := ⟨_, rfl⟩
  have HBT : Hid (btw a b u = (down (fitsU a b u) n0 : Nat)) := Lib.hid (by unfold btw; rw [if_neg (by omega), hn0])
  obtain ⟨L, hLL⟩ : ∃ L, uLen u = L := ⟨_, rfl⟩
  rw [hLL] at HL hLm hn0
  obtain ⟨m, hm⟩ : ∃ m, mDiff a b = m := ⟨_, rfl⟩
  rw [hm] at h0 h0' hmd hn0
  have e1 : IntKind.i64.wrap (Y2 * 12) = Y2 * 12 := IntWalk.i64_in _ (by omega)
  have e2 : IntKind.i64.wrap (Y2 * 12 + M2) = Y2 * 12 + M2 := IntWalk.i64_in _ (by omega)
  have e3 : IntKind.i64.wrap (Y * 12) = Y * 12 := IntWalk.i64_in _ (by omega)
  have e4 : IntKind.i64.wrap (Y2 * 12 + M2 - Y * 12) = Y2 * 12 + M2 - Y * 12 := IntWalk.i64_in _ (by omega)
  have e5 : IntKind.i64.wrap (Y2 * 12 + M2 - Y * 12 - M) = m := (IntWalk.i64_in _ (by omega)).trans (by omega)
  have HN0 := Lib.hid hn0
  have HA := Lib.hid A
  have HA2 := Lib.hid A2
  have HU5 : Hid (5 ≤ u) := Lib.hid hu
  obtain ⟨B, hB⟩ : ∃ B, w.heap.size = B := ⟨_, rfl⟩
  have HBs := Lib.hid hB
  clear A A2 ha hb hmd hn0 hm hLL c4 c5 d4 d5 hB
  rcases hLm with rfl | rfl
  all_goals
    go_enter Tryd.func17, Tryd.ntmps17
    go_wp2_with fail
    refine (at_any a Y M D hh ii ss _ HA.out (by omega) (by omega)).mono ?_
    rintro e w1 ⟨rfl, hb1⟩
    have hz1 := hb1.size
    go_wp2_with fail
    refine (at_any b Y2 M2 D2 hh2 ii2 ss2 _ HA2.out (by omega) (by omega)).mono ?_
    rintro e w2 ⟨rfl, hb2⟩
    have hz2 := hb2.size
    go_wp2_with fail
    have hs1 := (Has.new w2 24 #[.int .i64 Y, .int .i64 M, .int .i64 D, .int .i64 hh, .int .i64 ii, .int .i64 ss]).alloc (.cells #[.int .i64 Y2, .int .i64 M2, .int .i64 D2, .int .i64 hh2, .int .i64 ii2, .int .i64 ss2] 24)
    have hs2 := Has.new (w2.alloc (.cells #[.int .i64 Y, .int .i64 M, .int .i64 D, .int .i64 hh, .int .i64 ii, .int .i64 ss] 24)) 24 #[.int .i64 Y2, .int .i64 M2, .int .i64 D2, .int .i64 hh2, .int .i64 ii2, .int .i64 ss2]
    have hsz : (w2.alloc (.cells #[.int .i64 Y, .int .i64 M, .int .i64 D, .int .i64 hh, .int .i64 ii, .int .i64 ss] 24)).heap.size = w2.heap.size + 1 := by simp
    rw [hsz] at hs2
    have hbw : Below w.heap.size w ((w2.alloc (.cells #[.int .i64 Y, .int .i64 M, .int .i64 D, .int .i64 hh, .int .i64 ii, .int .i64 ss] 24)).alloc (.cells #[.int .i64 Y2, .int .i64 M2, .int .i64 D2, .int .i64 hh2, .int .i64 ii2, .int .i64 ss2] 24)) := ((hb1.trans (hb2.mono hz1)).alloc (by omega) _).alloc (by rw [hsz]; omega) _
    generalize ((w2.alloc (.cells #[.int .i64 Y, .int .i64 M, .int .i64 D, .int .i64 hh, .int .i64 ii, .int .i64 ss] 24)).alloc (.cells #[.int .i64 Y2, .int .i64 M2, .int .i64 D2, .int .i64 hh2, .int .i64 ii2, .int .i64 ss2] 24)) = W2 at *
    generalize w2.heap.size = g at *
    have x0 : W2.cell? ⟨g, 0, none⟩ = some (.int .i64 Y) := hs1.cell 0
    have x1 : W2.cell? ⟨g, 1, none⟩ = some (.int .i64 M) := hs1.cell 1
    have y0 : W2.cell? ⟨g + 1, 0, none⟩ = some (.int .i64 Y2) := hs2.cell 0
    have y1 : W2.cell? ⟨g + 1, 1, none⟩ = some (.int .i64 M2) := hs2.cell 1
    clear hs1 hs2 hsz hb1 hb2
    go_quiet ((go_at_call 29; exact Calls.quiet_of_same ((HL.out _).mono fun _ _ h => ⟨h.1, h.2.symm⟩)))
    go_wp2_with fail
    have hbB : Below B w W2 := by rw [← HBs.out]; exact hbw
    have hgB : B ≤ W2.heap.size := by have := hbw.size; rw [HBs.out] at this; exact this
    clear hbw x0 x1 y0 y1 e1 e2 e3 e4 e5
    go_loopg [9] n0 (fun gk v9 wx => ∃ k : Nat, v9 = .int .i64 k ∧ k ≤ gk ∧ down (fitsU a b u) k = down (fitsU a b u) n0 ∧ Below B w wx ∧ B ≤ wx.heap.size ∧ k ≤ 200000)
    case atStart => exact ⟨n0, congrArg (Value.int .i64) (by have := HN0.out; omega), Nat.le_refl _, rfl, Below.drewN' hbB _, hgB, by have := HN0.out; omega⟩
    case round =>
      obtain ⟨k, rfl, hk, hd, hbx, hgx, hk2⟩ := hrel
      have HD := Lib.hid hd
      clear hd
      by_cases h0 : 0 < k
      · obtain ⟨r, bb, hs, hc⟩ := HAdd.out (k : Int)
        have HC := Lib.hid hc
        clear hc
        rcases hs with ⟨rfl, hr⟩ | ⟨rfl, hr⟩
        · by_cases hrb : r ≤ b
          · have hv : down (fitsU a b u) k = k := down_hit _ _ h0 (by rw [fitsU_some hr]; simpa using hrb)
            have HV := Lib.hid hv
            clear hv hr
            go_wp2_with fail
            refine (HC.out _).mono ?_
            rintro e w4 ⟨rfl, hb4⟩
            go_wp2
            go_ret
            exact ⟨ret_int (by rw [HBT.out, ← HD.out, HV.out]), by rw [HBs.out]; exact hbx.trans (hb4.mono hgx)⟩
          · have hv : down (fitsU a b u) k = down (fitsU a b u) (k - 1) := down_miss _ _ h0 (by rw [fitsU_some hr]; simpa using hrb)
            have HV := Lib.hid hv
            clear hv hr
            go_wp2_with fail
            refine (HC.out _).mono ?_
            rintro e w4 ⟨rfl, hb4⟩
            have hz4 := hb4.size
            go_wp2
            go_roundg (gk - 1)
            case measure => omega
            case rel => exact ⟨k - 1, congrArg (Value.int .i64) (by omega), by omega, by rw [← HV.out, HD.out], hbx.trans (hb4.mono hgx), by omega, by omega⟩
        · have hv : down (fitsU a b u) k = down (fitsU a b u) (k - 1) := down_miss _ _ h0 (fitsU_none hr)
          have HV := Lib.hid hv
          clear hv hr
          go_wp2_with fail
          refine (HC.out _).mono ?_
          rintro e w4 ⟨rfl, hb4⟩
          have hz4 := hb4.size
          go_wp2
          go_roundg (gk - 1)
          case measure => omega
          case rel => exact ⟨k - 1, congrArg (Value.int .i64) (by omega), by omega, by rw [← HV.out, HD.out], hbx.trans (hb4.mono hgx), by omega, by omega⟩
      · have hv : down (fitsU a b u) k = k := by
          obtain rfl : k = 0 := by omega
          rfl
        have HV := Lib.hid hv
        clear hv
        go_wp2
        go_ret
        exact ⟨ret_int (by rw [HBT.out, ← HD.out, HV.out]), by rw [HBs.out]; exact hbx⟩
end Go.Proofs.YtcgabonoddloiaaDoor
