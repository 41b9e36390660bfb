/- Between of the reference, of a time and one not ahead of it. -/
import Derived.Test.YtcgabonoddloiaaGreatDoorBetwP
namespace Go.Proofs.YtcgabonoddloiaaGreatDoor
open Go.RowKit Clk

set_option maxRecDepth 100000 in
set_option maxHeartbeats 1600000 in
theorem refBetween_sec (a b : Int) (s : ByteArray) (u : Nat) (w : World) (ha : isT a = true) (hb : isT b = true) (hab : a ≤ b) (h : UnitIs s u) (h5 : u < 5) :
    Calls Tryz.prog 29 #[.int .i64 a, .int .i64 b, .string s] w fun e w' => e = .returned (.tuple #[.int .i64 (btw a b u), .int .i64 0]) ∧ Below w.heap.size w w' := by
  obtain ⟨a1, a2⟩ := isT_iff.1 ha
  obtain ⟨b1, b2⟩ := isT_iff.1 hb
  have HB : Hid (btw a b u = (b - a) / uLen u) := Lib.hid (by unfold btw; rw [if_pos h5])
  have hU := fun w => refUnit_is s u w h
  rw [uSec_sec u h5] at hU
  have hL := uLen_sec u h5
  obtain ⟨L, hLL⟩ : ∃ L, uLen u = L := ⟨_, rfl⟩
  rw [hLL] at hL hU HB
  have HU := Lib.hid hU
  have HTA := Lib.hid ha
  have HTB := Lib.hid hb
  obtain ⟨l1, l2⟩ := hL
  have l0 : 0 < L := by omega
  clear hLL ha hb hU h
  go_enter Tryz.func29, Tryz.ntmps29
  go_wp2_with fail
  refine (refRight_any _ _).mono ?_
  rintro e w' ⟨rfl, rfl⟩
  rw [HTA.out]
  go_wp2_with fail
  refine (refRight_any _ _).mono ?_
  rintro e w' ⟨rfl, rfl⟩
  rw [HTB.out]
  go_wp2_with fail
  refine (HU.out _).mono ?_
  rintro e w' ⟨rfl, rfl⟩
  go_wp2_with fail
  go_ret2
  exact ⟨by rw [HB.out]; rfl, Below.refl _ _⟩

set_option maxRecDepth 100000 in
set_option maxHeartbeats 6400000 in
theorem refBetween_mon (a b : Int) (s : ByteArray) (u : Nat) (w : World) (ha : isT a = true) (hb : isT b = true) (hab : a ≤ b) (h : UnitIs s u) (hu : 5 ≤ u) :
    Calls Tryz.prog 29 #[.int .i64 a, .int .i64 b, .string s] w fun e w' => e = .returned (.tuple #[.int .i64 (btw a b u), .int .i64 0]) ∧ Below w.heap.size w w' := by
  obtain ⟨a1, a2⟩ := isT_iff.1 ha
  obtain ⟨b1, b2⟩ := isT_iff.1 hb
  have h0 := mDiff_nonneg a b ha hb hab
  have h0' := (mDiff_bd a b ha hb).1
  have hyr := fun n hn => btw_year a b ha hb hab n hn
  have HAdd := Lib.hid (fun n => refAdd_is a n s u ha h)
  obtain ⟨⟨c1, c2, c3, c4, c5⟩, c6⟩ := isT_day ha
  obtain ⟨⟨d1, d2, d3, d4, d5⟩, d6⟩ := isT_day hb
  have hmd : mDiff a b = 12 * cYear (b / 86400) + cMonth (b / 86400) - 12 * cYear (a / 86400) - cMonth (a / 86400) := rfl
  obtain ⟨Y, M, D, hh, ii, ss, A⟩ := atIs a
  obtain ⟨Y2, M2, D2, hh2, ii2, ss2, A2⟩ := atIs b
  rw [A.y, A.m, A2.y, A2.m] at hmd
  rw [A.y, A2.y] at hyr
  rw [A.y] at c1 c6
  rw [A.m] at c2 c3
  rw [A2.y] at d1 d6
  rw [A2.m] at d2 d3
  have hU := fun w => refUnit_is s u w h
  have hUU : ∀ w, Calls Tryz.prog 57 #[.string s] w fun e w' => e = .returned (.tuple #[.int .i64 0, .bool true]) ∧ w = w' := by
    have hu7 := h.lt
    have h56 : u = 5 ∨ u = 6 := by omega
    rcases h56 with rfl | rfl <;> exact hU
  have hcs : ∃ (n0 : Nat), (u = 5 ∧ (s.toList == [121, 101, 97, 114]) = false ∧ (n0 : Int) = mDiff a b ∧ btw a b u = (down (fitsU a b u) n0 : Nat)) ∨ (u = 6 ∧ (s.toList == [121, 101, 97, 114]) = true ∧ (n0 : Int) = Y2 - Y ∧ btw a b u = (down (fitsU a b u) n0 : Nat)) := by
    have hu7 := h.lt
    have E := h.eqs.e6
    by_cases e : u = 5
    · subst e
      refine ⟨(mDiff a b).toNat, .inl ⟨rfl, E, by omega, ?_⟩⟩
      show ((down (fitsU a b 5) (mDiff a b / 1).toNat : Nat) : Int) = _
      rw [Int.ediv_one]
    · obtain rfl : u = 6 := by omega
      have hy : 0 ≤ Y2 - Y := by omega
      refine ⟨(Y2 - Y).toNat, .inr ⟨rfl, E, by omega, ?_⟩⟩
      rw [hyr _ (by omega)]
      rfl
  obtain ⟨n0, hcs⟩ := hcs
  obtain ⟨m, hm⟩ : ∃ m, mDiff a b = m := ⟨_, rfl⟩
  rw [hm] at h0 h0' hmd hcs
  have hn0 : n0 ≤ 200000 := by rcases hcs with ⟨_, _, e, _⟩ | ⟨_, _, e, _⟩ <;> omega
  have HMD := Lib.hid (show 12 * (Y2 - Y) + M2 - M = m by omega)
  have HTA := Lib.hid ha
  have HTB := Lib.hid hb
  have HU := Lib.hid hUU
  have HA := Lib.hid A
  have HA2 := Lib.hid A2
  obtain ⟨B, hB⟩ : ∃ B, w.heap.size = B := ⟨_, rfl⟩
  have HBs := Lib.hid hB
  clear A A2 ha hb hmd hm c4 c5 d4 d5 hB hU hUU hyr h hu
  rcases hcs with ⟨-, e6, hn1, hbt⟩ | ⟨-, e6, hn1, hbt⟩
  all_goals
    have HN1 := Lib.hid hn1
    have HBT := Lib.hid hbt
    clear hn1 hbt
    go_enter Tryz.func29, Tryz.ntmps29
    go_wp2_with fail
    refine (refRight_any _ _).mono ?_
    rintro e w' ⟨rfl, rfl⟩
    rw [HTA.out]
    go_wp2_with fail
    refine (refRight_any _ _).mono ?_
    rintro e w' ⟨rfl, rfl⟩
    rw [HTB.out]
    go_wp2_with fail
    refine (HU.out _).mono ?_
    rintro e w' ⟨rfl, rfl⟩
    go_wp2_with fail
    refine (refDate_any a Y M D hh ii ss _ HA.out (by omega) (by omega)).mono ?_
    rintro e w1 ⟨rfl, hb1⟩
    have hz1 := hb1.size
    go_wp2_with fail
    refine (refDate_any b Y2 M2 D2 hh2 ii2 ss2 _ HA2.out (by omega) (by omega)).mono ?_
    rintro e w2 ⟨rfl, hb2⟩
    have hz2 := hb2.size
    go_upto_region 12 with fail
    have hs1 := (Has.new w2 23 #[.int .i64 Y, .int .i64 M, .int .i64 D, .int .i64 hh, .int .i64 ii, .int .i64 ss]).alloc (.cells #[.int .i64 Y2, .int .i64 M2, .int .i64 D2, .int .i64 hh2, .int .i64 ii2, .int .i64 ss2] 23)
    have hs2 := Has.new (w2.alloc (.cells #[.int .i64 Y, .int .i64 M, .int .i64 D, .int .i64 hh, .int .i64 ii, .int .i64 ss] 23)) 23 #[.int .i64 Y2, .int .i64 M2, .int .i64 D2, .int .i64 hh2, .int .i64 ii2, .int .i64 ss2]
    have hsz : (w2.alloc (.cells #[.int .i64 Y, .int .i64 M, .int .i64 D, .int .i64 hh, .int .i64 ii, .int .i64 ss] 23)).heap.size = w2.heap.size + 1 := by simp
    rw [hsz] at hs2
    have hbw : Below w.heap.size w ((w2.alloc (.cells #[.int .i64 Y, .int .i64 M, .int .i64 D, .int .i64 hh, .int .i64 ii, .int .i64 ss] 23)).alloc (.cells #[.int .i64 Y2, .int .i64 M2, .int .i64 D2, .int .i64 hh2, .int .i64 ii2, .int .i64 ss2] 23)) := ((hb1.trans (hb2.mono hz1)).alloc (by omega) _).alloc (by rw [hsz]; omega) _
    generalize ((w2.alloc (.cells #[.int .i64 Y, .int .i64 M, .int .i64 D, .int .i64 hh, .int .i64 ii, .int .i64 ss] 23)).alloc (.cells #[.int .i64 Y2, .int .i64 M2, .int .i64 D2, .int .i64 hh2, .int .i64 ii2, .int .i64 ss2] 23)) = W2 at *
    generalize w2.heap.size = g at *
    have x0 : W2.cell? ⟨g, 0, none⟩ = some (.int .i64 Y) := hs1.cell 0
    have x1 : W2.cell? ⟨g, 1, none⟩ = some (.int .i64 M) := hs1.cell 1
    have y0 : W2.cell? ⟨g + 1, 0, none⟩ = some (.int .i64 Y2) := hs2.cell 0
    have y1 : W2.cell? ⟨g + 1, 1, none⟩ = some (.int .i64 M2) := hs2.cell 1
    clear hs1 hs2 hsz hb1 hb2
    go_upto_region 13 with fail
    rw [HMD.out]
    go_wp2_with fail
    have hbB : Below B w W2 := by rw [← HBs.out]; exact hbw
    have hgB : B ≤ W2.heap.size := by have := hbw.size; rw [HBs.out] at this; exact this
    clear hbw x0 x1 y0 y1
    go_loopg [14] n0 (fun gk v14 wx => ∃ k : Nat, v14 = .int .i64 k ∧ k ≤ gk ∧ down (fitsU a b u) k = down (fitsU a b u) n0 ∧ Below B w wx ∧ B ≤ wx.heap.size ∧ k ≤ 200000)
    case atStart => exact ⟨n0, congrArg (Value.int .i64) HN1.out.symm, Nat.le_refl _, rfl, hbB, hgB, hn0⟩
    case round =>
      obtain ⟨k, rfl, hk, hd, hbx, hgx, hk2⟩ := hrel
      have HD := Lib.hid hd
      clear hd
      by_cases h0 : 0 < k
      · obtain ⟨r, bb, hs, hc⟩ := HAdd.out (k : Int)
        have HC := Lib.hid hc
        clear hc
        rcases hs with ⟨rfl, hr⟩ | ⟨rfl, rfl, hr⟩
        · by_cases hrb : r ≤ b
          · have hv : down (fitsU a b u) k = k := down_hit _ _ h0 (by rw [fitsU_some hr]; simpa using hrb)
            have HV := Lib.hid hv
            clear hv hr
            go_wp2_with fail
            refine (HC.out _).mono ?_
            rintro e w4 ⟨rfl, hb4⟩
            go_wp2
            go_ret2
            exact ⟨by rw [HBT.out, ← HD.out, HV.out]; rfl, by rw [HBs.out]; exact hbx.trans (hb4.mono hgx)⟩
          · have hv : down (fitsU a b u) k = down (fitsU a b u) (k - 1) := down_miss _ _ h0 (by rw [fitsU_some hr]; simpa using hrb)
            have HV := Lib.hid hv
            clear hv hr
            go_wp2_with fail
            refine (HC.out _).mono ?_
            rintro e w4 ⟨rfl, hb4⟩
            have hz4 := hb4.size
            go_wp2
            go_roundg (gk - 1)
            case measure => omega
            case rel => exact ⟨k - 1, congrArg (Value.int .i64) (by omega), by omega, by rw [← HV.out, HD.out], hbx.trans (hb4.mono hgx), by omega, by omega⟩
        · have hv : down (fitsU a b u) k = down (fitsU a b u) (k - 1) := down_miss _ _ h0 (fitsU_none hr)
          have HV := Lib.hid hv
          clear hv hr
          go_wp2_with fail
          refine (HC.out _).mono ?_
          rintro e w4 ⟨rfl, hb4⟩
          have hz4 := hb4.size
          go_wp2
          go_roundg (gk - 1)
          case measure => omega
          case rel => exact ⟨k - 1, congrArg (Value.int .i64) (by omega), by omega, by rw [← HV.out, HD.out], hbx.trans (hb4.mono hgx), by omega, by omega⟩
      · have hv : down (fitsU a b u) k = k := by
          obtain rfl : k = 0 := by omega
          rfl
        have HV := Lib.hid hv
        clear hv
        go_wp2
        go_ret2
        exact ⟨by rw [HBT.out, ← HD.out, HV.out]; rfl, by rw [HBs.out]; exact hbx⟩
end Go.Proofs.YtcgabonoddloiaaGreatDoor
