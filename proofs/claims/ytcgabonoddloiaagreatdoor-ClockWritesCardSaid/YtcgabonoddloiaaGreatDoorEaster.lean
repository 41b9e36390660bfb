/- Easter of the program, and its number in plain mathematics. -/
import Derived.Test.YtcgabonoddloiaaGreatDoorAt
import Derived.Test.YtcgabonoddloiaaGreatDoorEas
import Derived.Deep.CutRange
import Derived.Deep.DeepCutAuto
import Derived.Deep.CutBlock
namespace Go.Proofs.YtcgabonoddloiaaGreatDoor
open Go.RowKit Clk

set_option maxHeartbeats 1600000 in
theorem easter_ok (y : Int) (w : World) (h : isY y = true) :
    Calls Tryz.prog 46 #[.int .i64 y] w fun e w' => e = .returned (.tuple #[.int .i64 (esNum y * 86400), .int .i64 0]) ∧ w = w' := by
  have hb := isY_iff.1 h
  have HN : Hid (esNum y = dTo y (esMonth y) (esDay y)) := Lib.hid rfl
  obtain ⟨a, ha⟩ : ∃ a, y % 19 = a := ⟨_, rfl⟩
  obtain ⟨b, hb'⟩ : ∃ b, y / 100 = b := ⟨_, rfl⟩
  obtain ⟨c, hc⟩ : ∃ c, y % 100 = c := ⟨_, rfl⟩
  have a1 : 0 ≤ a ∧ a ≤ 18 := ha ▸ mod_bd y 19 (by decide)
  have b1 : 0 ≤ b ∧ b ≤ 99 := by omega
  have c1 : 0 ≤ c ∧ c ≤ 99 := hc ▸ mod_bd y 100 (by decide)
  obtain ⟨g, hg⟩ : ∃ g, (8 * b + 13) / 25 = g := ⟨_, rfl⟩
  have g1 := hg ▸ esG_bd b b1.1 b1.2
  have p1 : 0 ≤ 19 * a + b - b / 4 - g + 15 := by clear ha hb' hc hg; omega
  obtain ⟨h', hh⟩ : ∃ h, (19 * a + b - b / 4 - g + 15) % 30 = h := ⟨_, rfl⟩
  have h1 : 0 ≤ h' ∧ h' ≤ 29 := hh ▸ mod_bd _ 30 (by decide)
  obtain ⟨m, hm⟩ : ∃ m, (a + 11 * h') / 319 = m := ⟨_, rfl⟩
  have m1 := hm ▸ esM_bd a h' a1.1 a1.2 h1.1 h1.2
  have p2 := esL_bd b c h' m h1.2 m1.1 c1.1
  obtain ⟨l, hl⟩ : ∃ l, (2 * (b % 4) + 2 * (c / 4) - c % 4 - h' + m + 32) % 7 = l := ⟨_, rfl⟩
  have l1 : 0 ≤ l ∧ l ≤ 6 := hl ▸ mod_bd _ 7 (by decide)
  have p3 : 0 ≤ h' - m + l + 90 ∧ h' - m + l + 90 < 125 := by clear ha hb' hc hg hh hm hl p1 p2 g1; omega
  obtain ⟨k, hk⟩ : ∃ k, (h' - m + l + 90) / 25 = k := ⟨_, rfl⟩
  have k1 : 3 ≤ k ∧ k ≤ 4 := by clear ha hb' hc hg hh hm hl p1 p2 g1; omega
  obtain ⟨d, hd⟩ : ∃ d, (h' - m + l + k + 19) % 32 = d := ⟨_, rfl⟩
  have d1 : 0 ≤ d ∧ d ≤ 31 := hd ▸ mod_bd _ 32 (by decide)
  have eG : esG y = g := by unfold esG; rw [hb', hg]
  have eH : esH y = h' := by unfold esH; rw [eG, ha, hb', hh]
  have eM : esM y = m := by unfold esM; rw [eH, ha, hm]
  have eL : esL y = l := by unfold esL; rw [eH, eM, hb', hc, hl]
  have eK : esMonth y = k := by unfold esMonth; rw [eH, eM, eL, hk]
  have eD : esDay y = d := by unfold esDay; rw [eH, eM, eL, eK, hd]
  have HE := Lib.hid (show esNum y = dTo y k d by rw [HN.out, eK, eD])
  obtain ⟨y0, y2⟩ := hb
  obtain ⟨k0, k2⟩ := k1
  obtain ⟨d0, d2⟩ := d1
  have hD := dTo_bd y k d (by omega) (by omega) (by omega) (by omega) (by omega) (by omega)
  obtain ⟨D, eD'⟩ : ∃ D, dTo y k d = D := ⟨_, rfl⟩
  rw [eD'] at hD
  have HD := Lib.hid eD'
  have va := Lib.hid ha
  have vb := Lib.hid hb'
  have vc := Lib.hid hc
  have vg := Lib.hid hg
  have vh := Lib.hid hh
  have vm := Lib.hid hm
  have vl := Lib.hid hl
  have vk := Lib.hid hk
  have vd := Lib.hid hd
  have P1 := Lib.hid p1
  have P2 := Lib.hid p2
  have A := Lib.hid a1
  have B := Lib.hid b1
  have C := Lib.hid c1
  have G := Lib.hid g1
  have HH := Lib.hid h1
  have M := Lib.hid m1
  have L := Lib.hid l1
  clear eG eH eM eL eK eD ha hb' hc hg hh hm hl hk hd HN p1 p2 p3 a1 b1 c1 g1 h1 m1 l1 eD'
  go_enter Tryz.func46, Tryz.ntmps46
  go_upto_region 3 with (first | (go_at_call 40; refine (isYear_any _ _).mono ?_; rintro e w' ⟨rfl, rfl⟩; rw [h]))
  go_cut [2, 3, 4, 5, 6] from 15 to 76 (fun v2 v3 v4 v5 v6 wx => v2 = .int .i64 0 ∧ v3 = .int .i64 0 ∧ v4 = .int .i64 a ∧ v5 = .int .i64 b ∧ v6 = .int .i64 c ∧ w = wx)
  case first =>
    go_wp2
    go_meet
    case rel => exact ⟨rfl, rfl, by rw [va.out], by rw [vb.out], by rw [vc.out], rfl⟩
  case rest =>
    obtain ⟨rfl, rfl, rfl, rfl, rfl, rfl⟩ := hcut
    obtain ⟨b1, b2⟩ := B.out
    go_upto_region 4 with fail
    go_cut [7] from 15 to 76 (fun v7 wx => v7 = .int .i64 g ∧ w = wx)
    case first =>
      go_wp2
      go_meet
      case rel => exact ⟨by rw [vg.out], rfl⟩
    case rest =>
      obtain ⟨rfl, rfl⟩ := hcut
      obtain ⟨a1, a2⟩ := A.out
      obtain ⟨g1, g2, g3⟩ := G.out
      go_upto_region 5 with fail
      go_cut [8] from 15 to 76 (fun v8 wx => v8 = .int .i64 h' ∧ w = wx)
      case first =>
        have p1 := P1.out
        go_wp2
        go_meet
        case rel => exact ⟨by rw [vh.out], rfl⟩
      case rest =>
        obtain ⟨rfl, rfl⟩ := hcut
        obtain ⟨h1, h2⟩ := HH.out
        clear g1 g2 g3
        go_upto_region 6 with fail
        go_cut [9] from 15 to 76 (fun v9 wx => v9 = .int .i64 m ∧ w = wx)
        case first =>
          go_wp2
          go_meet
          case rel => exact ⟨by rw [vm.out], rfl⟩
        case rest =>
          obtain ⟨rfl, rfl⟩ := hcut
          obtain ⟨m1, m2, m3⟩ := M.out
          clear a1 a2
          obtain ⟨c1, c2⟩ := C.out
          go_upto_region 7 with fail
          go_cut [10] from 15 to 76 (fun v10 wx => v10 = .int .i64 l ∧ w = wx)
          case first =>
            have p2 := P2.out
            go_wp2
            go_meet
            case rel => exact ⟨by rw [vl.out], rfl⟩
          case rest =>
            obtain ⟨rfl, rfl⟩ := hcut
            obtain ⟨l1, l2⟩ := L.out
            clear b1 b2 c1 c2
            go_upto_region 8 with fail
            go_cut [11] from 15 to 76 (fun v11 wx => v11 = .int .i64 k ∧ w = wx)
            case first =>
              go_wp2
              go_meet
              case rel => exact ⟨by rw [vk.out], rfl⟩
            case rest =>
              obtain ⟨rfl, rfl⟩ := hcut
              obtain ⟨hD1, hD2⟩ := hD
              go_wp2_with (first | (go_at_call 54; rw [vd.out]; refine (daysTo_any _ _ _ _ (by omega) (by omega) (by omega) (by omega) (by omega) (by omega)).mono ?_; rintro e w' ⟨rfl, rfl⟩; rw [HD.out]))
              go_ret2
              exact ⟨by rw [HE.out, HD.out]; rfl, rfl⟩

set_option maxHeartbeats 400000 in
theorem easter_no (y : Int) (w : World) (h : isY y = false) :
    Calls Tryz.prog 46 #[.int .i64 y] w fun e w' => e = .returned (.tuple #[.int .i64 0, .int .i64 7]) ∧ w = w' := by
  go_enter Tryz.func46, Tryz.ntmps46
  go_wp2_with (first | (go_at_call 40; refine (isYear_any _ _).mono ?_; rintro e w' ⟨rfl, rfl⟩; rw [h]))
  go_ret2
  exact ⟨rfl, rfl⟩
end Go.Proofs.YtcgabonoddloiaaGreatDoor
