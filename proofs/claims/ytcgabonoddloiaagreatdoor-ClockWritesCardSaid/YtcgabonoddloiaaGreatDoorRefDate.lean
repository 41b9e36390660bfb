/- date of the reference: year by year, month by month. -/
import Derived.Test.YtcgabonoddloiaaGreatDoorRef
import Derived.Test.YtcgabonoddloiaaGreatDoorHas
import Derived.Deep.LoopGhost
import Derived.Deep.CutBlock
namespace Go.Proofs.YtcgabonoddloiaaGreatDoor
open Go.RowKit Clk

/-- What the loops find is the date. -/
theorem at_of (t y m D : Int) (_ht : -62135596800 ≤ t) (y1 : 1 ≤ y) (m1 : 1 ≤ m) (m2 : m ≤ 12) (l0 : 0 ≤ (t + 62135596800) / 86400 - dby y - cum y m) (l1 : (t + 62135596800) / 86400 - dby y - cum y m < dim y m) (hD : D = (t + 62135596800) / 86400 - dby y - cum y m + 1) :
    AtIs t y m D ((t + 62135596800) % 86400 / 3600) ((t + 62135596800) % 86400 / 60 % 60) ((t + 62135596800) % 86400 % 60) := by
  have e1 : (t + 62135596800) / 86400 = t / 86400 + 719162 := by omega
  have e2 : (t + 62135596800) % 86400 = t % 86400 := by omega
  have hday : IsDay y m D := ⟨y1, m1, m2, by omega, by omega⟩
  obtain ⟨a, b, c⟩ := civ_eq (t / 86400) y m D hday (by unfold num; omega)
  exact ⟨a, b, c, by rw [e2], by rw [e2], by rw [e2]⟩

set_option maxRecDepth 100000 in
set_option maxHeartbeats 4000000 in
theorem refDate_any (t Y M D h i s : Int) (w : World) (A : AtIs t Y M D h i s) (h1 : -62135596800 ≤ t) (h2 : t ≤ 300000000000) :
    Calls Tryz.prog 37 #[.int .i64 t] w fun e w' => e = .returned (.agg #[.int .i64 Y, .int .i64 M, .int .i64 D, .int .i64 h, .int .i64 i, .int .i64 s]) ∧ Below w.heap.size w w' := by
  obtain ⟨n, hn⟩ : ∃ n, (t + 62135596800) / 86400 = n := ⟨_, rfl⟩
  obtain ⟨r, hr⟩ : ∃ r, (t + 62135596800) % 86400 = r := ⟨_, rfl⟩
  have n0 : 0 ≤ n ∧ n ≤ 5000000 := by omega
  have r0 : 0 ≤ r ∧ r < 86400 := by omega
  have hAt := fun y m D => at_of t y m D h1
  rw [hn, hr] at hAt
  obtain ⟨aY, aM, aD, ah, ai, az⟩ := A
  have HU : Hid (∀ y m : Int, 1 ≤ y → 1 ≤ m → m ≤ 12 → 0 ≤ n - dby y - cum y m → n - dby y - cum y m < dim y m → Y = y ∧ M = m ∧ D = n - dby y - cum y m + 1 ∧ h = r / 3600 ∧ i = r / 60 % 60 ∧ s = r % 60) := Lib.hid (by
    intro y m y1 m1 m2 l0 l1
    obtain ⟨b1, b2, b3, b4, b5, b6⟩ := hAt y m _ y1 m1 m2 l0 l1 rfl
    exact ⟨aY.symm.trans b1, aM.symm.trans b2, aD.symm.trans b3, ah.symm.trans b4, ai.symm.trans b5, az.symm.trans b6⟩)
  have hT : t + 62135596800 = n * 86400 + r := by omega
  obtain ⟨n0, n1⟩ := n0
  obtain ⟨r0, r1⟩ := r0
  have Hn := Lib.hid hn
  have Hr := Lib.hid hr
  have Hd := Lib.hid dby_1
  clear hAt aY aM aD ah ai az hn hr hT
  obtain ⟨B, hB⟩ : ∃ B, w.heap.size = B := ⟨_, rfl⟩
  have HB := Lib.hid hB
  go_enter Tryz.func37, Tryz.ntmps37
  go_wp2_with fail
  have hs0 := Has.new (w.alloc (.cells #[.int .i64 0, .int .i64 0, .int .i64 0, .int .i64 0, .int .i64 0, .int .i64 0] 23)) 23 #[.int .i64 1, .int .i64 1, .int .i64 0, .int .i64 ((t + 62135596800) % 86400 / 3600), .int .i64 ((t + 62135596800) % 86400 / 60 % 60), .int .i64 ((t + 62135596800) % 60)]
  have hs1 := (Has.new w 23 #[.int .i64 0, .int .i64 0, .int .i64 0, .int .i64 0, .int .i64 0, .int .i64 0]).alloc (.cells #[.int .i64 1, .int .i64 1, .int .i64 0, .int .i64 ((t + 62135596800) % 86400 / 3600), .int .i64 ((t + 62135596800) % 86400 / 60 % 60), .int .i64 ((t + 62135596800) % 60)] 23)
  have hb0 : Below B w ((w.alloc (.cells #[.int .i64 0, .int .i64 0, .int .i64 0, .int .i64 0, .int .i64 0, .int .i64 0] 23)).alloc (.cells #[.int .i64 1, .int .i64 1, .int .i64 0, .int .i64 ((t + 62135596800) % 86400 / 3600), .int .i64 ((t + 62135596800) % 86400 / 60 % 60), .int .i64 ((t + 62135596800) % 60)] 23)) := (((Below.refl _ w).alloc (by omega) _).alloc (by simp; omega) _)
  have e3 : (t + 62135596800) % 60 = r % 60 := by rw [← Hr.out]; omega
  have e4 : (w.alloc (.cells #[.int .i64 0, .int .i64 0, .int .i64 0, .int .i64 0, .int .i64 0, .int .i64 0] 23)).heap.size = B + 1 := by simp [hB]
  rw [e3, Hr.out] at hs0 hs1 hb0
  rw [e4] at hs0
  rw [hB] at hs1
  have HS := Lib.hid (And.intro hs0 (And.intro hs1 hb0))
  have E3 := Lib.hid e3
  clear hs0 hs1 hb0 e3 e4
  rw [E3.out, Hr.out, Hn.out]
  go_loopg [4] (n.toNat + 1) (fun g v4 wx => ∃ y : Int, 1 ≤ y ∧ y ≤ 20000 ∧ 0 ≤ n - dby y ∧ (n - dby y).toNat < g + 1 ∧ v4 = .int .i64 (n - dby y) ∧ Has wx (B + 1) 23 #[.int .i64 y, .int .i64 1, .int .i64 0, .int .i64 (r / 3600), .int .i64 (r / 60 % 60), .int .i64 (r % 60)] ∧ Has wx B 23 #[.int .i64 0, .int .i64 0, .int .i64 0, .int .i64 0, .int .i64 0, .int .i64 0] ∧ Below B w wx)
  case atStart =>
    exact ⟨1, by omega, by omega, by rw [Hd.out]; omega, by rw [Hd.out]; omega, by rw [Hd.out]; simp, HS.out.1, HS.out.2.1, HS.out.2.2⟩
  case round =>
    obtain ⟨y, y1, y2, l0, lg, rfl, hs, hs', hbx⟩ := hrel
    have hSu := dby_succ y
    have hl := lp_01 y
    obtain ⟨N, hN⟩ : ∃ N, dby y = N := ⟨_, rfl⟩
    obtain ⟨l, hl'⟩ : ∃ l, lp y = l := ⟨_, rfl⟩
    have hN2 : N ≤ n := by omega
    have hN3 : 365 * (y - 1) ≤ N := by rw [← hN]; unfold dby; omega
    rw [hN] at lg l0 hSu ⊢
    rw [hl'] at hl hSu
    have HL := Lib.hid hl'
    have HN := Lib.hid hN
    have HSu := Lib.hid hSu
    have c0 : wr.cell? ⟨B + 1, 0, none⟩ = some (.int .i64 y) := hs.cell 0
    have c1 : wr.cell? ⟨B + 1, 1, none⟩ = some (.int .i64 1) := hs.cell 1
    have f0 := hs.free 0
    have HH := Lib.hid (And.intro hs (And.intro hs' hbx))
    obtain ⟨hl0, hl1⟩ := hl
    clear hN hl' hSu hs hs' hbx
    by_cases hge : 365 + l ≤ n - N
    · go_wp2_with (go_at_call 70; refine (whole_any _ _ (by omega) (by omega)).mono ?_; rintro e w' ⟨rfl, rfl⟩; rw [HL.out])
      go_roundg (gk - 1)
      case measure => omega
      case rel =>
        refine ⟨y + 1, by omega, by omega, by rw [HSu.out]; omega, by rw [HSu.out]; omega, by rw [HSu.out]; go_num, HH.out.1.put 0 _, HH.out.2.1.far (by simp) _, HH.out.2.2.setCell (by simp) _⟩
    · have hcu : ∀ m, 1 ≤ m → m ≤ 12 → cum y (m + 1) = cum y m + dim y m := fun m a b => cum_succ y m a b
      have hc13 : cum y 13 = 365 + l := by rw [cum_13, HL.out]
      have Hcu := Lib.hid hcu
      have Hc1 := Lib.hid (cum_1 y)
      have Hc13 := Lib.hid hc13
      have Hdb := Lib.hid (fun m => dim_bd y m)
      have Hcb := Lib.hid (fun m => cum_bd y m)
      have hlt : n - N < 365 + l := by omega
      clear hcu hc13
      go_wp2_with (go_at_call 70; refine (whole_any _ _ (by omega) (by omega)).mono ?_; rintro e w' ⟨rfl, rfl⟩; rw [HL.out])
      go_loopg [4] 13 (fun g v4 wx => ∃ m : Int, 1 ≤ m ∧ m ≤ 12 ∧ (13 - m).toNat ≤ g ∧ 0 ≤ n - N - cum y m ∧ v4 = .int .i64 (n - N - cum y m) ∧ Has wx (B + 1) 23 #[.int .i64 y, .int .i64 m, .int .i64 0, .int .i64 (r / 3600), .int .i64 (r / 60 % 60), .int .i64 (r % 60)] ∧ Has wx B 23 #[.int .i64 0, .int .i64 0, .int .i64 0, .int .i64 0, .int .i64 0, .int .i64 0] ∧ Below B w wx)
      case atStart =>
        exact ⟨1, by omega, by omega, by omega, by rw [Hc1.out]; omega, by rw [Hc1.out]; simp, HH.out.1, HH.out.2.1, HH.out.2.2⟩
      case round =>
        obtain ⟨m, m1, m2, mg, q0, rfl, hs, hs', hbx⟩ := hrel
        have hdb := Hdb.out m
        have hcb := Hcb.out m
        have hS := Hcu.out m m1 m2
        have hm12 : m = 12 → n - N - cum y m < dim y m := fun e => by
          subst e
          have := Hc13.out
          have h13 : cum y (12 + 1) = 365 + l := this
          omega
        obtain ⟨C, hC⟩ : ∃ C, cum y m = C := ⟨_, rfl⟩
        obtain ⟨d, hd⟩ : ∃ d, dim y m = d := ⟨_, rfl⟩
        rw [hC] at hS hm12 q0 hcb ⊢
        rw [hd] at hdb hS hm12
        have HC := Lib.hid hC
        have HDm := Lib.hid hd
        have HS2 := Lib.hid hS
        have c0 : wr.cell? ⟨B + 1, 0, none⟩ = some (.int .i64 y) := hs.cell 0
        have c1 : wr.cell? ⟨B + 1, 1, none⟩ = some (.int .i64 m) := hs.cell 1
        have c3 : wr.cell? ⟨B + 1, 3, none⟩ = some (.int .i64 (r / 3600)) := hs.cell 3
        have c4 : wr.cell? ⟨B + 1, 4, none⟩ = some (.int .i64 (r / 60 % 60)) := hs.cell 4
        have c5 : wr.cell? ⟨B + 1, 5, none⟩ = some (.int .i64 (r % 60)) := hs.cell 5
        have c2 : wr.cell? ⟨B + 1, 2, none⟩ = some (.int .i64 0) := hs.cell 2
        have f1 := hs.free 1
        have f2 := hs.free 2
        have HH2 := Lib.hid (And.intro hs (And.intro hs' hbx))
        obtain ⟨d28, d31⟩ := hdb
        obtain ⟨q1, q2⟩ := hcb
        clear hC hd hS hs hs' hbx
        by_cases hge : d ≤ n - N - C
        · have hm11 : m ≤ 11 := by
            by_cases e : m = 12
            · have := hm12 e; omega
            · omega
          clear hm12
          go_wp2_with (go_at_call 45; refine (refLength_any _ _ _ (by omega) (by omega)).mono ?_; rintro e w' ⟨rfl, rfl⟩; rw [HDm.out])
          go_roundg (gk - 1)
          case measure => omega
          case rel =>
            refine ⟨m + 1, by omega, by omega, by omega, by rw [HS2.out]; omega, by rw [HS2.out]; go_num, HH2.out.1.put 1 _, HH2.out.2.1.far (by simp) _, HH2.out.2.2.setCell (by simp) _⟩
        · clear hm12
          have hu := HU.out y m y1 m1 m2 (by rw [HN.out, HC.out]; omega) (by rw [HN.out, HC.out, HDm.out]; omega)
          rw [HN.out, HC.out] at hu
          obtain ⟨rfl, rfl, u3, u4, u5, u6⟩ := hu
          have U := Lib.hid (And.intro u3 (And.intro u4 (And.intro u5 u6)))
          have e0 : wr.cell? ⟨B, 0, none⟩ = some (.int .i64 0) := HH2.out.2.1.cell 0
          have e1 : wr.cell? ⟨B, 1, none⟩ = some (.int .i64 0) := HH2.out.2.1.cell 1
          have e2 : wr.cell? ⟨B, 2, none⟩ = some (.int .i64 0) := HH2.out.2.1.cell 2
          have e3 : wr.cell? ⟨B, 3, none⟩ = some (.int .i64 0) := HH2.out.2.1.cell 3
          have e4 : wr.cell? ⟨B, 4, none⟩ = some (.int .i64 0) := HH2.out.2.1.cell 4
          have e5 : wr.cell? ⟨B, 5, none⟩ = some (.int .i64 0) := HH2.out.2.1.cell 5
          have g0 := HH2.out.2.1.free 0
          have g1 := HH2.out.2.1.free 1
          have g2 := HH2.out.2.1.free 2
          have g3 := HH2.out.2.1.free 3
          have g4 := HH2.out.2.1.free 4
          have g5 := HH2.out.2.1.free 5
          clear u3 u4 u5 u6
          go_wp2_with (go_at_call 45; refine (refLength_any _ _ _ (by omega) (by omega)).mono ?_; rintro e w' ⟨rfl, rfl⟩; rw [HDm.out])
          refine bodyPost_ret (v := .agg #[.int .i64 Y, .int .i64 M, .int .i64 (n - N - C + 1), .int .i64 (r / 3600), .int .i64 (r / 60 % 60), .int .i64 (r % 60)]) ?_ rfl ⟨?_, ?_⟩
          · simp [results, Tryz.results37, go_sem, e0, e1, e2, e3, e4, e5]
          · obtain ⟨rfl, rfl, rfl, rfl⟩ := U.out
            rfl
          · rw [HB.out]
            exact ((((((HH2.out.2.2.setCell (by simp) _).setCell (by simp) _).setCell (by simp) _).setCell (by simp) _).setCell (by simp) _).setCell (by simp) _).setCell (by simp) _
end Go.Proofs.YtcgabonoddloiaaGreatDoor
