/- digits of the program: what it answers. -/
import Derived.Test.YtmnibfdenmeepaaDoorDigits
namespace Go.Proofs.YtmnibfdenmeepaaDoor
open Go.RowKit Go.Shelf Big

theorem digits_zero (B : Nat) (va : Value) (b : Nat) (w : World) (ha : NatIs w B va 0) :
    Calls Tryd.prog 93 #[va, .int .i64 (b : Int)] w fun e w' => e = .returned (.string ⟨(digs b 0).toArray⟩) ∧ Below w.heap.size w w' := by
  obtain ⟨ao, c, rfl⟩ := ha.slice
  rw [lims_zero]
  go_enter Tryd.func93, Tryd.ntmps93
  go_wp2
  go_ret
  exact ⟨rfl, Below.refl _ _⟩

theorem own_below {w w' : World} {B : Nat} {e : TypeId} {s : Nat} {v : Value} {n : Nat} {xs : List Value} (h : w.ownsRow B e s v n xs) (hb : Below w.heap.size w w') : w'.ownsRow B e s v n xs := by
  refine ⟨h.1, ?_⟩
  rcases h.2 with hn | ⟨g, cap, cur, rfl, h1, hg, h3⟩
  · exact .inl hn
  · exact .inr ⟨g, cap, cur, rfl, h1, (hb.block g (Array.getElem?_eq_some_iff.1 hg).1).trans hg, h3⟩
/-- A row of bytes in its own block. -/
structure RowB (w : World) (B g cap n : Nat) (M : List UInt8) : Prop where
  len : M.length = n
  row : w.ownsRow B 5 1 (.slice (some ⟨g, 0, none⟩) n cap) n (Lib.byteCells M)
theorem rowB_of {w : World} {B n : Nat} {v : Value} {M : List UInt8} (h : w.ownsRow B 5 1 v n (Lib.byteCells M)) (hn : 0 < n) : ∃ g cap, v = .slice (some ⟨g, 0, none⟩) n cap ∧ RowB w B g cap n M := by
  have hl := h.1
  rcases h.2 with ⟨rfl, h0⟩ | ⟨g, cap, cur, rfl, _⟩
  · omega
  · exact ⟨g, cap, rfl, by simpa [Lib.byteCells] using hl, h⟩
theorem RowB.cell {w : World} {B g cap n : Nat} {M : List UInt8} (h : RowB w B g cap n M) (j : Nat) (hj : j < M.length) : w.cell? ⟨g, j, none⟩ = some (.int .u8 (M[j].toNat : Int)) := by
  rw [World.ownsRow.cellAt h.row j (by rw [← h.len]; omega)]
  simp [Lib.byteCells, hj]
theorem RowB.free {w : World} {B g cap n : Nat} {M : List UInt8} (h : RowB w B g cap n M) (j : Nat) : w.frozen? ⟨g, j, none⟩ = false := World.ownsRow.frozenAt h.row j
theorem RowB.put {w : World} {B g cap n : Nat} {M : List UInt8} (h : RowB w B g cap n M) (j : Nat) (c : UInt8) : RowB (w.setCell ⟨g, j, none⟩ (.int .u8 (c.toNat : Int))) B g cap n (M.set j c) := by
  refine ⟨by rw [List.length_set]; exact h.len, ?_⟩
  have := (World.ownsRow.stored h.row j (.int .u8 (c.toNat : Int))).1
  rw [show Lib.byteCells (M.set j c) = (Lib.byteCells M).set j (.int .u8 (c.toNat : Int)) by simp [Lib.byteCells, List.map_set]]
  exact this
theorem RowB.base {w : World} {B g cap n : Nat} {M : List UInt8} (h : RowB w B g cap n M) : B ≤ g := (World.ownsRow.lt h.row g rfl).1
theorem RowB.drew {w : World} {B g cap n : Nat} {M : List UInt8} (h : RowB w B g cap n M) : RowB w.drew B g cap n M := ⟨h.len, h.row⟩
theorem RowB.conv {w : World} {B g cap n : Nat} {M : List UInt8} (h : RowB w B g cap n M) : (convert 114 9 (.slice (some ⟨g, 0, none⟩) n cap)).run Tryd.prog w = .ok (.string ⟨M.toArray⟩) w := by
  refine conv_own (base := B) ?_
  have := h.row
  rw [← h.len] at this ⊢
  exact this
theorem byteCells_snoc (l : List UInt8) (c : UInt8) : Lib.byteCells (l ++ [c]) = Lib.byteCells l ++ [.int .u8 (c.toNat : Int)] := by simp [Lib.byteCells]

set_option maxRecDepth 100000 in
set_option maxHeartbeats 8000000 in
theorem digits_pos (B : Nat) (va : Value) (b n : Nat) (w : World) (ha : NatIs w B va n) (hn : 0 < n) (hb : 2 ≤ b) (hb2 : b ≤ 36) (hla : (lims 4294967296 n).length ≤ 100000) (hN : (lims b n).length ≤ 4000000) :
    Calls Tryd.prog 93 #[va, .int .i64 (b : Int)] w fun e w' => e = .returned (.string ⟨(digs b n).toArray⟩) ∧ Below w.heap.size w w' := by
  obtain ⟨i0, hi, hz0, hz1, hz2⟩ := info_parts Tryd.info75
  obtain ⟨i5, hi5, hy0, hy1, hy2⟩ := info_parts Tryd.info5
  have HA := Lib.hid ha
  have hlp : 0 < (lims 4294967296 n).length := by
    rcases Nat.eq_zero_or_pos (lims 4294967296 n).length with h | h
    · have := (lims_nil w32_ge).1 (List.eq_nil_of_length_eq_zero h); omega
    · exact h
  obtain ⟨ao, ca, rfl, ra⟩ := ha.reads hla
  obtain ⟨ga, rfl, hga, -⟩ := ra.2.1 0 hlp
  have hcells : ∀ j u, ((lims 4294967296 n).map u32v)[j]? = some u → w.cell? ((⟨ga, 0, none⟩ : Addr).add j) = some u := fun j u hu => World.ownsRow.cells ha (g := ga) rfl j u hu
  have HCE := Lib.hid hcells
  have HLB := Lib.hid (rfl : digs b n = digs b n)
  obtain ⟨la, hl⟩ : ∃ la, (lims 4294967296 n).length = la := ⟨_, rfl⟩
  rw [hl] at hla ra hlp
  have Hl := Lib.hid hl
  have hl2 : ((lims 4294967296 n).map u32v).length = la * 1 := by rw [List.length_map, hl, Nat.mul_one]
  have HL2 := Lib.hid hl2
  rw [hl]
  clear ha hl hl2 hcells ra
  have hlI : ¬ (la : Int) = 0 := by omega
  have hlE : ((la : Int) == 0) = false := by simpa using hlI
  go_enter Tryd.func93, Tryd.ntmps93
  go_wp2_with (first
    | (go_at_call 117; refine (chunk_any b _ hb hb2).mono ?_; rintro e w' ⟨⟨k, m, hk1, hk2, hk3, hm, rfl⟩, rfl⟩; have Hm := Lib.hid hm; clear hm)
    | (at_builtin; refine wpList_append_own _ rfl _ _ 44 rfl w.heap.size 75 i0 (.int .u32 0) 1 4 Tryd.underlying44 hi hz0 hz1 hz2 rfl (by decide) (.slice none 0 0) 0 [] rfl (World.ownsRow_nil _ _ _ _) ⟨ga, 0, none⟩ la ca ((lims 4294967296 n).map u32v) rfl HL2.out HCE.out (by intro u hu; simp only [List.mem_map] at hu; obtain ⟨d, _, rfl⟩ := hu; rfl) (by unfold maxLen; omega) (by omega) (Nat.le_refl _) ?_; intro v' w2 hown2 hgrow _))
  have hnat : NatIs w2 w.heap.size v' n := by
    unfold NatIs
    rw [Hl.out]
    simpa using hown2
  have hb0 : Below w.heap.size w w2 := (Below.refl _ w).grown hgrow (Nat.le_refl _) (fun k e => by simp [Value.ownBlock] at e)
  have hm0 : 0 < m := by rw [← Hm.out]; exact Nat.pow_pos (by omega)
  have hm2 : 2 ≤ m := by
    have h1 := pow_two_le b k hb
    rw [Hm.out] at h1
    have h2 : 2 ^ 1 ≤ 2 ^ k := Nat.pow_le_pow_right (by omega) hk1
    omega
  clear hown2 hgrow HCE HL2 hlE hlI
  obtain ⟨ao2, c2, rfl⟩ := hnat.slice
  go_loopg [0, 7] n (fun g v0 v7 wx => ∃ od : List Nat, g ≤ n ∧ NatIs wx w.heap.size v0 g ∧ wx.ownsRow w.heap.size 5 1 v7 od.length (Lib.byteCells (od.map chr)) ∧ lims b n = od ++ lims b g ∧ Below w.heap.size w wx)
  case atStart => exact ⟨[], Nat.le_refl _, hnat, World.ownsRow_nil _ _ _ _, rfl, hb0⟩
  case round =>
    obtain ⟨G, rfl⟩ : ∃ G, G = gk := ⟨_, rfl⟩
    obtain ⟨od, hgn, hng, hrow, he, hB⟩ := hrel
    have He := Lib.hid he
    have hz := hB.size
    clear he hnat hb0
    rcases Nat.eq_zero_or_pos G with rfl | hpos
    · obtain ⟨ag, cg, rfl⟩ := hng.slice
      rw [lims_zero]
      have hod : od = lims b n := by have := He.out; rw [lims_zero, List.append_nil] at this; exact this.symm
      have hNp : 0 < od.length := by
        rcases Nat.eq_zero_or_pos od.length with h | h
        · have := (lims_nil hb).1 (hod.symm.trans (List.eq_nil_of_length_eq_zero h)); omega
        · exact h
      have hNm : od.length ≤ 4000000 := by rw [hod]; exact hN
      have HD := Lib.hid (show digs b n = (od.map chr).reverse by unfold digs; rw [if_neg (by omega), hod])
      obtain ⟨gr, cr, rfl, hrow2⟩ := rowB_of hrow hNp
      have hLl : (od.map chr).length = od.length := by simp
      obtain ⟨L, hL⟩ : ∃ L, od.map chr = L := ⟨_, rfl⟩
      rw [hL] at hrow2 hLl HD
      obtain ⟨N, hNe⟩ : ∃ N, od.length = N := ⟨_, rfl⟩
      rw [hNe] at hLl hNp hNm hrow2 ⊢
      have HLl := Lib.hid hLl
      clear hod hL hNe hrow hLl
      have hsub : wrap64 ((N : Int) - 1) = (N : Int) - 1 := by unfold wrap64; omega
      go_wp2_with fail
      go_loopg [10, 11] N (fun g' v10 v11 wx => ∃ (i : Nat) (M : List UInt8), v10 = .int .i64 (i : Int) ∧ v11 = .int .i64 ((N : Int) - 1 - (i : Int)) ∧ i + g' = N ∧ RowB wx w.heap.size gr cr N M ∧ Rv L M i ∧ Below w.heap.size w wx)
      case atStart => exact ⟨0, L, rfl, by simp, by omega, hrow2, Rv.start L, hB⟩
      case round =>
        obtain ⟨i, M, rfl, rfl, hig, hrowM, hRv, hBx⟩ := hrel
        have HRv := Lib.hid hRv
        clear hRv hrow2
        by_cases hij : 2 * i + 1 < N
        · obtain ⟨j, hj⟩ : ∃ j : Nat, N - 1 - i = j := ⟨_, rfl⟩
          have hji : (N : Int) - 1 - (i : Int) = (j : Int) := by omega
          have hlt : (i : Int) < (j : Int) := by omega
          have hjN : j < N := by omega
          have hML : M.length = N := by rw [HRv.out.1, HLl.out]
          have hiM : i < M.length := by omega
          have hjM : j < M.length := by omega
          obtain ⟨a, ha⟩ : ∃ a, M[i] = a := ⟨_, rfl⟩
          obtain ⟨c, hc⟩ : ∃ c, M[j] = c := ⟨_, rfl⟩
          have hca := hrowM.cell i hiM
          have hcc := hrowM.cell j hjM
          rw [ha] at hca
          rw [hc] at hcc
          have hfi := hrowM.free i
          have hfj := hrowM.free j
          have HP := Lib.hid ((hrowM.put i c).put j a)
          have HS := Lib.hid (HRv.out.step (i := i) (j := j) (by rw [HLl.out]; omega) (by omega) a c (by rw [List.getElem?_eq_getElem hiM, ha]) (by rw [List.getElem?_eq_getElem hjM, hc]))
          have HB := Lib.hid ((hBx.setCell (p := ⟨gr, i, none⟩) hrowM.base (.int .u8 (c.toNat : Int))).setCell (p := ⟨gr, j, none⟩) hrowM.base (.int .u8 (a.toNat : Int)))
          clear ha hc hML hj hrowM hBx hiM hjM
          obtain ⟨g, rfl⟩ : ∃ g, gk = g + 1 := ⟨gk - 1, by omega⟩
          go_wp2_with fail
          go_region
          all_goals go_wp2
          go_roundg g
          case measure => omega
          case rel => exact ⟨i + 1, _, by go_num, by simp; omega, by omega, HP.out.drew, HS.out, HB.out.drew⟩
        · have hlt : ¬ (i : Int) < (N : Int) - 1 - (i : Int) := by omega
          have hM := HRv.out.done (by rw [HLl.out]; omega)
          have hcv := hrowM.conv
          rw [hM, ← HD.out] at hcv
          go_wp2
          go_ret
          exact ⟨rfl, hBx⟩
    · have hlg := lims_len_mono hgn
      rw [Hl.out] at hlg
      have hlg2 : 0 < (lims 4294967296 G).length := by
        rcases Nat.eq_zero_or_pos (lims 4294967296 G).length with h | h
        · have := (lims_nil w32_ge).1 (List.eq_nil_of_length_eq_zero h); omega
        · exact h
      obtain ⟨ag, cg, rfl⟩ := hng.slice
      have hbw := byWord_any w.heap.size G m _ wr hng (by omega) hm0 hk3
      have hdl : G / m < G := Nat.div_lt_self hpos (by omega)
      have hdm := Nat.mod_lt G hm0
      have hsum := Nat.mod_add_div G m
      obtain ⟨q, hq⟩ : ∃ q, G / m = q := ⟨_, rfl⟩
      obtain ⟨r0, hr0⟩ : ∃ r0, G % m = r0 := ⟨_, rfl⟩
      rw [hq] at hbw hdl hsum
      rw [hr0] at hbw hdm hsum
      have HSum := Lib.hid hsum
      clear hq hr0 hsum hng
      obtain ⟨lg, hlge⟩ : ∃ lg, (lims 4294967296 G).length = lg := ⟨_, rfl⟩
      rw [hlge] at hlg hlg2 hbw ⊢
      clear hlge
      have hlgI : (lg : Int) > 0 := by omega
      go_wp2_with (go_at_call 118; refine hbw.mono ?_; rintro e w3 ⟨⟨v1, rfl, hn1⟩, hb3⟩)
      have hrow3 := own_below hrow hb3
      have hB3 := hB.trans (hb3.mono hz)
      have hn1' := hn1.mono hz
      clear hn1 hrow hbw hB
      obtain ⟨a1, c1, rfl⟩ := hn1'.slice
      have hlq := lims_len_mono (show q ≤ n by omega)
      rw [Hl.out] at hlq
      have hq0 : q = 0 ∨ 0 < (lims 4294967296 q).length := by
        rcases Nat.eq_zero_or_pos (lims 4294967296 q).length with h | h
        · exact .inl ((lims_nil w32_ge).1 (List.eq_nil_of_length_eq_zero h))
        · exact .inr h
      have hq1 : q = 0 → (lims 4294967296 q).length = 0 := fun h => by rw [h, lims_zero]; rfl
      obtain ⟨lq, hlqe⟩ : ∃ lq, (lims 4294967296 q).length = lq := ⟨_, rfl⟩
      rw [hlqe] at hn1' hlq hq0 hq1 ⊢
      have HQ := Lib.hid (And.intro hq0 hq1)
      clear hq0 hq1 hlqe
      go_loopg [7, 8, 9] k (fun g' v7 v8 v9 wx => ∃ (od : List Nat) (r i : Nat), v9 = .int .i64 (i : Int) ∧ i + g' = k ∧ v8 = .int .u32 (r : Int) ∧ r < 4294967296 ∧ r < b ^ g' ∧ wx.ownsRow w.heap.size 5 1 v7 od.length (Lib.byteCells (od.map chr)) ∧ lims b n = od ++ lims b (r + b ^ g' * q) ∧ NatIs wx w.heap.size (.slice a1 lq c1) q ∧ Below w.heap.size w wx)
      case atStart => exact ⟨od, r0, 0, rfl, by omega, rfl, by omega, by rw [Hm.out]; exact hdm, hrow3, by rw [Hm.out, HSum.out]; exact He.out, hn1', hB3⟩
      case round =>
        obtain ⟨od1, r, i, rfl, hik, rfl, hr32, hrb, hrow4, he4, hn4, hB4⟩ := hrel
        have hq2 := HQ.out
        have hz4 := hB4.size
        have hodl : od1.length ≤ 4000000 := by
          have := congrArg List.length he4
          rw [List.length_append] at this
          omega
        have He4 := Lib.hid he4
        have Hrb := Lib.hid hrb
        obtain ⟨ar, cr, rfl⟩ := slice_of_own hrow4
        cases gk with
        | zero =>
          have hii : i = k := by omega
          subst hii
          have hr00 : r = 0 := by
            have := Hrb.out
            rw [Nat.pow_zero] at this
            omega
          subst hr00
          have He5 := Lib.hid (show lims b n = od1 ++ lims b q by rw [He4.out]; simp)
          clear he4 hrb
          go_wp2
          go_roundg q
          case measure => omega
          case rel => exact ⟨od1, by omega, hn4, hrow4, He5.out, hB4⟩
        | succ c =>
          have hilt : (i : Int) < (k : Int) := by omega
          by_cases hgo : q = 0 ∧ r = 0
          · obtain ⟨hq9, rfl⟩ := hgo
            have hl0 : decide (0 < lq) = false := by have := hq2.2 hq9; simp; omega
            have hl1 : decide ((0 : Int) < (lq : Int)) = false := by have := hq2.2 hq9; simp; omega
            have He5 := Lib.hid (show lims b n = od1 ++ lims b q by rw [He4.out, hq9]; simp)
            clear he4 hrb hq2 hq9
            go_wp2
            go_roundg q
            case measure => omega
            case rel => exact ⟨od1, by omega, hn4, hrow4, He5.out, hB4⟩
          · have hmore := lims_more (b := b) (c := c) (n := q) (r := r) hb (by omega)
            have hd36 := Nat.mod_lt r (show 0 < b by omega)
            have hdiv : r / b < b ^ c := by
              rw [Nat.div_lt_iff_lt_mul (by omega), ← Nat.pow_succ]
              exact Hrb.out
            have hdle : r / b ≤ r := Nat.div_le_self _ _
            have hmodI : (r : Int) % (b : Int) = ((r % b : Nat) : Int) := (Int.natCast_emod _ _).symm
            have hdivI : (r : Int) / (b : Int) = ((r / b : Nat) : Int) := (Int.natCast_ediv _ _).symm
            obtain ⟨d, hd⟩ : ∃ d, r % b = d := ⟨_, rfl⟩
            obtain ⟨r2, hr2⟩ : ∃ r2, r / b = r2 := ⟨_, rfl⟩
            rw [hd] at hmore hd36 hmodI
            rw [hr2] at hmore hdiv hdivI hdle
            have hch := chr_get d (by omega) (show d < 36 by omega)
            have hn4a : NatIs (wr.alloc (.cells #[.int .u8 ((chr d).toNat : Int)] 5)) w.heap.size (.slice a1 lq c1) q := World.ownsRow.alloc hn4 _
            have hrow4a := hrow4.alloc (.cells #[.int .u8 ((chr d).toNat : Int)] 5)
            have He5 := Lib.hid (show lims b n = (od1 ++ [d]) ++ lims b (r2 + b ^ c * q) by rw [He4.out, hmore, List.append_assoc]; rfl)
            have Hdiv := Lib.hid hdiv
            have hrowc := byteCells_snoc (od1.map chr) (chr d)
            have hmapc : (od1 ++ [d]).map chr = od1.map chr ++ [chr d] := by simp
            have HR := Lib.hid (And.intro hrowc hmapc)
            clear hd hr2 hmore he4 hrb hdiv hrowc hmapc
            have hi0 : (0 : Int) ≤ (d : Int) := by omega
            have hi36 : (d : Int) < 36 := by omega
            rcases hq2.1 with hq0 | hq0
            · have hl0 : decide (0 < lq) = false := by have := hq2.2 hq0; simp; omega
              have hl1 : decide ((0 : Int) < (lq : Int)) = false := by have := hq2.2 hq0; simp; omega
              have hrpos : (r : Int) > 0 := by omega
              clear hq2 hq0
              go_wp2_with (at_builtin; refine wpList_append_own _ rfl _ _ 114 rfl w.heap.size 5 i5 (.int .u8 0) 1 1 Tryd.underlying114 hi5 hy0 hy1 hy2 rfl (by decide) (.slice ar od1.length cr) od1.length _ rfl hrow4a ⟨wr.heap.size, 0, none⟩ 1 1 [.int .u8 ((chr d).toNat : Int)] rfl rfl (cell_one_new _ _ _) (by intro u hu; simp at hu; subst hu; rfl) (by unfold maxLen; omega) (by omega) (by simp; omega) ?_; intro v' w5 hown5 hgrow5 _; obtain ⟨ar5, cr5, rfl⟩ := slice_of_own hown5)
              go_roundg c
              case measure => omega
              case rel =>
                refine ⟨od1 ++ [d], r2, i + 1, by go_num, by omega, rfl, by omega, Hdiv.out, ?_, He5.out, World.ownsRow.kept hn4a hgrow5 (own_apart hn4a hrow4a (by decide)), (hB4.alloc hz4 _).grown hgrow5 (by simp; omega) (fun q hq => (hrow4a.lt q hq).1)⟩
                rw [HR.out.2, HR.out.1, List.length_append, List.length_singleton]
                exact hown5
            · have hlqI : (lq : Int) > 0 := by omega
              clear hq2
              go_wp2_with (at_builtin; refine wpList_append_own _ rfl _ _ 114 rfl w.heap.size 5 i5 (.int .u8 0) 1 1 Tryd.underlying114 hi5 hy0 hy1 hy2 rfl (by decide) (.slice ar od1.length cr) od1.length _ rfl hrow4a ⟨wr.heap.size, 0, none⟩ 1 1 [.int .u8 ((chr d).toNat : Int)] rfl rfl (cell_one_new _ _ _) (by intro u hu; simp at hu; subst hu; rfl) (by unfold maxLen; omega) (by omega) (by simp; omega) ?_; intro v' w5 hown5 hgrow5 _; obtain ⟨ar5, cr5, rfl⟩ := slice_of_own hown5)
              go_roundg c
              case measure => omega
              case rel =>
                refine ⟨od1 ++ [d], r2, i + 1, by go_num, by omega, rfl, by omega, Hdiv.out, ?_, He5.out, World.ownsRow.kept hn4a hgrow5 (own_apart hn4a hrow4a (by decide)), (hB4.alloc hz4 _).grown hgrow5 (by simp; omega) (fun q hq => (hrow4a.lt q hq).1)⟩
                rw [HR.out.2, HR.out.1, List.length_append, List.length_singleton]
                exact hown5
end Go.Proofs.YtmnibfdenmeepaaDoor
