/- The texts Shift RegCl Knuth Step, one behind the other. -/
import Derived.Test.YtmnibfdenmeepaaDoorMgBigTimes14
/- Shift of the program. -/
namespace Go.Proofs.YtmnibfdenmeepaaDoor
open Go.RowKit Go.Shelf Big

/-- A number shifted by n places. -/
def shiftV (z n : Int) : Int := if 0 ≤ n then z * ((2 ^ n.toNat : Nat) : Int) else z / ((2 ^ (-n).toNat : Nat) : Int)
def shiftS (l : List UInt8) (n : Int) : List UInt8 × Int :=
  match numOf l with
  | some z => if n < -100000 ∨ 100000 < n then ([], 7) else if tooL z.natAbs then ([], 4) else told (shiftV z n)
  | none => ([], 2)
theorem shiftS_none {l : List UInt8} (n : Int) (h : numOf l = none) : shiftS l n = ([], 2) := by unfold shiftS; rw [h]
theorem shiftS_far {l : List UInt8} {n z : Int} (h : numOf l = some z) (hn : n < -100000 ∨ 100000 < n) : shiftS l n = ([], 7) := by unfold shiftS; rw [h]; exact if_pos hn
theorem shiftS_long {l : List UInt8} {n z : Int} (h : numOf l = some z) (hn : ¬ (n < -100000 ∨ 100000 < n)) (ht : tooL z.natAbs = true) : shiftS l n = ([], 4) := by
  unfold shiftS; rw [h]
  show (if _ then _ else if _ then _ else _) = _
  rw [if_neg hn, if_pos ht]
theorem shiftS_is {l : List UInt8} {n z : Int} (h : numOf l = some z) (hn : ¬ (n < -100000 ∨ 100000 < n)) (ht : tooL z.natAbs = false) : shiftS l n = told (shiftV z n) := by
  unfold shiftS; rw [h]
  show (if _ then _ else if _ then _ else _) = _
  rw [if_neg hn, if_neg (by rw [ht]; decide)]
theorem abs_pow (z : Int) (k : Nat) : (z * ((2 ^ k : Nat) : Int)).natAbs = z.natAbs * 2 ^ k := by rw [Int.natAbs_mul, Int.natAbs_natCast]
/-- Beyond 2,008 places a number that is not 0 is too long. -/
theorem shift_over {z n : Int} (hz : z ≠ 0) (hn : 2008 < n) : told (shiftV z n) = ([], 4) := by
  have h1 : tooL (shiftV z n).natAbs = true := by
    unfold tooL shiftV
    rw [if_pos (by omega), abs_pow, decide_eq_true_eq]
    have h2 : 2 ^ k2008 ≤ 2 ^ n.toNat := Nat.pow_le_pow_right (by decide) (by unfold k2008; omega)
    have h3 : 1 * 2 ^ n.toNat ≤ z.natAbs * 2 ^ n.toNat := Nat.mul_le_mul_right _ (by omega)
    rw [Nat.one_mul] at h3
    have h4 := p2
    omega
  unfold told
  rw [if_pos h1]
theorem shift_zero (n : Int) : shiftV 0 n = 0 := by unfold shiftV; split <;> simp
theorem pow_pos2 (k : Nat) : (0 : Int) < ((2 ^ k : Nat) : Int) := by
  have := Nat.pow_pos (n := k) (show 0 < 2 by decide)
  omega
/-- The opposite of what Not tells, shifted, and Not of it: rounded down. -/
theorem shift_not (z P : Int) (hP : 0 < P) : -((-z - 1) / P) - 1 = z / P := by
  have h1 := Int.mul_ediv_add_emod z P
  have h2 := Int.emod_nonneg z (b := P) (by omega)
  have h3 := Int.emod_lt_of_pos z hP
  have h4 : (-z - 1) / P = -(z / P) - 1 := by
    refine floor_of (r := P - 1 - z % P) hP ?_ (by omega) (by omega)
    rw [Int.mul_sub, Int.mul_neg, Int.mul_one]
    generalize P * (z / P) = t at *
    omega
  omega
/-- Far below, nothing or -1 is left. -/
theorem shift_gone {z : Int} {k : Nat} (h : z.natAbs < 2 ^ k) : z / ((2 ^ k : Nat) : Int) = if z < 0 then -1 else 0 := by
  generalize 2 ^ k = P at *
  split
  · exact floor_of (r := z + P) (by omega) (by omega) (by omega) (by omega)
  · exact floor_of (r := z) (by omega) (by omega) (by omega) (by omega)
theorem shift_down {z n : Int} (ht : tooL z.natAbs = false) (hn : n < 0) : shiftV z n = z / ((2 ^ (min (-n) 4000).toNat : Nat) : Int) := by
  unfold shiftV
  rw [if_neg (by omega)]
  by_cases h : -n ≤ 4000
  · rw [Int.min_eq_left h]
  · have h1 := lims_of_tool ht
    have h2 : 2 ^ k2008 ≤ 2 ^ (-n).toNat := Nat.pow_le_pow_right (by decide) (by unfold k2008; omega)
    have h3 : 2 ^ k2008 ≤ 2 ^ (min (-n) 4000).toNat := Nat.pow_le_pow_right (by decide) (by unfold k2008; omega)
    rw [shift_gone (by omega), shift_gone (by omega)]
theorem shift_nat {z n : Int} (hz : 0 ≤ z) (hn : n < 0) : shiftV z n = ((z.natAbs / 2 ^ (-n).toNat : Nat) : Int) := by
  unfold shiftV
  rw [if_neg (by omega), Int.natCast_ediv]
  congr 1
  omega
theorem shift_neg {z n : Int} (hn : n < 0) : shiftV z n = -((((-z - 1) / ((2 ^ (-n).toNat : Nat) : Int)))) - 1 := by
  unfold shiftV
  rw [if_neg (by omega), shift_not z _ (pow_pos2 _)]
theorem nat_len0 {w : World} {B l c n : Nat} {a : Option Addr} (h : NatIs w B (.slice a l c) n) : (l = 0 ∧ n = 0) ∨ (0 < l ∧ 0 < n) := by
  obtain ⟨_, _, hav⟩ := h.slice
  injection hav with _ hl _
  have : (lims 4294967296 n).length = 0 ↔ n = 0 := by rw [List.length_eq_zero_iff, lims_nil w32_ge]
  omega
theorem left_short {z : Int} {k : Nat} (ht : tooL z.natAbs = false) (h : z = 0 ∨ k ≤ 2008) : (lims 4294967296 (z.natAbs * 2 ^ k)).length ≤ 100000 := by
  rcases h with rfl | h
  · rw [show (0 : Int).natAbs * 2 ^ k = 0 by simp, lims_zero]; simp
  · have h1 := lims_of_tool ht
    have h2 : 2 ^ k ≤ 2 ^ k2008 := Nat.pow_le_pow_right (by decide) h
    have h3 : z.natAbs * 2 ^ k < 2 ^ (k2008 + k2008) := by
      rw [Nat.pow_add]
      refine Nat.lt_of_le_of_lt (Nat.mul_le_mul_left _ h2) ((Nat.mul_lt_mul_right (Nat.pow_pos (by decide))).2 h1)
    have h4 : 2 ^ (k2008 + k2008) ≤ 4294967296 ^ (k2008 + k2008) := Nat.pow_le_pow_left (by decide) _
    have h5 := (lims_len_le w32_ge (z.natAbs * 2 ^ k) (k2008 + k2008)).2 (Nat.lt_of_lt_of_le h3 h4)
    unfold k2008 at h5
    omega
theorem len_down {a b K : Nat} (h : a ≤ b) (hb : (lims 4294967296 b).length ≤ K) : (lims 4294967296 a).length ≤ K :=
  (lims_len_le w32_ge a K).2 (Nat.lt_of_le_of_lt h ((lims_len_le w32_ge b K).1 hb))
theorem sgI_shl (z : Int) (k : Nat) : sgI (decide (z < 0)) (z.natAbs * 2 ^ k) = z * ((2 ^ k : Nat) : Int) := by
  unfold sgI
  by_cases h : z < 0
  · rw [decide_eq_true h, if_pos rfl]
    rw [Int.natCast_mul]
    rw [show (z.natAbs : Int) = -z by omega, Int.neg_mul, Int.neg_neg]
  · rw [decide_eq_false h, if_neg (by decide), Int.natCast_mul]
    rw [show (z.natAbs : Int) = z by omega]
def shS : Nat → Nat := fun i => if i = 11 then 4 else if i = 12 then 5 else i + 40
def shPr (W0 : World) (g : Nat) (s1 : Bool) (a1 : Option Addr) (n1 c1 k M : Nat) (T C : Value) : Nat → Value → World → Prop
  | 0, v, _ => v = .pointer (some ⟨g, 0, none⟩)
  | 1, v, _ => v = .bool s1
  | 2, v, _ => v = .pointer (some ⟨g, 1, none⟩)
  | 3, v, _ => v = .slice a1 n1 c1
  | 4, v, _ => v = .int .i64 (k : Int)
  | 5, v, _ => v = .int .u64 (k : Int)
  | 6, v, w => ∃ a l c, v = .slice a l c ∧ NatIs w W0.heap.size (.slice a l c) M
  | 7, v, w => ∃ a l c, v = .agg #[.bool s1, .slice a l c, .bool false, .bool false] ∧ NatIs w W0.heap.size (.slice a l c) M
  | 8, v, _ => v = .tuple #[T, C]
  | 9, v, _ => v = T
  | 10, v, _ => v = C
  | 11, v, _ => v = T
  | _, v, _ => v = C
theorem shPr_stays (W0 : World) (g : Nat) (s1 : Bool) (a1 : Option Addr) (n1 c1 k M : Nat) (T C : Value) : Stays 13 (shPr W0 g s1 a1 n1 c1 k M T C) := by
  intro i v w w' hi hb h
  match i, h with
  | 0, h => exact h
  | 1, h => exact h
  | 2, h => exact h
  | 3, h => exact h
  | 4, h => exact h
  | 5, h => exact h
  | 6, h => obtain ⟨a, l, c, e, hd⟩ := h; exact ⟨a, l, c, e, hd.kept hb⟩
  | 7, h => obtain ⟨a, l, c, e, hd⟩ := h; exact ⟨a, l, c, e, hd.kept hb⟩
  | 8, h => exact h
  | 9, h => exact h
  | 10, h => exact h
  | 11, h => exact h
  | 12, h => exact h
  | n + 13, _ => omega
theorem shiftV_up (z : Int) (k : Nat) : z * ((2 ^ k : Nat) : Int) = shiftV z (k : Int) := by
  unfold shiftV
  rw [if_pos (by omega)]
  rfl
set_option maxRecDepth 100000 in
set_option maxHeartbeats 4000000 in
theorem Shift_any (a : ByteArray) (n : Int) (w : World) (ha : a.size ≤ 1000) :
    Calls Tryd.prog 49 #[.string a, .int .i64 n] w fun e w' => e = retS (shiftS a.data.toList n) ∧ Below w.heap.size w w' := by
  go_enter Tryd.func49, Tryd.ntmps49
  go_wp2_with fail
  refine (parse_any a w ha).mono ?_
  rintro e w1 ⟨hp1, hb1⟩
  obtain ⟨s1, a1, n1, c1, g1, o1, t1, rfl, hf1⟩ := hp1.form
  have hz1 := hb1.size
  have HBE := Lib.hid (fun x => hb1.alloc hz1 x)
  rcases hf1 with ⟨rfl, z, hz, hs1, hg1, hn1⟩ | ⟨rfl, hz⟩
  case inr =>
    have HR := Lib.hid (shiftS_none n hz)
    clear hz hp1 hb1
    go_wp2
    go_ret2
    exact ⟨by rw [HR.out]; rfl, HBE.out _⟩
  case inl =>
    clear hp1
    by_cases hfar : n < -100000 ∨ 100000 < n
    · have HR := Lib.hid (shiftS_far hz hfar)
      clear hz hs1 hg1 hn1 hb1
      by_cases h1 : n < -100000
      · go_wp2
        go_ret2
        exact ⟨by rw [HR.out]; rfl, HBE.out _⟩
      · have h2 : n > 100000 := by omega
        clear hfar
        go_wp2
        go_ret2
        exact ⟨by rw [HR.out]; rfl, HBE.out _⟩
    · have h1 : ¬ n < -100000 := by omega
      have h2 : ¬ n > 100000 := by omega
      have HN1 := Lib.hid (fun x => hn1.alloc x)
      cases g1 with
      | true =>
        have HR := Lib.hid (shiftS_long hz hfar hg1.symm)
        clear hz hs1 hg1 hn1 hb1 hfar
        go_wp2
        go_ret2
        exact ⟨by rw [HR.out]; rfl, HBE.out _⟩
      | false =>
        have HIS := Lib.hid (shiftS_is hz hfar hg1.symm)
        have HT := Lib.hid hg1.symm
        have hl := nat_len0 hn1
        have HS := Lib.hid hs1
        clear hfar hz hg1 hs1
        by_cases hov : n > 2008 ∧ z ≠ 0
        · have h3 := hov.1
          have h4 : (n1 : Int) > 0 := by omega
          have HR := Lib.hid (HIS.out.trans (shift_over hov.2 hov.1))
          clear hov hl hn1 hb1
          go_wp2
          go_ret2
          exact ⟨by rw [HR.out]; rfl, HBE.out _⟩
        · go_upto_region 6 with fail
          obtain ⟨W1, hW1⟩ : ∃ W1, w1.alloc (.cells #[.bool s1, .slice a1 n1 c1, .bool false, .bool o1] 46) = W1 := ⟨_, rfl⟩
          rw [hW1]
          have hG : Has W1 w1.heap.size 46 #[.bool s1, .slice a1 n1 c1, .bool false, .bool o1] := by rw [← hW1]; exact Has.new _ _ _
          have hN : NatIs W1 w.heap.size (.slice a1 n1 c1) z.natAbs := by rw [← hW1]; exact hn1.alloc _
          have hB : Below w.heap.size w W1 := by rw [← hW1]; exact hb1.alloc hz1 _
          have hzW : w1.heap.size < W1.heap.size := by rw [← hW1]; simp
          clear hW1 hn1 hb1 HN1 HBE
          generalize w1.heap.size = g at *
          go_cut [24] from 25 to 36 (fun v24 wx => v24 = .bool false ∧ wx = W1)
          case first =>
            have q2 : W1.cell? ⟨g, 2, none⟩ = some (.bool false) := Has.cell hG 2
            have q1 : W1.cell? ⟨g, 1, none⟩ = some (.slice a1 n1 c1) := Has.cell hG 1
            by_cases h3 : n > 2008
            · have h4 : n1 = 0 := by omega
              subst h4
              go_wp2_with fail
              go_meet
              exact ⟨rfl, rfl⟩
            · go_wp2_with fail
              go_meet
              exact ⟨rfl, rfl⟩
          case rest =>
          obtain ⟨rfl, rfl⟩ := hcut
          by_cases hn0 : 0 ≤ n
          · obtain ⟨k, rfl⟩ : ∃ k : Nat, n = (k : Int) := ⟨n.toNat, by omega⟩
            have h5 : (k : Int) ≥ 0 := by omega
            have HLs := Lib.hid (left_short (k := k) HT.out (by omega))
            go_wp2_with fail
            have HLf := Lib.hid (fun W (hW : Below wc.heap.size wc W) => shl_any w.heap.size z.natAbs k _ W (hN.kept hW) (short_of HT.out) (by omega))
            have HTx := Lib.hid (fun v W (hv : NatIs W wc.heap.size v (z.natAbs * 2 ^ k)) => (text_any wc.heap.size (z.natAbs * 2 ^ k) v s1 false false W hv HLs.out).mono fun e w' h => And.intro h.1.told h.2)
            rw [HS.out, sgI_shl, shiftV_up, ← HIS.out, ← HS.out] at HTx
            obtain ⟨p, hp⟩ : ∃ p, shiftS a.data.toList (k : Int) = p := ⟨_, rfl⟩
            rw [hp] at HTx
            have HP := Lib.hid hp
            clear hp HIS
            unfold retS at HTx
            obtain ⟨f1, hf1⟩ : ∃ f1, (decide ((k : Int) < -100000) || decide (100000 < (k : Int))) = f1 := ⟨_, rfl⟩
            obtain ⟨f2, hf2⟩ : ∃ f2, decide ((k : Int) < -100000) = f2 := ⟨_, rfl⟩
            obtain ⟨f3, hf3⟩ : ∃ f3, decide (100000 < (k : Int)) = f3 := ⟨_, rfl⟩
            rw [hf1, hf2, hf3]
            clear hf1 hf2 hf3
            have hwr : IntKind.u64.wrap (k : Int) = (k : Int) := by rw [IntKind.wrap_u64]; omega
            have hst := shPr_stays wc g s1 a1 n1 c1 k (z.natAbs * 2 ^ k) (.string ⟨p.1.toArray⟩) (.int .i64 p.2)
            refine wp_region_inv (Inv := fun listed x' w' => ∃ u, x' = { tmps := #[.string a, .int .i64 (k : Int), undef, undef, u 4, u 5, .pointer (some ⟨g, 0, none⟩), .bool true, undef, .tuple #[.agg #[.bool s1, .slice a1 n1 c1, .bool false, .bool o1], .bool true], .string a, .tuple #[.agg #[.bool s1, .slice a1 n1 c1, .bool false, .bool o1], .bool true], .agg #[.bool s1, .slice a1 n1 c1, .bool false, .bool o1], .bool true, .bool false, .bool true, .bool false, .bool f1, .int .i64 (k : Int), .bool f2, .bool f2, .int .i64 (k : Int), .bool f3, .bool f1, .bool false, u25, u26, u27, u28, u29, u30, u31, u32, u33, u34, u35, u36, .bool true, .int .i64 (k : Int), .bool true, u 40, u 41, u 42, u 43, u 44, u 45, u 46, u 47, u 48, u 49, u 50, undef, undef, undef, undef, undef, undef, undef, undef, undef, undef, undef, undef, undef, undef, undef, undef, undef, undef, undef, undef, undef, undef, undef, undef, undef, undef], defers := [] } ∧ RegRow wc 13 false shS (shPr wc g s1 a1 n1 c1 k (z.natAbs * 2 ^ k) (.string ⟨p.1.toArray⟩) (.int .i64 p.2)) (fun _ _ => True) (fun i => listed.getD i false) u w') (by kernel_rfl) (ord_of (by kernel_rfl)) ?h0 ?step ?fin
            case h0 => exact ⟨fun i => if i = 4 then .string ⟨#[]⟩ else if i = 5 then .int .i64 0 else undef, rfl, RegRow.start (none_listed _)⟩
            case fin =>
              rintro listed x' w' ⟨u, rfl, F⟩ hall
              have e4 : u 4 = _ := F.each 11 (by decide) (fun h => by cases h) (hall 11 (by decide))
              have e5 : u 5 = _ := F.each 12 (by decide) (fun h => by cases h) (hall 12 (by decide))
              have hbF := hB.trans (F.below.mono (show w.heap.size ≤ wc.heap.size by omega))
              rw [e4, e5]
              clear F hall e4 e5 hB
              go_wp2
              go_ret2
              exact ⟨by rw [HP.out]; rfl, hbF⟩
            case step =>
              rintro listed x' w' i ⟨u, rfl, F⟩ hi hn hd
              have h11 : i = 0 ∨ i = 1 ∨ i = 2 ∨ i = 3 ∨ i = 4 ∨ i = 5 ∨ i = 6 ∨ i = 7 ∨ i = 8 ∨ i = 9 ∨ i = 10 ∨ i = 11 ∨ i = 12 := by
                have : i < 13 := hi
                omega
              have q0 := Has.cell (hG.below F.below) 0
              have q1 := Has.cell (hG.below F.below) 1
              rcases h11 with rfl | rfl | rfl | rfl | rfl | rfl | rfl | rfl | rfl | rfl | rfl | rfl | rfl
              · refine wpOp_by rfl rfl (fun K hK => ?_)
                go_simp
                exact hK _ _ ⟨_, by simp [upd, shS], F.put 0 hst (by decide) (by decide) hn (Below.refl _ _) rfl⟩
              · have e0 : u 40 = _ := F.got 0 (by decide) 1 hn (by decide) (hd _ rfl ⟨0, .data⟩ (by simp) rfl)
                refine wpOp_by rfl rfl (fun K hK => ?_)
                go_simp
                exact hK _ _ ⟨_, by simp [upd, shS, e0], F.put 1 hst (by decide) (by decide) hn (Below.refl _ _) rfl⟩
              · refine wpOp_by rfl rfl (fun K hK => ?_)
                go_simp
                exact hK _ _ ⟨_, by simp [upd, shS], F.put 2 hst (by decide) (by decide) hn (Below.refl _ _) rfl⟩
              · have e2 : u 42 = _ := F.got 2 (by decide) 3 hn (by decide) (hd _ rfl ⟨2, .data⟩ (by simp) rfl)
                refine wpOp_by rfl rfl (fun K hK => ?_)
                go_simp
                exact hK _ _ ⟨_, by simp [upd, shS, e2], F.put 3 hst (by decide) (by decide) hn (Below.refl _ _) rfl⟩
              · refine wpOp_by rfl rfl (fun K hK => ?_)
                go_simp
                exact hK _ _ ⟨_, by simp [upd, shS], F.put 4 hst (by decide) (by decide) hn (Below.refl _ _) rfl⟩
              · have e4 : u 44 = _ := F.got 4 (by decide) 5 hn (by decide) (hd _ rfl ⟨4, .data⟩ (by simp) rfl)
                refine wpOp_by rfl rfl (fun K hK => ?_)
                go_simp
                exact hK _ _ ⟨_, by simp [upd, shS, e4], F.put 5 hst (by decide) (by decide) hn (Below.refl _ _) rfl⟩
              · have e3 : u 43 = _ := F.got 3 (by decide) 6 hn (by decide) (hd _ rfl ⟨3, .data⟩ (by simp) rfl)
                have e5 : u 45 = _ := F.got 5 (by decide) 6 hn (by decide) (hd _ rfl ⟨5, .data⟩ (by simp) rfl)
                refine wpOp_by rfl rfl (fun K hK => ?_)
                go_simp
                refine (HLf.out _ F.below).mono ?_
                rintro e w2 ⟨⟨v, rfl, hv⟩, hb1⟩
                obtain ⟨a9, c9, rfl⟩ := hv.slice
                exact hK _ _ ⟨_, by simp [upd, shS, e3, e5], F.put 6 hst (by decide) (by decide) hn hb1 ⟨a9, _, c9, rfl, NatIs.mono hv F.below.size⟩⟩
              · have e1 : u 41 = _ := F.got 1 (by decide) 7 hn (by decide) (hd _ rfl ⟨1, .data⟩ (by simp) rfl)
                obtain ⟨a9, l9, c9, e6, hv⟩ := F.got 6 (by decide) 7 hn (by decide) (hd _ rfl ⟨6, .data⟩ (by simp) rfl)
                have e6 : u 46 = _ := e6
                refine wpOp_by rfl rfl (fun K hK => ?_)
                go_simp
                exact hK _ _ ⟨_, by simp [upd, shS, e1, e6], F.put 7 hst (by decide) (by decide) hn (Below.refl _ _) ⟨a9, l9, c9, rfl, hv⟩⟩
              · obtain ⟨a9, l9, c9, e7, hv⟩ := F.got 7 (by decide) 8 hn (by decide) (hd _ rfl ⟨7, .data⟩ (by simp) rfl)
                have e7 : u 47 = _ := e7
                refine wpOp_by rfl rfl (fun K hK => ?_)
                go_simp
                refine (HTx.out _ _ hv).mono ?_
                rintro e w2 ⟨rfl, hb1⟩
                exact hK _ _ ⟨_, by simp [upd, shS, e7], F.put 8 hst (by decide) (by decide) hn hb1 rfl⟩
              · have e8 : u 48 = _ := F.got 8 (by decide) 9 hn (by decide) (hd _ rfl ⟨8, .data⟩ (by simp) rfl)
                refine wpOp_by rfl rfl (fun K hK => ?_)
                go_simp
                exact hK _ _ ⟨_, by simp [upd, shS, e8], F.put 9 hst (by decide) (by decide) hn (Below.refl _ _) rfl⟩
              · have e8 : u 48 = _ := F.got 8 (by decide) 10 hn (by decide) (hd _ rfl ⟨8, .data⟩ (by simp) rfl)
                refine wpOp_by rfl rfl (fun K hK => ?_)
                go_simp
                exact hK _ _ ⟨_, by simp [upd, shS, e8], F.put 10 hst (by decide) (by decide) hn (Below.refl _ _) rfl⟩
              · have e9 : u 49 = _ := F.got 9 (by decide) 11 hn (by decide) (hd _ rfl ⟨9, .data⟩ (by simp) rfl)
                refine wpOp_by rfl rfl (fun K hK => ?_)
                go_simp
                exact hK _ _ ⟨_, by simp [upd, shS, e9], F.put 11 hst (by decide) (by decide) hn (Below.refl _ _) rfl⟩
              · have e10 : u 50 = _ := F.got 10 (by decide) 12 hn (by decide) (hd _ rfl ⟨10, .data⟩ (by simp) rfl)
                refine wpOp_by rfl rfl (fun K hK => ?_)
                go_simp
                exact hK _ _ ⟨_, by simp [upd, shS, e10], F.put 12 hst (by decide) (by decide) hn (Below.refl _ _) rfl⟩
          · obtain ⟨k, rfl⟩ : ∃ k : Nat, n = -(k : Int) := ⟨(-n).toNat, by omega⟩
            have hkn : (-(-(k : Int))).toNat = k := by omega
            have hk0 : -(k : Int) < 0 := by omega
            have h5 : ¬ -(k : Int) ≥ 0 := by omega
            have h6 : -(-(k : Int)) = (k : Int) := by omega
            have q0 := Has.cell hG 0
            have q1 := Has.cell hG 1
            have q2 := Has.cell hG 2
            have q3 := Has.cell hG 3
            have hkb : k ≤ 200000 := by omega
            cases s1 with
            | false =>
              have hz0 : 0 ≤ z := by have := of_decide_eq_false HS.out.symm; omega
              have HV := Lib.hid (HIS.out.trans (congrArg told (shift_nat hz0 hk0)))
              rw [hkn] at HV
              have HR := Lib.hid (shr_any w.heap.size z.natAbs k _ wc hN (short_of HT.out) hkb)
              have HSH := Lib.hid (len_down (Nat.div_le_self z.natAbs (2 ^ k)) (short_of HT.out))
              clear hN hl hov hG
              go_wp2_with fail
              refine HR.out.mono ?_
              rintro e w2 ⟨⟨v, rfl, hv⟩, hb2⟩
              have HTx := Lib.hid ((text_any _ (z.natAbs / 2 ^ k) v false false false w2 hv HSH.out).mono fun e w' h => And.intro h.1.told h.2)
              rw [show sgI false (z.natAbs / 2 ^ k) = ((z.natAbs / 2 ^ k : Nat) : Int) from rfl, ← HV.out] at HTx
              obtain ⟨p, hp⟩ : ∃ p, shiftS a.data.toList (-(k : Int)) = p := ⟨_, rfl⟩
              rw [hp] at HTx
              have HP := Lib.hid hp
              unfold retS at HTx
              obtain ⟨a9, c9, rfl⟩ := hv.slice
              have HB2 := Lib.hid (hB.trans (hb2.mono (show w.heap.size ≤ wc.heap.size by omega)))
              clear hp hv hb2 HIS
              go_wp2_with fail
              refine HTx.out.mono ?_
              rintro e w3 ⟨rfl, hb3⟩
              have HB3 := Lib.hid (Below.behind HB2.out hb3)
              clear hb3
              go_wp2
              go_ret2
              exact ⟨by rw [HP.out]; rfl, HB3.out⟩
            | true =>
              have hz0 : z < 0 := of_decide_eq_true HS.out.symm
              have HV := Lib.hid (HIS.out.trans (congrArg told (shift_neg (z := z) hk0)))
              rw [hkn] at HV
              have HZ0 := Lib.hid hz0
              have HNt := Lib.hid (fun o => numNot_any w.heap.size z.natAbs (.slice a1 n1 c1) true false o wc hN (short_of HT.out))
              have HSZ := Lib.hid (show sgI true z.natAbs = z by unfold sgI; rw [if_pos rfl]; omega)
              have HLZ := Lib.hid (short_of HT.out)
              clear hN hl hov hG
              go_wp2_with fail
              refine (HNt.out _).mono ?_
              rintro e w2 ⟨⟨r, m, ⟨v, rfl, hv⟩, hsg⟩, hb2⟩
              rw [HSZ.out] at hsg
              have hm : m = (-z - 1).natAbs ∧ ((m : Nat) : Int) = -z - 1 ∧ m ≤ z.natAbs := by
                have h1 := congrArg Int.natAbs hsg
                rw [sg_abs] at h1
                have := HZ0.out
                omega
              have HM := Lib.hid hm
              clear hm hsg
              obtain ⟨a9, c9, rfl⟩ := hv.slice
              have hz2 := hb2.size
              have HB2 := Lib.hid (hB.trans (hb2.mono (show w.heap.size ≤ wc.heap.size by omega)))
              have HR := Lib.hid (fun o => shr_any wc.heap.size m k _ (w2.alloc o) (hv.alloc o) (len_down HM.out.2.2 HLZ.out) hkb)
              obtain ⟨lm, hlm⟩ : ∃ lm, (lims 4294967296 m).length = lm := ⟨_, rfl⟩
              rw [hlm] at HR hv ⊢
              clear hlm
              clear hv
              go_wp2_with fail
              refine (HR.out _).mono ?_
              rintro e w3 ⟨⟨v3, rfl, hv3⟩, hb3⟩
              have hz3 := hb3.size
              simp at hz3
              have HB3 := Lib.hid (Below.behind (HB2.out.alloc (by omega) (.cells #[.bool r, .slice a9 lm c9, .bool false, .bool false] 46)) hb3)
              have HN3 := Lib.hid (numNot_any _ (m / 2 ^ k) v3 false false false w3 hv3 (len_down (Nat.le_trans (Nat.div_le_self _ _) HM.out.2.2) HLZ.out))
              obtain ⟨a8, c8, rfl⟩ := hv3.slice
              clear hv3 hb3
              go_wp2_with fail
              refine HN3.out.mono ?_
              rintro e w4 ⟨⟨r4, m4, ⟨v4, rfl, hv4⟩, hsg4⟩, hb4⟩
              rw [show sgI false (m / 2 ^ k) = ((m / 2 ^ k : Nat) : Int) from rfl] at hsg4
              have hV4 : sgI r4 m4 = -((-z - 1) / ((2 ^ k : Nat) : Int)) - 1 := by rw [hsg4, Int.natCast_ediv, HM.out.2.1]
              have hm4 : m4 ≤ z.natAbs := by
                have h1 := congrArg Int.natAbs hsg4
                rw [sg_abs] at h1
                have h2 := Nat.div_le_self m (2 ^ k)
                have h3 := HM.out.2.1
                have h4 := HZ0.out
                generalize m / 2 ^ k = t at h1 h2
                omega
              have HTx := Lib.hid ((text_any _ m4 v4 r4 false false w4 hv4 (len_down hm4 HLZ.out)).mono fun e w' h => And.intro h.1.told h.2)
              rw [hV4, ← HV.out] at HTx
              obtain ⟨p, hp⟩ : ∃ p, shiftS a.data.toList (-(k : Int)) = p := ⟨_, rfl⟩
              rw [hp] at HTx
              have HP := Lib.hid hp
              unfold retS at HTx
              obtain ⟨a7, c7, rfl⟩ := hv4.slice
              have HB4 := Lib.hid (Below.behind HB3.out hb4)
              clear hp hv4 hb4 hV4 hsg4 hm4 HIS
              go_wp2_with fail
              refine HTx.out.mono ?_
              rintro e w5 ⟨rfl, hb5⟩
              have HB5 := Lib.hid (Below.behind HB4.out hb5)
              clear hb5
              go_wp2
              go_ret2
              exact ⟨by rw [HP.out]; rfl, HB5.out⟩
end Go.Proofs.YtmnibfdenmeepaaDoor
/- A region that draws its order: what has come up is closed under what it asks. -/
namespace Go.Proofs.YtmnibfdenmeepaaDoor
open Go.RowKit Go.Shelf Big

/-- What has come up is closed under what binds it. -/
def ClosedB (ops : Array Oper) (listed : Array Bool) : Prop := ∀ (j : Nat) (o : Oper), ops[j]? = some o → listed.getD j false = true → ∀ e ∈ o.after, Region.binds .any e = true → listed.getD e.on false = true
theorem set_keeps {listed : Array Bool} {i j : Nat} (h : listed.getD j false = true) : (listed.setIfInBounds i true).getD j false = true := by
  by_cases e : i = j
  · subst e
    have hlt : i < listed.size := by
      rcases Nat.lt_or_ge i listed.size with h1 | h1
      · exact h1
      · simp [Array.getD_eq_getD_getElem?, Array.getElem?_eq_none h1] at h
    simp [Array.getD_eq_getD_getElem?, hlt]
  · simp only [Array.getD_eq_getD_getElem?] at h ⊢
    rwa [Array.getElem?_setIfInBounds_ne e]
theorem wp_region_inv3 {P : Program} {ops : Array Oper} {Q : Exit → Act → World → Prop} {Inv : Array Bool → Act → World → Prop} {id : Nat} {a : Act} {w : World} (hm : P.follows .mixedOrders = true)
    (hord : ∀ (i : Nat) (o : Oper), ops[i]? = some o → ∀ e ∈ o.after, Region.binds .any e = true → e.on < i) (h0 : Inv (Array.replicate ops.size false) a w.drew)
    (step : ∀ (listed : Array Bool) (a : Act) (w : World) (i : Nat), ClosedB ops listed → Inv listed a w → i < ops.size → listed.getD i true = false → (∀ (o : Oper), ops[i]? = some o → ∀ e ∈ o.after, Region.binds .any e = true → listed.getD e.on false = true) → wpOp P ops Q i (fun a' w' => Inv (listed.setIfInBounds i true) a' w') a w)
    (fin : ∀ listed a w, Inv listed a w → (∀ i, i < ops.size → listed.getD i false = true) → Q .normal a w) : (Code.region id ops true).wp P Q a w := by
  refine wp_region_inv2 (Inv := fun listed a w => ClosedB ops listed ∧ Inv listed a w) hm hord ⟨fun j _ _ h => ?_, h0⟩ (fun listed a w i hI hi hn hd => ?_) (fun listed a w hI hall => fin listed a w hI.2 hall)
  · rw [none_listed] at h; cases h
  · refine wpOp_mono (fun a' w' hI' => ⟨fun j o ho hj e he hb => ?_, hI'⟩) (step listed a w i hI.1 hI.2 hi hn hd)
    rcases set_true hj with h | h
    · subst h
      exact set_keeps (hd o ho e he hb)
    · exact set_keeps (hI.1 j o ho h e he hb)
end Go.Proofs.YtmnibfdenmeepaaDoor
/- Long division by Knuth's way: plain mathematics. -/
namespace Go.Proofs.YtmnibfdenmeepaaDoor
open Go.RowKit Go.Shelf Big

/-- A guess that is too high is above the quotient. -/
theorem kn_over {g D H3 P L M : Nat} (h : H3 < g * D) (hL : L < P) : H3 * P + L < g * (D * P + M) := by
  have h1 : (H3 + 1) * P ≤ g * D * P := Nat.mul_le_mul_right P h
  rw [Nat.add_mul, Nat.one_mul] at h1
  rw [Nat.mul_add, ← Nat.mul_assoc]
  have := Nat.zero_le (g * M)
  omega
/-- A guess that is not too high is at most one above. -/
theorem kn_under {g D H3 P L M b : Nat} (h : g * D ≤ H3) (hg : g ≤ b) (hM : M < P) (hD : b ≤ D) : g * (D * P + M) ≤ H3 * P + L + (D * P + M) := by
  have h1 : g * D * P ≤ H3 * P := Nat.mul_le_mul_right P h
  have h2 : g * M ≤ b * P := Nat.mul_le_mul hg (Nat.le_of_lt hM)
  have h3 : b * P ≤ D * P := Nat.mul_le_mul_right P hD
  rw [Nat.mul_add, ← Nat.mul_assoc]
  omega
/-- The first guess is not too low. -/
theorem kn_first {H v1 v2 u2 P L M b : Nat} (hv : 0 < v1) (hu : u2 < b) (hL : L < P) : (H * b + u2) * P + L < (H / v1 + 1) * ((v1 * b + v2) * P + M) := by
  have h1 := Nat.div_add_mod H v1
  have h2 := Nat.mod_lt H hv
  generalize H / v1 = g at *
  have h3 : H + 1 ≤ (g + 1) * v1 := by rw [Nat.add_mul, Nat.one_mul, Nat.mul_comm g v1]; omega
  have h4 : (H + 1) * b ≤ (g + 1) * v1 * b := Nat.mul_le_mul_right b h3
  have h5 : (H + 1) * b * P ≤ (g + 1) * v1 * b * P := Nat.mul_le_mul_right P h4
  have h6 : (H * b + u2 + 1) * P ≤ (H + 1) * b * P := by
    refine Nat.mul_le_mul_right P ?_
    rw [Nat.add_mul, Nat.one_mul]
    omega
  have h7 : (g + 1) * ((v1 * b + v2) * P + M) = (g + 1) * v1 * b * P + (g + 1) * (v2 * P + M) := by
    rw [Nat.add_mul (v1 * b) v2 P, Nat.add_assoc, Nat.mul_add, ← Nat.mul_assoc, ← Nat.mul_assoc]
  rw [h7]
  rw [Nat.add_mul _ 1, Nat.one_mul] at h6
  have := Nat.zero_le ((g + 1) * (v2 * P + M))
  omega
/-- What the test of a guess says. -/
theorem kn_test {g r H v1 v2 u2 b : Nat} (h : g * v1 + r = H) : r * b + u2 < g * v2 ↔ H * b + u2 < g * (v1 * b + v2) := by
  subst h
  rw [Nat.add_mul, Nat.mul_add, ← Nat.mul_assoc]
  omega
/-- At a break: the rest has gone beyond a word. -/
theorem kn_break {g r H v1 v2 u2 b un un1 : Nat} (h : g * v1 + r = H) (hr : b ≤ r) (hH : H = un * b + un1) (h1 : un ≤ v1) (h2 : un1 < b) (hv : v2 < b) : g < b ∧ g * (v1 * b + v2) ≤ H * b + u2 := by
  have hg : g < b := by
    refine Nat.lt_of_not_le (fun hle => ?_)
    have h3 : b * v1 ≤ g * v1 := Nat.mul_le_mul_right v1 hle
    have h4 : un * b ≤ v1 * b := Nat.mul_le_mul_right b h1
    rw [Nat.mul_comm b v1] at h3
    omega
  refine ⟨hg, Nat.le_of_not_lt (fun hlt => ?_)⟩
  have h5 := (kn_test (u2 := u2) h).2 hlt
  have h6 : g * v2 ≤ b * b := Nat.mul_le_mul (Nat.le_of_lt hg) (Nat.le_of_lt hv)
  have h7 : b * b ≤ r * b := Nat.mul_le_mul_right b hr
  omega
/-- What a guess is once it stands. -/
theorem kn_quot {U V g : Nat} (hV : 0 < V) (h1 : U < (g + 1) * V) (h2 : g * V ≤ U + V) : (g * V ≤ U → g = U / V ∧ U - g * V = U % V) ∧ (U < g * V → g - 1 = U / V ∧ U + V - g * V = U % V ∧ 0 < g) := by
  constructor
  · intro h
    have e : U / V = g := by
      apply Nat.le_antisymm
      · have := (Nat.div_lt_iff_lt_mul hV).2 h1; omega
      · exact (Nat.le_div_iff_mul_le hV).2 h
    refine ⟨e.symm, ?_⟩
    have h3 := Nat.div_add_mod U V
    rw [e, Nat.mul_comm] at h3
    omega
  · intro h
    have hg : 0 < g := by
      rcases Nat.eq_zero_or_pos g with h0 | h0
      · subst h0; simp at h
      · exact h0
    obtain ⟨k, rfl⟩ : ∃ k, g = k + 1 := ⟨g - 1, by omega⟩
    have hk : (k + 1) * V = k * V + V := by rw [Nat.add_mul, Nat.one_mul]
    rw [hk] at h2 h ⊢
    have e : U / V = k := by
      apply Nat.le_antisymm
      · have := (Nat.div_lt_iff_lt_mul hV).2 (show U < (k + 1) * V by rw [hk]; exact h); omega
      · exact (Nat.le_div_iff_mul_le hV).2 (by omega)
    refine ⟨by omega, ?_, hg⟩
    have h3 := Nat.div_add_mod U V
    rw [e, Nat.mul_comm] at h3
    omega
/-- The rest, with the borrow, put right. -/
theorem kn_back {U V g R Y X c : Nat} (h1 : U < (g + 1) * V) (h2 : g * V ≤ U + V) (hVp : 0 < V) (hR : R + g * V = U + X) (hRX : R < X) (hY : Y + c * X = R + V) (hYX : Y < X) (hc : c ≤ 1) : 0 < g ∧ g - 1 = U / V ∧ Y = U % V := by
  have hlt : U < g * V := by omega
  obtain ⟨e1, e2, e3⟩ := (kn_quot hVp h1 h2).2 hlt
  refine ⟨e3, e1, ?_⟩
  rw [← e2]
  have h3 : U % V < V := Nat.mod_lt _ hVp
  rw [← e2] at h3
  rcases (show c = 0 ∨ c = 1 by omega) with rfl | rfl
  · rw [Nat.zero_mul] at hY; omega
  · rw [Nat.one_mul] at hY; omega
theorem ev_set_take (B : Nat) (l : List Nat) (i x : Nat) (hi : i < l.length) : ev B ((l.set i x).take (i + 1)) = ev B (l.take i) + B ^ i * x := by
  rw [ev_take_succ, List.take_set_of_le (Nat.le_refl _)]
  congr 2
  rw [List.getD_eq_getElem?_getD, List.getElem?_set_self hi]
  rfl
theorem getD_get (l : List Nat) (i : Nat) (hi : i < l.length) : l.getD i 0 = l[i] := by
  rw [List.getD_eq_getElem?_getD, List.getElem?_eq_getElem hi]; rfl
theorem drop_set_next (l : List Nat) (i x : Nat) : (l.set i x).drop (i + 1) = l.drop (i + 1) := by
  rw [List.drop_set_of_lt (Nat.lt_succ_self i)]
theorem get_of_drop {l m : List Nat} {i : Nat} (h : l.drop i = m.drop i) (hi : i < l.length) (hm : i < m.length) : l[i] = m[i] := by
  have h1 : (l.drop i)[0]? = (m.drop i)[0]? := by rw [h]
  rw [List.getElem?_drop, List.getElem?_drop, Nat.add_zero, List.getElem?_eq_getElem hi, List.getElem?_eq_getElem hm] at h1
  exact Option.some.inj h1
theorem drop_next {l m : List Nat} {i : Nat} (h : l.drop i = m.drop i) : l.drop (i + 1) = m.drop (i + 1) := by
  rw [← List.drop_drop, ← List.drop_drop, h]
/-- Multiplying and taking away, up to word i. -/
def MulSub (us vs : List Nat) (g i : Nat) (xs : List Nat) (c b : Nat) : Prop :=
  xs.length = us.length ∧ xs.drop i = us.drop i ∧ (∀ d ∈ xs, d < 4294967296) ∧ c < 4294967296 ∧ b ≤ 1 ∧ ev 4294967296 (xs.take i) + g * ev 4294967296 (vs.take i) = ev 4294967296 (us.take i) + (c + b) * 4294967296 ^ i
theorem MulSub.start {us vs : List Nat} (g : Nat) (hs : ∀ d ∈ us, d < 4294967296) : MulSub us vs g 0 us 0 0 := by
  refine ⟨rfl, rfl, hs, by decide, by decide, ?_⟩
  simp [ev]
theorem mem_set_small {l : List Nat} {i x : Nat} (h : ∀ d ∈ l, d < 4294967296) (hx : x < 4294967296) : ∀ d ∈ l.set i x, d < 4294967296 := by
  intro d hd
  rcases List.mem_or_eq_of_mem_set hd with h1 | h1
  · exact h d h1
  · rw [h1]; exact hx
theorem MulSub.step {us vs xs : List Nat} {g i c b x' b' : Nat} (h : MulSub us vs g i xs c b) (hi : i < us.length) (hv : i < vs.length) (hg : g < 4294967296) (hvs : ∀ d ∈ vs, d < 4294967296) (hx' : x' < 4294967296) (hb' : b' ≤ 1)
    (hsub : x' + (g * vs[i] + c) % 4294967296 + b = us[i] + b' * 4294967296) : MulSub us vs g (i + 1) (xs.set i x') ((g * vs[i] + c) / 4294967296) b' := by
  obtain ⟨h1, h2, h3, h4, h5, h6⟩ := h
  have hx : i < xs.length := by omega
  refine ⟨by rw [List.length_set]; exact h1, by rw [drop_set_next]; exact drop_next h2, mem_set_small h3 hx', ?_, hb', ?_⟩
  · have hv2 := hvs _ (List.getElem_mem hv)
    have h7 : g * vs[i] ≤ 4294967295 * 4294967295 := Nat.mul_le_mul (by omega) (by omega)
    omega
  · rw [ev_set_take _ _ _ _ hx, ev_take_succ _ vs, ev_take_succ _ us, getD_get _ _ hv, getD_get _ _ hi, Nat.pow_succ]
    have h8 := Nat.div_add_mod (g * vs[i] + c) 4294967296
    generalize 4294967296 ^ i = X at *
    generalize hw : vs[i] = y at *
    generalize us[i] = z at *
    generalize ev 4294967296 (xs.take i) = ex at *
    generalize ev 4294967296 (us.take i) = eu at *
    generalize ev 4294967296 (vs.take i) = evv at *
    have e1 : g * (evv + X * y) = g * evv + X * (g * y) := by rw [Nat.mul_add, Nat.mul_left_comm]
    rw [e1]
    have e2 : x' + g * y + c + b = z + b' * 4294967296 + (g * y + c) / 4294967296 * 4294967296 := by omega
    have e3 : X * (x' + g * y + c + b) = X * (z + b' * 4294967296 + (g * y + c) / 4294967296 * 4294967296) := by rw [e2]
    generalize (g * y + c) / 4294967296 = c' at *
    generalize g * y = gy at *
    have e4 : X * (x' + gy + c + b) = X * x' + X * gy + X * c + X * b := by rw [Nat.mul_add, Nat.mul_add, Nat.mul_add]
    have e5 : X * (z + b' * 4294967296 + c' * 4294967296) = X * z + X * (b' * 4294967296) + X * (c' * 4294967296) := by rw [Nat.mul_add, Nat.mul_add]
    have e6 : (c + b) * X = X * c + X * b := by rw [Nat.add_mul, Nat.mul_comm c, Nat.mul_comm b]
    have e7 : (c' + b') * (X * 4294967296) = X * (c' * 4294967296) + X * (b' * 4294967296) := by
      rw [Nat.add_mul, Nat.mul_left_comm c', Nat.mul_left_comm b']
    omega
/-- The top word. -/
theorem MulSub.top {us vs xs : List Nat} {g n c b x' b' : Nat} (h : MulSub us vs g n xs c b) (hu : us.length = n + 1) (hv : vs.length = n) (hx' : x' < 4294967296)
    (hsub : x' + c + b = us[n]'(by omega) + b' * 4294967296) : (xs.set n x').length = n + 1 ∧ (∀ d ∈ xs.set n x', d < 4294967296) ∧ ev 4294967296 (xs.set n x') + g * ev 4294967296 vs = ev 4294967296 us + b' * 4294967296 ^ (n + 1) := by
  obtain ⟨h1, h2, h3, h4, h5, h6⟩ := h
  have hx : n < xs.length := by omega
  refine ⟨by rw [List.length_set]; omega, mem_set_small h3 hx', ?_⟩
  have t1 : (xs.set n x').take (n + 1) = xs.set n x' := List.take_of_length_le (by rw [List.length_set]; omega)
  have t2 : us.take (n + 1) = us := List.take_of_length_le (by omega)
  have t3 : vs.take n = vs := List.take_of_length_le (by omega)
  have e1 := ev_set_take 4294967296 xs n x' hx
  have e2 := ev_take_succ 4294967296 us n
  rw [t1] at e1
  rw [t2, getD_get _ _ (by omega)] at e2
  rw [t3] at h6
  rw [e1, e2, Nat.pow_succ]
  generalize 4294967296 ^ n = X at *
  generalize us[n]'(by omega) = z at *
  have e3 : X * (x' + c + b) = X * (z + b' * 4294967296) := by rw [hsub]
  have e4 : X * (x' + c + b) = X * x' + X * c + X * b := by rw [Nat.mul_add, Nat.mul_add]
  have e5 : X * (z + b' * 4294967296) = X * z + X * (b' * 4294967296) := by rw [Nat.mul_add]
  have e6 : (c + b) * X = X * c + X * b := by rw [Nat.add_mul, Nat.mul_comm c, Nat.mul_comm b]
  have e7 : b' * (X * 4294967296) = X * (b' * 4294967296) := Nat.mul_left_comm ..
  omega
/-- Adding back, up to word i. -/
def AddBack (xs vs : List Nat) (i : Nat) (ys : List Nat) (c : Nat) : Prop :=
  ys.length = xs.length ∧ ys.drop i = xs.drop i ∧ (∀ d ∈ ys, d < 4294967296) ∧ c ≤ 1 ∧ ev 4294967296 (ys.take i) + c * 4294967296 ^ i = ev 4294967296 (xs.take i) + ev 4294967296 (vs.take i)
theorem AddBack.start {xs vs : List Nat} (hs : ∀ d ∈ xs, d < 4294967296) : AddBack xs vs 0 xs 0 := by
  refine ⟨rfl, rfl, hs, by decide, ?_⟩
  simp [ev]
theorem AddBack.step {xs vs ys : List Nat} {i c y' c' : Nat} (h : AddBack xs vs i ys c) (hi : i < xs.length) (hv : i < vs.length) (hy' : y' < 4294967296) (hc' : c' ≤ 1)
    (hadd : y' + c' * 4294967296 = xs[i] + vs[i] + c) : AddBack xs vs (i + 1) (ys.set i y') c' := by
  obtain ⟨h1, h2, h3, h5, h6⟩ := h
  have hx : i < ys.length := by omega
  refine ⟨by rw [List.length_set]; exact h1, by rw [drop_set_next]; exact drop_next h2, mem_set_small h3 hy', hc', ?_⟩
  rw [ev_set_take _ _ _ _ hx, ev_take_succ _ vs, ev_take_succ _ xs, getD_get _ _ hv, getD_get _ _ hi, Nat.pow_succ]
  generalize 4294967296 ^ i = X at *
  generalize xs[i] = z at *
  generalize vs[i] = v at *
  have e3 : X * (y' + c' * 4294967296) = X * (z + v + c) := by rw [hadd]
  have e4 : X * (y' + c' * 4294967296) = X * y' + X * (c' * 4294967296) := by rw [Nat.mul_add]
  have e5 : X * (z + v + c) = X * z + X * v + X * c := by rw [Nat.mul_add, Nat.mul_add]
  have e6 : c * X = X * c := Nat.mul_comm ..
  have e7 : c' * (X * 4294967296) = X * (c' * 4294967296) := Nat.mul_left_comm ..
  omega
theorem AddBack.top {xs vs ys : List Nat} {n c y' : Nat} (h : AddBack xs vs n ys c) (hu : xs.length = n + 1) (hv : vs.length = n) (hxs : ∀ d ∈ xs, d < 4294967296)
    (hadd : y' = (xs[n]'(by omega) + c) % 4294967296) : (ys.set n y').length = n + 1 ∧ (∀ d ∈ ys.set n y', d < 4294967296) ∧ ∃ c', c' ≤ 1 ∧ ev 4294967296 (ys.set n y') + c' * 4294967296 ^ (n + 1) = ev 4294967296 xs + ev 4294967296 vs := by
  obtain ⟨h1, h2, h3, h5, h6⟩ := h
  have hx : n < ys.length := by omega
  have hz := hxs _ (List.getElem_mem (show n < xs.length by omega))
  refine ⟨by rw [List.length_set]; omega, mem_set_small h3 (by omega), (xs[n]'(by omega) + c) / 4294967296, by omega, ?_⟩
  have t1 : (ys.set n y').take (n + 1) = ys.set n y' := List.take_of_length_le (by rw [List.length_set]; omega)
  have t2 : xs.take (n + 1) = xs := List.take_of_length_le (by omega)
  have t3 : vs.take n = vs := List.take_of_length_le (by omega)
  have e1 := ev_set_take 4294967296 ys n y' hx
  have e2 := ev_take_succ 4294967296 xs n
  rw [t1] at e1
  rw [t2, getD_get _ _ (by omega)] at e2
  rw [t3] at h6
  rw [e1, e2, Nat.pow_succ]
  generalize hzz : xs[n]'(by omega) = z at *
  have h8 := Nat.div_add_mod (z + c) 4294967296
  rw [← hadd] at h8
  generalize (z + c) / 4294967296 = c' at *
  generalize 4294967296 ^ n = X at *
  have e3 : X * (4294967296 * c' + y') = X * (z + c) := by rw [h8]
  have e4 : X * (4294967296 * c' + y') = X * y' + X * (c' * 4294967296) := by rw [Nat.mul_add, Nat.mul_comm 4294967296 c', Nat.add_comm]
  have e5 : X * (z + c) = X * z + X * c := by rw [Nat.mul_add]
  have e6 : c * X = X * c := Nat.mul_comm ..
  have e7 : c' * (X * 4294967296) = X * (c' * 4294967296) := Nat.mul_left_comm ..
  omega
theorem ev_top (l : List Nat) (n : Nat) (h : l.length = n + 1) : ev 4294967296 l = l[n]'(by omega) * 4294967296 ^ n + ev 4294967296 (l.take n) := by
  have e := ev_take_succ 4294967296 l n
  rw [List.take_of_length_le (by omega), getD_get _ _ (by omega), Nat.mul_comm] at e
  omega
theorem take_get (l : List Nat) (n i : Nat) (hi : i < n) (hl : i < l.length) : (l.take n)[i]'(by rw [List.length_take]; omega) = l[i] := by
  rw [List.getElem_take]
/-- The highest two words, and three. -/
theorem ev_top2 (l : List Nat) (n : Nat) (h : l.length = n + 2) : ev 4294967296 l = (l[n + 1]'(by omega) * 4294967296 + l[n]'(by omega)) * 4294967296 ^ n + ev 4294967296 (l.take n) := by
  have e1 := ev_top l (n + 1) h
  have e2 := ev_top (l.take (n + 1)) n (by rw [List.length_take]; omega)
  rw [List.take_take, Nat.min_eq_left (Nat.le_succ n), take_get _ _ _ (Nat.lt_succ_self n) (by omega)] at e2
  rw [e1, e2, Nat.pow_succ, Nat.add_mul, Nat.mul_assoc, Nat.mul_comm (4294967296 ^ n)]
  omega
theorem ev_top3 (l : List Nat) (n : Nat) (h : l.length = n + 3) : ev 4294967296 l = ((l[n + 2]'(by omega) * 4294967296 + l[n + 1]'(by omega)) * 4294967296 + l[n]'(by omega)) * 4294967296 ^ n + ev 4294967296 (l.take n) := by
  have e1 := ev_top l (n + 2) h
  have e2 := ev_top2 (l.take (n + 2)) n (by rw [List.length_take]; omega)
  rw [List.take_take, Nat.min_eq_left (show n ≤ n + 2 by omega)] at e2
  simp only [List.getElem_take] at e2
  rw [e1, e2, Nat.pow_succ, Nat.pow_succ]
  generalize l[n + 2]'(by omega) = a
  generalize l[n + 1]'(by omega) = b
  generalize l[n]'(by omega) = c
  generalize 4294967296 ^ n = X
  generalize ev 4294967296 (l.take n) = E
  have e3 : a * (X * 4294967296 * 4294967296) = a * 4294967296 * 4294967296 * X := by
    rw [← Nat.mul_assoc, ← Nat.mul_assoc, Nat.mul_right_comm (a * X), Nat.mul_right_comm a X, Nat.mul_right_comm (a * 4294967296) X]
  rw [e3, Nat.add_mul, Nat.add_mul, Nat.add_mul, Nat.add_mul]
  omega
/-- The long division, k words of the quotient to go. -/
structure KnInv (A V n K k : Nat) (us qs : List Nat) : Prop where
  lu : us.length = n + K
  su : ∀ d ∈ us, d < 4294967296
  lq : qs.length = K
  sq : ∀ d ∈ qs, d < 4294967296
  le : k ≤ K
  eq : ev 4294967296 (us.take (k + n)) + V * (4294967296 ^ k * ev 4294967296 (qs.drop k)) = A
  lt : ev 4294967296 ((us.drop k).take n) < V
theorem ev_parts (l : List Nat) (j n : Nat) (h : j + n ≤ l.length) : ev 4294967296 (l.take (j + n)) = ev 4294967296 (l.take j) + 4294967296 ^ j * ev 4294967296 ((l.drop j).take n) := by
  rw [List.take_add, ev_append, List.length_take, Nat.min_eq_left (by omega)]
theorem KnInv.fits {A V n K j : Nat} {us qs : List Nat} (h : KnInv A V n K (j + 1) us qs) : ev 4294967296 ((us.drop j).take (n + 1)) < 4294967296 * V := by
  have h1 := h.lu
  have h2 := h.le
  have hj : j < us.length := by omega
  rw [List.drop_eq_getElem_cons hj, List.take_succ_cons, Big.ev_cons]
  have h3 := h.su _ (List.getElem_mem hj)
  have h4 := h.lt
  generalize ev 4294967296 (List.take n (List.drop (j + 1) us)) = t at *
  omega
theorem KnInv.step {A V n K j : Nat} {us qs xs : List Nat} (h : KnInv A V n K (j + 1) us qs) (hV : V < 4294967296 ^ n) (hl : xs.length = n + 1) (hs : ∀ d ∈ xs, d < 4294967296)
    (he : ev 4294967296 xs = ev 4294967296 ((us.drop j).take (n + 1)) % V) : KnInv A V n K j (us.take j ++ xs ++ us.drop (j + n + 1)) (qs.set j (ev 4294967296 ((us.drop j).take (n + 1)) / V)) := by
  have h1 := h.lu
  have h2 := h.le
  have h3 := h.fits
  have hlq := h.lq
  have hVp : 0 < V := Nat.lt_of_le_of_lt (Nat.zero_le _) h.lt
  have hlt : ev 4294967296 xs < V := by rw [he]; exact Nat.mod_lt _ hVp
  have hdiv := Nat.div_add_mod (ev 4294967296 ((us.drop j).take (n + 1))) V
  have hq : ev 4294967296 ((us.drop j).take (n + 1)) / V < 4294967296 := (Nat.div_lt_iff_lt_mul hVp).2 h3
  have hxn : ev 4294967296 (xs.take n) = ev 4294967296 xs := by
    have e := ev_top xs n hl
    have : xs[n]'(by omega) = 0 := by
      rcases Nat.eq_zero_or_pos (xs[n]'(by omega)) with h0 | h0
      · exact h0
      · have : 1 * 4294967296 ^ n ≤ xs[n]'(by omega) * 4294967296 ^ n := Nat.mul_le_mul_right _ h0
        omega
    rw [this] at e
    omega
  have htj : (us.take j).length = j := by rw [List.length_take]; omega
  have t1 : (us.take j ++ xs ++ us.drop (j + n + 1)).take j = us.take j := by
    rw [List.append_assoc, List.take_append_of_le_length (by omega), List.take_of_length_le (by omega)]
  have t2 : ((us.take j ++ xs ++ us.drop (j + n + 1)).drop j).take n = xs.take n := by
    rw [List.append_assoc, List.drop_append_of_le_length (by omega), List.drop_of_length_le (by omega), List.nil_append, List.take_append_of_le_length (by omega)]
  have hL : (us.take j ++ xs ++ us.drop (j + n + 1)).length = n + K := by
    rw [List.length_append, List.length_append, List.length_drop, htj]; omega
  refine ⟨hL, ?_, by rw [List.length_set]; exact hlq, mem_set_small h.sq hq, by omega, ?_, ?_⟩
  · intro d hd
    rcases List.mem_append.1 hd with h4 | h4
    · rcases List.mem_append.1 h4 with h5 | h5
      · exact h.su d (List.mem_of_mem_take h5)
      · exact hs d h5
    · exact h.su d (List.mem_of_mem_drop h4)
  · have e0 := h.eq
    have e1 := ev_parts us j (n + 1) (by omega)
    have e2 := ev_parts (us.take j ++ xs ++ us.drop (j + n + 1)) j n (by omega)
    rw [t1, t2, hxn, he] at e2
    rw [e2]
    have e3 : j + (n + 1) = j + 1 + n := by omega
    rw [e3] at e1
    rw [e1] at e0
    have e4 : (qs.set j (ev 4294967296 ((us.drop j).take (n + 1)) / V)).drop j = (ev 4294967296 ((us.drop j).take (n + 1)) / V) :: qs.drop (j + 1) := by
      rw [List.drop_eq_getElem_cons (by rw [List.length_set]; omega), List.getElem_set_self, List.drop_set_of_lt (Nat.lt_succ_self j)]
    rw [e4, Big.ev_cons, Nat.pow_succ] at *
    generalize ev 4294967296 ((us.drop j).take (n + 1)) = U at *
    generalize ev 4294967296 (us.take j) = T at *
    generalize ev 4294967296 (qs.drop (j + 1)) = Q at *
    generalize 4294967296 ^ j = X at *
    generalize hqq : U / V = q at *
    generalize hrr : U % V = r at *
    rw [← e0, ← hdiv, Nat.mul_add X, Nat.mul_add X, Nat.mul_add V, Nat.mul_left_comm X V q]
    have e5 : X * 4294967296 * Q = X * (4294967296 * Q) := Nat.mul_assoc ..
    rw [e5]
    omega
  · rw [t2, hxn]; exact hlt
theorem KnInv.done {A V n K : Nat} {us qs : List Nat} (h : KnInv A V n K 0 us qs) : ev 4294967296 qs = A / V ∧ ev 4294967296 (us.take n) = A % V := by
  have h1 := h.eq
  have h2 := h.lt
  rw [List.drop_zero] at h2
  rw [Nat.zero_add, List.drop_zero, Nat.pow_zero, Nat.one_mul] at h1
  have hVp : 0 < V := Nat.lt_of_le_of_lt (Nat.zero_le _) h2
  rw [← h1]
  constructor
  · rw [Nat.add_mul_div_left _ _ hVp, Nat.div_eq_of_lt h2, Nat.zero_add]
  · rw [Nat.add_mul_mod_self_left, Nat.mod_eq_of_lt h2]
theorem KnInv.start {A V n K : Nat} {us qs : List Nat} (hu : us.length = n + K) (su : ∀ d ∈ us, d < 4294967296) (hq : qs.length = K) (sq : ∀ d ∈ qs, d < 4294967296) (he : ev 4294967296 us = A) (ht : A < V * 4294967296 ^ K) : KnInv A V n K K us qs := by
  refine ⟨hu, su, hq, sq, Nat.le_refl _, ?_, ?_⟩
  · rw [List.take_of_length_le (by omega), List.drop_of_length_le (by omega)]
    simp [ev, he]
  · rw [List.take_of_length_le (by rw [List.length_drop]; omega)]
    have e := ev_parts us K n (by omega)
    rw [List.take_of_length_le (by omega), List.take_of_length_le (l := us.drop K) (by rw [List.length_drop]; omega), he] at e
    refine Nat.lt_of_mul_lt_mul_right (a := 4294967296 ^ K) ?_
    rw [Nat.mul_comm (ev 4294967296 (us.drop K))]
    omega
/-- Shifting both changes no quotient. -/
theorem kn_shift (a b s : Nat) : a * 2 ^ s / (b * 2 ^ s) = a / b ∧ a * 2 ^ s % (b * 2 ^ s) / 2 ^ s = a % b := by
  have hp : 0 < 2 ^ s := Nat.pow_pos (by decide)
  constructor
  · exact Nat.mul_div_mul_right _ _ hp
  · rw [Nat.mul_mod_mul_right, Nat.mul_div_cancel _ hp]
/-- The dividend's upper words lie below the divisor. -/
theorem kn_head {a b s n K : Nat} (ha : a < 4294967296 ^ (n + K)) (hb : 4294967296 ^ n ≤ b) : a * 2 ^ s < b * 2 ^ s * 4294967296 ^ K := by
  have h1 : 4294967296 ^ (n + K) ≤ b * 4294967296 ^ K := by rw [Nat.pow_add]; exact Nat.mul_le_mul_right _ hb
  have h2 : a * 2 ^ s < b * 4294967296 ^ K * 2 ^ s := Nat.mul_lt_mul_of_pos_right (by omega) (Nat.pow_pos (by decide))
  rwa [Nat.mul_right_comm] at h2
end Go.Proofs.YtmnibfdenmeepaaDoor
/- divideStep of the program. -/
namespace Go.Proofs.YtmnibfdenmeepaaDoor
open Go.RowKit Go.Shelf Big

theorem kn_le {un un1 u2 v1 v2 P L M b : Nat} (hlt : ((un * b + un1) * b + u2) * P + L < b * ((v1 * b + v2) * P + M)) (hv2 : v2 < b) (hM : M < P) : un ≤ v1 := by
  refine Nat.le_of_not_lt (fun h => ?_)
  have h1 : (v1 + 1) * b ≤ un * b := Nat.mul_le_mul_right b h
  have h2 : (v1 + 1) * b * b * P ≤ ((un * b + un1) * b + u2) * P := by
    refine Nat.mul_le_mul_right P ?_
    have := Nat.mul_le_mul_right b (show (v1 + 1) * b ≤ un * b + un1 by omega)
    omega
  have h3 : (v1 * b + v2 + 1) * P ≤ (v1 + 1) * b * P := Nat.mul_le_mul_right P (by rw [Nat.add_mul, Nat.one_mul]; omega)
  rw [Nat.add_mul _ 1, Nat.one_mul] at h3
  have h4 : b * ((v1 * b + v2) * P + M) ≤ b * ((v1 + 1) * b * P) := Nat.mul_le_mul_left b (by omega)
  have h5 : b * ((v1 + 1) * b * P) = (v1 + 1) * b * b * P := by rw [← Nat.mul_assoc, Nat.mul_comm b ((v1 + 1) * b)]
  omega
theorem grown_drew {w w' : World} {r : Option Nat} (h : w.grownBy w' r) : w.grownBy w'.drew r := ⟨h.os, h.tape, h.output, h.size, h.block⟩
theorem grown_drewN {w w' : World} {r : Option Nat} (h : w.grownBy w' r) (k : Nat) : w.grownBy (w'.drewN k) r := ⟨h.os, h.tape, h.output, h.size, h.block⟩
theorem dif_bor2 (x y c : Nat) (hx : x < 4294967296) (hy : y < 4294967296) (hc : c ≤ 1) : dif x y c < 4294967296 ∧ bor x y c ≤ 1 ∧ dif x y c + y + c = x + bor x y c * 4294967296 := by
  unfold dif bor
  split <;> omega
theorem mid_get (pre xs post : List Nat) (i : Nat) (hi : i < xs.length) : (pre ++ xs ++ post)[pre.length + i]? = some xs[i] := by
  rw [List.append_assoc, List.getElem?_append_right (by omega), Nat.add_sub_cancel_left, List.getElem?_append_left hi, List.getElem?_eq_getElem hi]
theorem mid_set (pre xs post : List Nat) (i x : Nat) (hi : i < xs.length) : (pre ++ xs ++ post).set (pre.length + i) x = pre ++ xs.set i x ++ post := by
  rw [List.append_assoc, List.set_append_right _ _ (by omega), Nat.add_sub_cancel_left, List.set_append_left _ _ hi, List.append_assoc]
/-- Cells in the middle of a row. -/
theorem RowIs.midCell {w : World} {B g cap j : Nat} {pre xs post : List Nat} (h : RowIs w B g cap (pre ++ xs ++ post)) (hj : pre.length = j) (i : Nat) (hi : i < xs.length) : w.cell? ⟨g, j + i, none⟩ = some (.int .u32 (xs[i] : Int)) := by
  subst hj
  have hl : pre.length + i < (pre ++ xs ++ post).length := by rw [List.length_append, List.length_append]; omega
  have e := mid_get pre xs post i hi
  rw [List.getElem?_eq_getElem hl] at e
  rw [h.cell _ hl, Option.some.inj e]
theorem RowIs.midPut {w : World} {B g cap j : Nat} {pre xs post : List Nat} (h : RowIs w B g cap (pre ++ xs ++ post)) (hj : pre.length = j) (i q : Nat) (hi : i < xs.length) : RowIs (w.setCell ⟨g, j + i, none⟩ (.int .u32 (q : Int))) B g cap (pre ++ xs.set i q ++ post) := by
  subst hj
  rw [← mid_set _ _ _ _ _ hi]
  exact h.put _ _
theorem RowIs.kept {w w' : World} {B g cap r : Nat} {ds : List Nat} (h : RowIs w B g cap ds) (hg : w.grownBy w' (some r)) (hne : g ≠ r) : RowIs w' B g cap ds :=
  World.ownsRow.kept h hg (.inr (fun e => hne (by injection e)))
/-- What a step of the division does: it tells the quotient's word and leaves the rest. -/
structure StepIs (B gu cap l U V : Nat) (pre post : List Nat) (w w' : World) (e : Ending) : Prop where
  ret : e = .returned (.int .u32 ((U / V : Nat) : Int))
  row : ∃ xs : List Nat, xs.length = l ∧ Small xs ∧ ev 4294967296 xs = U % V ∧ RowIs w' B gu cap (pre ++ xs ++ post)
  grown : w.grownBy w' (some gu)
set_option maxRecDepth 100000 in
set_option maxHeartbeats 4000000 in
theorem step_any (B gu cap j m cu Bv gv cv : Nat) (pre us post vs : List Nat) (w : World) (hR : RowIs w B gu cap (pre ++ us ++ post)) (hj : pre.length = j) (hu : us.length = m + 3) (hsu : Small us) (hV : RowIs w Bv gv cv vs) (hv : vs.length = m + 2) (hsv : Small vs) (hne : gv ≠ gu) (hm : m ≤ 200000) (_hjm : j ≤ 400000)
    (htop : 2147483648 ≤ vs[m + 1]'(by omega)) (hlt : ev 4294967296 us < 4294967296 * ev 4294967296 vs) :
    Calls Tryd.prog 131 #[.slice (some ⟨gu, j, none⟩) (m + 3) cu, .slice (some ⟨gv, 0, none⟩) (m + 2) cv] w fun e w' => StepIs B gu cap (m + 3) (ev 4294967296 us) (ev 4294967296 vs) pre post w w' e := by
  obtain ⟨un, hun⟩ : ∃ un, us[m + 2]'(by omega) = un := ⟨_, rfl⟩
  obtain ⟨un1, hun1⟩ : ∃ un1, us[m + 1]'(by omega) = un1 := ⟨_, rfl⟩
  obtain ⟨u2, hu2⟩ : ∃ u2, us[m]'(by omega) = u2 := ⟨_, rfl⟩
  obtain ⟨v1, hv1⟩ : ∃ v1, vs[m + 1]'(by omega) = v1 := ⟨_, rfl⟩
  obtain ⟨v2, hv2⟩ : ∃ v2, vs[m]'(by omega) = v2 := ⟨_, rfl⟩
  have hun' : un < 4294967296 := by rw [← hun]; exact hsu _ (List.getElem_mem _)
  have hun1' : un1 < 4294967296 := by rw [← hun1]; exact hsu _ (List.getElem_mem _)
  have hu2' : u2 < 4294967296 := by rw [← hu2]; exact hsu _ (List.getElem_mem _)
  have hv1' : v1 < 4294967296 := by rw [← hv1]; exact hsv _ (List.getElem_mem _)
  have hv2' : v2 < 4294967296 := by rw [← hv2]; exact hsv _ (List.getElem_mem _)
  rw [hv1] at htop
  have eU := ev_top3 us m hu
  have eV := ev_top2 vs m hv
  rw [hun, hun1, hu2] at eU
  rw [hv1, hv2] at eV
  obtain ⟨P, hP⟩ : ∃ P, 4294967296 ^ m = P := ⟨_, rfl⟩
  have hL : ev 4294967296 (us.take m) < P := by
    have h := Big.ev_take_lt (B := 4294967296) (by decide) hsu m
    rwa [hP] at h
  have hM : ev 4294967296 (vs.take m) < P := by
    have h := Big.ev_take_lt (B := 4294967296) (by decide) hsv m
    rwa [hP] at h
  rw [hP] at eU eV
  obtain ⟨L, hLe⟩ : ∃ L, ev 4294967296 (us.take m) = L := ⟨_, rfl⟩
  obtain ⟨M, hMe⟩ : ∃ M, ev 4294967296 (vs.take m) = M := ⟨_, rfl⟩
  rw [hLe] at eU hL
  rw [hMe] at eV hM
  obtain ⟨U, hUe⟩ : ∃ U, ev 4294967296 us = U := ⟨_, rfl⟩
  obtain ⟨V, hVe⟩ : ∃ V, ev 4294967296 vs = V := ⟨_, rfl⟩
  rw [hUe] at eU hlt ⊢
  rw [hVe] at eV hlt ⊢
  obtain ⟨H, hH⟩ : ∃ H, un * 4294967296 + un1 = H := ⟨_, rfl⟩
  have huv : un ≤ v1 := kn_le (L := L) (by rw [eU, eV] at hlt; exact hlt) hv2' hM
  have HU := Lib.hid eU
  have HV := Lib.hid eV
  have HLM := Lib.hid (And.intro hL hM)
  have HLT := Lib.hid hlt
  have HUU := Lib.hid (And.intro hUe hVe)
  have hVp : 0 < V := by
    rcases Nat.eq_zero_or_pos V with h | h
    · rw [h] at hlt; omega
    · exact h
  have HVP := Lib.hid hVp
  have hor := or_word un un1 hun' hun1'
  rw [hH] at hor
  have hHI : H < 18446744073709551616 := by omega
  have HH := Lib.hid hH
  have hv0 : 0 < v1 := by omega
  have c1 := hR.midCell hj (m + 2) (by omega)
  have c2 := hR.midCell hj (m + 1) (by omega)
  have d1 := hV.cell (m + 1) (by omega)
  rw [hun] at c1
  rw [hun1] at c2
  rw [hv1] at d1
  have HR := Lib.hid hR
  have HVV := Lib.hid hV
  have HG := Lib.hid (And.intro hun (And.intro hun1 (And.intro hu2 (And.intro hv1 hv2))))
  have hdi : (H : Int) / (v1 : Int) = ((H / v1 : Nat) : Int) := (Int.natCast_ediv _ _).symm
  have hmi : (H : Int) % (v1 : Int) = ((H % v1 : Nat) : Int) := (Int.natCast_emod _ _).symm
  have hvI : (0 : Int) < (v1 : Int) := by omega
  have hvI2 : (v1 : Int) < 4294967296 := by omega
  obtain ⟨n, hnE⟩ : ∃ n, m + 2 = n := ⟨_, rfl⟩
  obtain ⟨n1, hn1E⟩ : ∃ n1, m + 1 = n1 := ⟨_, rfl⟩
  obtain ⟨n3, hn3E⟩ : ∃ n3, m + 3 = n3 := ⟨_, rfl⟩
  have HN := Lib.hid (And.intro hnE (And.intro hn1E hn3E))
  have hw1 : (n : Int) - 1 = (n1 : Int) := by omega
  have hw2 : (n : Int) - 2 = (m : Int) := by omega
  have hw3 : IntKind.i64.wrap ((n : Int) - 1) = (n1 : Int) := by rw [IntKind.wrap_i64]; omega
  have hw4 : IntKind.i64.wrap ((n : Int) - 2) = (m : Int) := by rw [IntKind.wrap_i64]; omega
  have hw6 : IntKind.i64.wrap (n1 : Int) = (n1 : Int) := by rw [IntKind.wrap_i64]; omega
  have hw7 : IntKind.i64.wrap (m : Int) = (m : Int) := by rw [IntKind.wrap_i64]; omega
  have hw5 : IntKind.u64.wrap ((un : Int) * 4294967296) = (un : Int) * 4294967296 := by rw [IntKind.wrap_u64]; omega
  have hwv1 : IntKind.u64.wrap (v1 : Int) = (v1 : Int) := by rw [IntKind.wrap_u64]; omega
  have hwv2 : IntKind.u64.wrap (v2 : Int) = (v2 : Int) := by rw [IntKind.wrap_u64]; omega
  have hwu2 : IntKind.u64.wrap (u2 : Int) = (u2 : Int) := by rw [IntKind.wrap_u64]; omega
  obtain ⟨g0, hg0⟩ : ∃ g0, H / v1 = g0 := ⟨_, rfl⟩
  obtain ⟨r0, hr0⟩ : ∃ r0, H % v1 = r0 := ⟨_, rfl⟩
  have hg0' : g0 < 18446744073709551616 := by rw [← hg0]; exact Nat.lt_of_le_of_lt (Nat.div_le_self _ _) hHI
  have hr0' : r0 < v1 := by rw [← hr0]; exact Nat.mod_lt _ hv0
  have HGR := Lib.hid (And.intro hg0 hr0)
  rw [hg0] at hdi
  rw [hr0] at hmi
  have hwg : IntKind.u64.wrap (g0 : Int) = (g0 : Int) := by rw [IntKind.wrap_u64]; omega
  have hwr : IntKind.u64.wrap (r0 : Int) = (r0 : Int) := by rw [IntKind.wrap_u64]; omega
  have hv00 : ((v1 : Int) == 0) = false := by simp; omega
  have hv01 : ¬ (v1 : Int) = 0 := by omega
  clear hg0 hr0
  have hq1 : (n : Int) < (n3 : Int) := by omega
  have hq2 : (n1 : Int) < (n3 : Int) := by omega
  have hq3 : (n1 : Int) < (n : Int) := by omega
  have hq4 : (m : Int) < (n : Int) := by omega
  have hq5 : (m : Int) < (n3 : Int) := by omega
  rw [hnE, hn3E]
  rw [hnE] at c1
  rw [hn1E] at c2 d1
  clear hnE hn1E hn3E
  clear hR hV eU eV hL hM hlt hUe hVe hVp hun hun1 hu2 hv1 hv2 hP hLe hMe hH
  go_enter Tryd.func131, Tryd.ntmps131
  go_wp2_with fail
  go_quiet (fail)
  obtain ⟨WA, hWA⟩ : ∃ WA, w.drewN nq = WA := ⟨_, rfl⟩
  rw [hWA]
  have hRA : RowIs WA B gu cap (pre ++ us ++ post) := by rw [← hWA]; exact own_below HR.out (below_drewN (Below.refl _ _) _)
  have hVA : RowIs WA Bv gv cv vs := by rw [← hWA]; exact own_below HVV.out (below_drewN (Below.refl _ _) _)
  have hGA : w.grownBy WA (some gu) := by rw [← hWA]; exact grown_drewN (World.grownBy.refl _ _) _
  have d2 : WA.cell? ⟨gv, n1, none⟩ = some (.int .u32 (v1 : Int)) := by rw [← hWA]; exact d1
  have HRA := Lib.hid (And.intro hRA (And.intro hVA hGA))
  clear hWA c1 c2 d1 hRA hVA hGA
  clear nq
  go_wp2_with fail
  go_quiet (fail)
  go_upto_block 0 with fail
  rw [hmi]
  obtain ⟨W0, hW0⟩ : ∃ W0, WA.drewN nq = W0 := ⟨_, rfl⟩
  rw [hW0]
  have hR0 : RowIs W0 B gu cap (pre ++ us ++ post) := by rw [← hW0]; exact own_below HRA.out.1 (below_drewN (Below.refl _ _) _)
  have hV0 : RowIs W0 Bv gv cv vs := by rw [← hW0]; exact own_below HRA.out.2.1 (below_drewN (Below.refl _ _) _)
  have hG0 : w.grownBy W0 (some gu) := by rw [← hW0]; exact grown_drewN HRA.out.2.2 _
  clear hW0 d2 hor hdi hmi hw5 hwg hwr
  clear nq
  go_cut [7, 8] from 48 to 81 (fun v7 v8 wx => ∃ g : Nat, v7 = .int .u64 (g : Int) ∧ g < 4294967296 ∧ U < (g + 1) * V ∧ g * V ≤ U + V ∧ RowIs wx B gu cap (pre ++ us ++ post) ∧ RowIs wx Bv gv cv vs ∧ w.grownBy wx (some gu))
  case first =>
    go_wp2_with fail
    go_loopg [7, 8] g0 (fun gh v7 v8 wx => ∃ r : Nat, v7 = .int .u64 (gh : Int) ∧ v8 = .int .u64 (r : Int) ∧ r < 4294967296 ∧ gh * v1 + r = H ∧ U < (gh + 1) * V ∧ RowIs wx B gu cap (pre ++ us ++ post) ∧ RowIs wx Bv gv cv vs ∧ w.grownBy wx (some gu))
    case atStart =>
      refine ⟨r0, rfl, rfl, by omega, ?_, ?_, hR0, hV0, hG0⟩
      · have h := Nat.div_add_mod H v1
        rw [HGR.out.1, HGR.out.2, Nat.mul_comm] at h
        exact h
      · rw [HU.out, HV.out, HH.out, ← HGR.out.1]
        exact kn_first hv0 hu2' HLM.out.1
    case round =>
      obtain ⟨r, rfl, rfl, hr, hgr, hgU, hR, hV, hG⟩ := hrel
      have c3 : wr.cell? ⟨gu, j + m, none⟩ = some (.int .u32 (u2 : Int)) := by rw [hR.midCell hj m (by omega), HG.out.2.2.1]
      have d3 : wr.cell? ⟨gv, m, none⟩ = some (.int .u32 (v2 : Int)) := by rw [hV.cell m (by omega), HG.out.2.2.2.2]
      have d1 : wr.cell? ⟨gv, n1, none⟩ = some (.int .u32 (v1 : Int)) := by
        have e := hV.cell (m + 1) (by omega)
        rw [HG.out.2.2.2.1, HN.out.2.1] at e
        exact e
      have hgb : gk ≤ 18446744073709551615 := by
        have h1 : gk * 1 ≤ gk * v1 := Nat.mul_le_mul_left gk hv0
        omega
      have hDb : 4294967296 ≤ v1 * 4294967296 + v2 := by omega
      by_cases hge : 4294967296 ≤ gk
      · have hge1 : decide ((4294967296 : Int) ≤ (gk : Int)) = true := by rw [decide_eq_true_eq]; omega
        have hge2 : (gk : Int) ≥ 4294967296 := by omega
        have hUU2 : U < gk * V := Nat.lt_of_lt_of_le HLT.out (Nat.mul_le_mul_right V hge)
        go_wp2_with fail
        go_quiet (fail)
        obtain ⟨WB, hWB⟩ : ∃ WB, wr.drewN nq = WB := ⟨_, rfl⟩
        rw [hWB]
        have HRw := Lib.hid (show RowIs WB B gu cap (pre ++ us ++ post) ∧ RowIs WB Bv gv cv vs ∧ w.grownBy WB (some gu) by rw [← hWB]; exact ⟨own_below hR (below_drewN (Below.refl _ _) _), own_below hV (below_drewN (Below.refl _ _) _), grown_drewN hG _⟩)
        have d9 : WB.cell? ⟨gv, n1, none⟩ = some (.int .u32 (v1 : Int)) := by rw [← hWB]; exact d1
        clear hWB c3 d3 d1 hR hV hG nq
        obtain ⟨gh, hghE⟩ : ∃ gh, gk = gh + 1 := ⟨gk - 1, by omega⟩
        obtain ⟨r1, hr1⟩ : ∃ r1, r + v1 = r1 := ⟨_, rfl⟩
        have hgr' : gh * v1 + r1 = H := by rw [← hr1, ← hgr, hghE, Nat.add_mul, Nat.one_mul]; omega
        have hs1 : (gk : Int) - 1 = (gh : Int) := by omega
        have hs2 : (r : Int) + (v1 : Int) = (r1 : Int) := by omega
        have hr1b : r1 < 8589934592 := by omega
        have hwr1 : IntKind.u64.wrap (r1 : Int) = (r1 : Int) := by rw [IntKind.wrap_u64]; omega
        have hwgh : IntKind.u64.wrap (gh : Int) = (gh : Int) := by rw [IntKind.wrap_u64]; omega
        have HUg := Lib.hid (show U < (gh + 1) * V by rw [← hghE]; exact hUU2)
        have HGK := Lib.hid hghE
        clear hr1 hgr hUU2 hgU hghE
        by_cases hb : 4294967296 ≤ r1
        · have hb1 : (r1 : Int) ≥ 4294967296 := by omega
          have hb2 : decide ((4294967296 : Int) ≤ (r1 : Int)) = true := by rw [decide_eq_true_eq]; omega
          have HF := Lib.hid (kn_break (u2 := u2) (v2 := v2) hgr' hb HH.out.symm huv hun1' hv2')
          go_wp2_with fail
          go_meet
          refine ⟨gh, rfl, HF.out.1, HUg.out, ?_, HRw.out.1, HRw.out.2.1, HRw.out.2.2⟩
          rw [HU.out, HV.out, HH.out]
          exact kn_under HF.out.2 (Nat.le_of_lt HF.out.1) HLM.out.2 hDb
        · have hb1 : ¬ (r1 : Int) ≥ 4294967296 := by omega
          have hb2 : decide ((4294967296 : Int) ≤ (r1 : Int)) = false := by rw [decide_eq_false_iff_not]; omega
          go_wp2_with fail
          go_roundg gh
          case measure => have := HGK.out; omega
          case rel => exact ⟨r1, rfl, rfl, by omega, hgr', HUg.out, HRw.out.1, HRw.out.2.1, HRw.out.2.2⟩
      · have hge1 : decide ((4294967296 : Int) ≤ (gk : Int)) = false := by rw [decide_eq_false_iff_not]; omega
        obtain ⟨pr, hpr⟩ : ∃ pr, gk * v2 = pr := ⟨_, rfl⟩
        obtain ⟨q2, hq2e⟩ : ∃ q2, r * 4294967296 + u2 = q2 := ⟨_, rfl⟩
        have hprI : (gk : Int) * (v2 : Int) = (pr : Int) := by rw [← hpr, Int.natCast_mul]
        have hprb : pr < 18446744073709551616 := by
          rw [← hpr]
          have h1 : gk * v2 ≤ 4294967295 * 4294967295 := Nat.mul_le_mul (by omega) (by omega)
          omega
        have hwp : IntKind.u64.wrap (pr : Int) = (pr : Int) := by rw [IntKind.wrap_u64]; omega
        have hor2 := or_word r u2 hr hu2'
        rw [hq2e] at hor2
        have hwq : IntKind.u64.wrap ((r : Int) * 4294967296) = (r : Int) * 4294967296 := by rw [IntKind.wrap_u64]; omega
        have hts := kn_test (v2 := v2) (u2 := u2) (b := 4294967296) hgr
        rw [hpr, hq2e] at hts
        have HTS := Lib.hid hts
        clear hpr hq2e hts
        by_cases hgt : q2 < pr
        · have hgt1 : decide ((q2 : Int) < (pr : Int)) = true := by rw [decide_eq_true_eq]; omega
          have hgt2 : (pr : Int) > (q2 : Int) := by omega
          have hUU2 : U < gk * V := by
            rw [HU.out, HV.out, HH.out]
            exact kn_over (HTS.out.1 hgt) HLM.out.1
          have hgk0 : 0 < gk := by
            rcases Nat.eq_zero_or_pos gk with h | h
            · subst h; simp at hUU2
            · exact h
          go_wp2_with fail
          go_quiet (fail)
          obtain ⟨WB, hWB⟩ : ∃ WB, wr.drewN nq = WB := ⟨_, rfl⟩
          rw [hWB]
          have HRw := Lib.hid (show RowIs WB B gu cap (pre ++ us ++ post) ∧ RowIs WB Bv gv cv vs ∧ w.grownBy WB (some gu) by rw [← hWB]; exact ⟨own_below hR (below_drewN (Below.refl _ _) _), own_below hV (below_drewN (Below.refl _ _) _), grown_drewN hG _⟩)
          have d9 : WB.cell? ⟨gv, n1, none⟩ = some (.int .u32 (v1 : Int)) := by rw [← hWB]; exact d1
          clear hWB c3 d3 d1 hR hV hG nq hprI hwp hor2 hwq
          obtain ⟨gh, hghE⟩ : ∃ gh, gk = gh + 1 := ⟨gk - 1, by omega⟩
          obtain ⟨r1, hr1⟩ : ∃ r1, r + v1 = r1 := ⟨_, rfl⟩
          have hgr' : gh * v1 + r1 = H := by rw [← hr1, ← hgr, hghE, Nat.add_mul, Nat.one_mul]; omega
          have hs1 : (gk : Int) - 1 = (gh : Int) := by omega
          have hs2 : (r : Int) + (v1 : Int) = (r1 : Int) := by omega
          have hr1b : r1 < 8589934592 := by omega
          have hwr1 : IntKind.u64.wrap (r1 : Int) = (r1 : Int) := by rw [IntKind.wrap_u64]; omega
          have hwgh : IntKind.u64.wrap (gh : Int) = (gh : Int) := by rw [IntKind.wrap_u64]; omega
          have HUg := Lib.hid (show U < (gh + 1) * V by rw [← hghE]; exact hUU2)
          have HGK := Lib.hid hghE
          clear hr1 hgr hUU2 hgU hghE
          by_cases hb : 4294967296 ≤ r1
          · have hb1 : (r1 : Int) ≥ 4294967296 := by omega
            have hb2 : decide ((4294967296 : Int) ≤ (r1 : Int)) = true := by rw [decide_eq_true_eq]; omega
            have HF := Lib.hid (kn_break (u2 := u2) (v2 := v2) hgr' hb HH.out.symm huv hun1' hv2')
            go_wp2_with fail
            go_meet
            refine ⟨gh, rfl, HF.out.1, HUg.out, ?_, HRw.out.1, HRw.out.2.1, HRw.out.2.2⟩
            rw [HU.out, HV.out, HH.out]
            exact kn_under HF.out.2 (Nat.le_of_lt HF.out.1) HLM.out.2 hDb
          · have hb1 : ¬ (r1 : Int) ≥ 4294967296 := by omega
            have hb2 : decide ((4294967296 : Int) ≤ (r1 : Int)) = false := by rw [decide_eq_false_iff_not]; omega
            go_wp2_with fail
            go_roundg gh
            case measure => have := HGK.out; omega
            case rel => exact ⟨r1, rfl, rfl, by omega, hgr', HUg.out, HRw.out.1, HRw.out.2.1, HRw.out.2.2⟩
        · have hgt1 : decide ((q2 : Int) < (pr : Int)) = false := by rw [decide_eq_false_iff_not]; omega
          have HF := Lib.hid (Nat.le_of_not_lt (fun h => hgt (HTS.out.2 h)))
          go_wp2_with fail
          go_quiet (fail)
          obtain ⟨WB, hWB⟩ : ∃ WB, wr.drewN nq = WB := ⟨_, rfl⟩
          rw [hWB]
          have HRw := Lib.hid (show RowIs WB B gu cap (pre ++ us ++ post) ∧ RowIs WB Bv gv cv vs ∧ w.grownBy WB (some gu) by rw [← hWB]; exact ⟨own_below hR (below_drewN (Below.refl _ _) _), own_below hV (below_drewN (Below.refl _ _) _), grown_drewN hG _⟩)
          clear hWB c3 d3 d1 hR hV hG nq hprI hwp hor2 hwq
          go_wp2_with fail
          go_meet
          refine ⟨gk, rfl, by omega, hgU, ?_, HRw.out.1, HRw.out.2.1, HRw.out.2.2⟩
          rw [HU.out, HV.out, HH.out]
          exact kn_under HF.out (by omega) HLM.out.2 hDb
  case rest =>
  obtain ⟨g, rfl, hg1, hg2, hg3, hR, hV, hG⟩ := hcut
  have HQ := Lib.hid (And.intro hg2 hg3)
  clear hR0 hV0 hG0 hg2 hg3 hw3 hw4 hw6 hw7 hwv1 hwv2 hwu2 hv00 hv01 hg0' hr0' hvI hvI2 hw1 hw2
  have hwg2 : IntKind.u32.wrap (g : Int) = (g : Int) := by rw [IntKind.wrap_u32]; omega
  go_wp2
  go_loopg [9, 10, 84] n (fun gh v9 v10 v84 wx => ∃ (i c b : Nat) (xs : List Nat), v9 = .int .u32 (b : Int) ∧ v10 = .int .u64 (c : Int) ∧ v84 = .int .i64 (i : Int) ∧ i + gh = n ∧ MulSub us vs g i xs c b ∧ RowIs wx B gu cap (pre ++ xs ++ post) ∧ RowIs wx Bv gv cv vs ∧ w.grownBy wx (some gu))
  case atStart => exact ⟨0, 0, 0, us, rfl, rfl, rfl, by omega, MulSub.start g hsu, hR, hV, hG⟩
  case round =>
    obtain ⟨i, c, b, xs, rfl, rfl, rfl, hig, hMS, hR, hV, hG⟩ := hrel
    have hnm := HN.out
    have hxl : xs.length = m + 3 := hMS.1.trans hu
    have hcb := hMS.2.2.2.1
    have hbb := hMS.2.2.2.2.1
    have hnb : n ≤ 200002 := by omega
    by_cases hi : i < n
    · obtain ⟨gh, rfl⟩ : ∃ gh, gk = gh + 1 := ⟨gk - 1, by omega⟩
      obtain ⟨y, hy⟩ : ∃ y, vs[i]'(by omega) = y := ⟨_, rfl⟩
      obtain ⟨x, hx⟩ : ∃ x, us[i]'(by omega) = x := ⟨_, rfl⟩
      have hxx : xs[i]'(by omega) = x := by rw [get_of_drop hMS.2.1 (by omega) (by omega), hx]
      have hy2 : y < 4294967296 := by rw [← hy]; exact hsv _ (List.getElem_mem _)
      have hx2 : x < 4294967296 := by rw [← hx]; exact hsu _ (List.getElem_mem _)
      have cx := hR.midCell hj i (by omega)
      have cy := hV.cell i (by omega)
      have fx := hR.free (j + i)
      rw [hxx] at cx
      rw [hy] at cy
      obtain ⟨pr, hpr⟩ : ∃ pr, g * y = pr := ⟨_, rfl⟩
      obtain ⟨t, ht⟩ : ∃ t, pr + c = t := ⟨_, rfl⟩
      have hprI : (g : Int) * (y : Int) = (pr : Int) := by rw [← hpr, Int.natCast_mul]
      have hprb : pr ≤ 18446744065119617025 := by
        rw [← hpr]
        exact Nat.mul_le_mul (show g ≤ 4294967295 by omega) (show y ≤ 4294967295 by omega)
      have htI : (pr : Int) + (c : Int) = (t : Int) := by omega
      have htb : t < 18446744073709551616 := by omega
      obtain ⟨c', hc'⟩ : ∃ c', t / 4294967296 = c' := ⟨_, rfl⟩
      obtain ⟨lo, hlo⟩ : ∃ lo, t % 4294967296 = lo := ⟨_, rfl⟩
      have hdi : (t : Int) / 4294967296 = (c' : Int) := by omega
      have hmi : (t : Int) % 4294967296 = (lo : Int) := by omega
      have hlob : lo < 4294967296 := by omega
      have HS32 := Lib.hid (fun W => sub32_any x lo b W hx2 hlob hbb)
      have hdb := dif_bor2 x lo b hx2 hlob hbb
      obtain ⟨x', hx'⟩ : ∃ x', dif x lo b = x' := ⟨_, rfl⟩
      obtain ⟨b', hb'⟩ : ∃ b', bor x lo b = b' := ⟨_, rfl⟩
      rw [hx', hb'] at HS32 hdb
      have hstep := hMS.step (x' := x') (b' := b') (by omega) (by omega) hg1 hsv hdb.1 hdb.2.1 (by rw [hy, hx, hpr, ht, hlo]; exact hdb.2.2)
      rw [hy, hpr, ht, hc'] at hstep
      have HMS := Lib.hid hstep
      have HRp := Lib.hid (hR.midPut hj i x' (by omega))
      have HVp := Lib.hid (RowIs.kept hV (grown_put (grownBy_refl wr (some gu)) (j + i) (.int .u32 (x' : Int))) hne)
      have HGp := Lib.hid (World.grownBy.trans hG (grown_put (grownBy_refl wr (some gu)) (j + i) (.int .u32 (x' : Int))))
      have hiI : (i : Int) < (n : Int) := by omega
      have hi0 : (0 : Int) ≤ (i : Int) := by omega
      have hi3 : (i : Int) < (n3 : Int) := by omega
      have hcI : (c : Int) < 4294967296 := by omega
      clear hy hx hxx hpr ht hc' hlo hx' hb' hdb hstep hMS hR hV hG hnm hxl
      go_wp2_with (go_at_call 129; refine (HS32.out _).mono ?_; rintro e w' ⟨rfl, rfl⟩)
      go_roundg gh
      case measure => omega
      case rel => exact ⟨i + 1, c', b', xs.set i x', rfl, rfl, by go_num, by omega, HMS.out, HRp.out, HVp.out, HGp.out⟩
    · obtain rfl : i = n := by omega
      obtain ⟨x, hx⟩ : ∃ x, us[i]'(by omega) = x := ⟨_, rfl⟩
      have hxx : xs[i]'(by omega) = x := by rw [get_of_drop hMS.2.1 (by omega) (by omega), hx]
      have hx2 : x < 4294967296 := by rw [← hx]; exact hsu _ (List.getElem_mem _)
      have cx := hR.midCell hj i (by omega)
      have fx := hR.free (j + i)
      rw [hxx] at cx
      have HS32 := Lib.hid (fun W => sub32_any x c b W hx2 hcb hbb)
      have hdb := dif_bor2 x c b hx2 hcb hbb
      obtain ⟨x', hx'⟩ : ∃ x', dif x c b = x' := ⟨_, rfl⟩
      obtain ⟨b', hb'⟩ : ∃ b', bor x c b = b' := ⟨_, rfl⟩
      rw [hx', hb'] at HS32 hdb
      have htop2 := hMS.top (x' := x') (b' := b') (by omega) (by omega) hdb.1 (by rw [hx]; exact hdb.2.2)
      rw [HUU.out.1, HUU.out.2] at htop2
      have HT2 := Lib.hid htop2
      have HRp := Lib.hid (hR.midPut hj i x' (by omega))
      have HVp := Lib.hid (RowIs.kept hV (grown_put (grownBy_refl wr (some gu)) (j + i) (.int .u32 (x' : Int))) hne)
      have HGp := Lib.hid (World.grownBy.trans hG (grown_put (grownBy_refl wr (some gu)) (j + i) (.int .u32 (x' : Int))))
      have hi1 : ¬ (i : Int) < (i : Int) := by omega
      have hi0 : (0 : Int) ≤ (i : Int) := by omega
      have hi3 : (i : Int) < (n3 : Int) := by omega
      have hcI : (c : Int) < 4294967296 := by omega
      have hwc : IntKind.u32.wrap (c : Int) = (c : Int) := by rw [IntKind.wrap_u32]; omega
      have HB1 := Lib.hid hdb.2.1
      have HN3 := Lib.hid (show i + 1 = n3 by omega)
      clear hx hxx hx' hb' hdb htop2 hMS hR hV hG
      have hbc : b' = 0 ∨ b' = 1 := by have := HB1.out; omega
      rcases hbc with rfl | rfl
      · have hgV : g * V ≤ U := by have h := HT2.out.2.2; rw [Nat.zero_mul] at h; omega
        obtain ⟨k1, k2⟩ := (kn_quot HVP.out HQ.out.1 HQ.out.2).1 hgV
        have HF := Lib.hid (show ev 4294967296 (xs.set i x') = U % V by have h := HT2.out.2.2; rw [Nat.zero_mul] at h; omega)
        have HE := Lib.hid k1
        clear k1 k2 hgV
        go_wp2_with (go_at_call 129; refine (HS32.out _).mono ?_; rintro e w' ⟨rfl, rfl⟩)
        go_ret
        exact ⟨by rw [← HE.out]; rfl, ⟨xs.set i x', by rw [HT2.out.1]; exact HN3.out, HT2.out.2.1, HF.out, HRp.out⟩, HGp.out⟩
      · have hX : ev 4294967296 (xs.set i x') < 4294967296 ^ (i + 1) := by
          have h := Big.ev_lt HT2.out.2.1
          rw [HT2.out.1] at h
          exact h
        have hgV : U < g * V := by
          have h := HT2.out.2.2
          rw [Nat.one_mul] at h
          omega
        obtain ⟨-, -, k3⟩ := (kn_quot HVP.out HQ.out.1 HQ.out.2).2 hgV
        obtain ⟨g', hg'⟩ : ∃ g', g - 1 = g' := ⟨_, rfl⟩
        have hgI : (g : Int) - 1 = (g' : Int) := by omega
        have hg'b : g' < 4294967296 := by omega
        have HGG := Lib.hid (And.intro hg' k3)
        have HXX := Lib.hid hX
        have hwg3 : IntKind.u32.wrap (g' : Int) = (g' : Int) := by rw [IntKind.wrap_u32]; omega
        obtain ⟨xs1, hxs1⟩ : ∃ xs1, xs.set i x' = xs1 := ⟨_, rfl⟩
        rw [hxs1] at HT2 HRp HXX
        clear hg' k3 hgV hX hxs1
        go_wp2_with (go_at_call 129; refine (HS32.out _).mono ?_; rintro e w' ⟨rfl, rfl⟩)
        have hRp := HRp.out
        have hVp := HVp.out
        have hGp := HGp.out
        clear HRp HVp HGp HS32 hi1 cx fx hwc hcI
        obtain ⟨W5, hW5⟩ : ∃ W5, wr.setCell ⟨gu, j + i, none⟩ (.int .u32 (x' : Int)) = W5 := ⟨_, rfl⟩
        rw [hW5] at hRp hVp hGp
        rw [hW5]
        clear hW5
        go_loopg [14, 132] i (fun gh v14 v132 wx => ∃ (q c : Nat) (ys : List Nat), v14 = .int .u32 (c : Int) ∧ v132 = .int .i64 (q : Int) ∧ q + gh = i ∧ AddBack xs1 vs q ys c ∧ RowIs wx B gu cap (pre ++ ys ++ post) ∧ RowIs wx Bv gv cv vs ∧ w.grownBy wx (some gu))
        case atStart => exact ⟨0, 0, xs1, rfl, rfl, by omega, AddBack.start HT2.out.2.1, hRp, hVp, hGp⟩
        case round =>
          obtain ⟨q, c9, ys, rfl, rfl, hqg, hAB, hR, hV, hG⟩ := hrel
          have hyl : ys.length = m + 3 := hAB.1.trans (by rw [HT2.out.1]; omega)
          have hc9 := hAB.2.2.2.1
          have hx1l := HT2.out.1
          by_cases hqi : q < i
          · obtain ⟨gh2, rfl⟩ : ∃ gh2, gk = gh2 + 1 := ⟨gk - 1, by omega⟩
            obtain ⟨y, hy⟩ : ∃ y, vs[q]'(by omega) = y := ⟨_, rfl⟩
            obtain ⟨x9, hx9⟩ : ∃ x9, xs1[q]'(by omega) = x9 := ⟨_, rfl⟩
            have hxx : ys[q]'(by omega) = x9 := by rw [get_of_drop hAB.2.1 (by omega) (by omega), hx9]
            have hy2 : y < 4294967296 := by rw [← hy]; exact hsv _ (List.getElem_mem _)
            have hx92 : x9 < 4294967296 := by rw [← hx9]; exact HT2.out.2.1 _ (List.getElem_mem _)
            have cx := hR.midCell hj q (by omega)
            have cy := hV.cell q (by omega)
            have fx := hR.free (j + q)
            rw [hxx] at cx
            rw [hy] at cy
            have HA32 := Lib.hid (fun W => add32_any x9 y c9 W hx92 hy2 hc9)
            obtain ⟨y', hy'⟩ : ∃ y', (x9 + y + c9) % 4294967296 = y' := ⟨_, rfl⟩
            obtain ⟨c', hc'⟩ : ∃ c', (x9 + y + c9) / 4294967296 = c' := ⟨_, rfl⟩
            rw [hy', hc'] at HA32
            have hstep := hAB.step (y' := y') (c' := c') (by omega) (by omega) (by omega) (by omega) (by rw [hx9, hy]; omega)
            have HAS := Lib.hid hstep
            have HRp := Lib.hid (hR.midPut hj q y' (by omega))
            have HVp := Lib.hid (RowIs.kept hV (grown_put (grownBy_refl wr (some gu)) (j + q) (.int .u32 (y' : Int))) hne)
            have HGp := Lib.hid (World.grownBy.trans hG (grown_put (grownBy_refl wr (some gu)) (j + q) (.int .u32 (y' : Int))))
            have hqI : (q : Int) < (i : Int) := by omega
            have hq0 : (0 : Int) ≤ (q : Int) := by omega
            have hq3 : (q : Int) < (n3 : Int) := by omega
            clear hy hx9 hxx hy' hc' hstep hAB hR hV hG hyl hx1l
            go_wp2_with (go_at_call 128; refine (HA32.out _).mono ?_; rintro e w' ⟨rfl, rfl⟩)
            go_roundg gh2
            case measure => omega
            case rel => exact ⟨q + 1, c', ys.set q y', rfl, by go_num, by omega, HAS.out, HRp.out, HVp.out, HGp.out⟩
          · obtain rfl : q = i := by omega
            obtain ⟨x9, hx9⟩ : ∃ x9, xs1[q]'(by omega) = x9 := ⟨_, rfl⟩
            have hxx : ys[q]'(by omega) = x9 := by rw [get_of_drop hAB.2.1 (by omega) (by omega), hx9]
            have hx92 : x9 < 4294967296 := by rw [← hx9]; exact HT2.out.2.1 _ (List.getElem_mem _)
            have cx := hR.midCell hj q (by omega)
            have fx := hR.free (j + q)
            rw [hxx] at cx
            obtain ⟨y', hy'⟩ : ∃ y', (x9 + c9) % 4294967296 = y' := ⟨_, rfl⟩
            have hsI : ((x9 : Int) + (c9 : Int)) % 4294967296 = (y' : Int) := by omega
            have hsW : IntKind.u32.wrap ((x9 : Int) + (c9 : Int)) = (y' : Int) := by rw [IntKind.wrap_u32]; omega
            have htp := hAB.top (y' := y') (by omega) (by omega) HT2.out.2.1 (by rw [hx9, hy'])
            obtain ⟨l1, l2, c', l3, l4⟩ := htp
            have hX2 : ev 4294967296 (ys.set q y') < 4294967296 ^ (q + 1) := by
              have h := Big.ev_lt l2
              rw [l1] at h
              exact h
            have hR2 := HT2.out.2.2
            rw [Nat.one_mul] at hR2
            have hbk := kn_back (c := c') HQ.out.1 HQ.out.2 HVP.out hR2 HXX.out (by rw [← HUU.out.2]; exact l4) hX2 l3
            have HBK := Lib.hid hbk
            have HLL := Lib.hid (And.intro l1 l2)
            have HRp := Lib.hid (hR.midPut hj q y' (by omega))
            have HGp := Lib.hid (World.grownBy.trans hG (grown_put (grownBy_refl wr (some gu)) (j + q) (.int .u32 (y' : Int))))
            have hq1' : ¬ (q : Int) < (q : Int) := by omega
            have hq0 : (0 : Int) ≤ (q : Int) := by omega
            have hq3 : (q : Int) < (n3 : Int) := by omega
            clear hx9 hxx hy' hAB hR hV hG hyl hx1l l1 l2 l3 l4 hX2 hR2 hbk
            go_wp2_with fail
            go_ret
            exact ⟨by rw [← HBK.out.2.1, HGG.out.1]; rfl, ⟨ys.set q y', by rw [HLL.out.1]; exact HN3.out, HLL.out.2, HBK.out.2.2, HRp.out⟩, HGp.out⟩
end Go.Proofs.YtmnibfdenmeepaaDoor
