/- The texts RDivz RTwo RDivm BitsQ RegTwo Shift, one behind the other. -/
import Derived.Test.YtmnibfdenmeepaaGreatDoorMgBigBits13
/- Divided of the reference. -/
namespace Go.Proofs.YtmnibfdenmeepaaGreatDoor
open Go.RowKit Go.Shelf Big

/-- The quotient, rounded down. -/
def divQ (s t : Bool) (m k : Nat) : Int := if (s != t) = true ∧ 0 < m % k then sgI (s != t) (m / k) + -1 else sgI (s != t) (m / k)
def DivdRes (B : Nat) (s t : Bool) (m k : Nat) (w' : World) (e : Ending) : Prop :=
  ∃ v1 v2, e = .returned (.tuple #[.agg #[.bool (decide (divQ s t m k < 0)), v1], .agg #[.bool (decide (sgI s m - divQ s t m k * sgI t k < 0)), v2]]) ∧ DecIs w' B v1 (divQ s t m k).natAbs ∧ DecIs w' B v2 (sgI s m - divQ s t m k * sgI t k).natAbs
def dv4S : Nat → Nat := fun i => i + 34
def dv4Pr (W0 : World) (o : Bool) (lq : Nat) (aq : Option Addr) (cq : Nat) (Q : Int) : Nat → Value → World → Prop
  | 0, v, _ => v = .agg #[.bool o, .slice aq lq cq]
  | 1, v, w => ∃ a l c, v = .agg #[.bool true, .slice a l c] ∧ DecIs w W0.heap.size (.slice a l c) 1
  | _, v, w => ∃ a l c, v = .agg #[.bool (decide (Q < 0)), .slice a l c] ∧ DecIs w W0.heap.size (.slice a l c) Q.natAbs
theorem dv4Pr_stays (W0 : World) (o : Bool) (lq : Nat) (aq : Option Addr) (cq : Nat) (Q : Int) : Stays 3 (dv4Pr W0 o lq aq cq Q) := by
  intro i v w w' hi hb h
  match i, h with
  | 0, h => exact h
  | 1, h => obtain ⟨a, l, c, e, hd⟩ := h; exact ⟨a, l, c, e, hd.kept hb⟩
  | 2, h => obtain ⟨a, l, c, e, hd⟩ := h; exact ⟨a, l, c, e, hd.kept hb⟩
  | n + 3, _ => omega
/-- A number in a block of its own. -/
def BoxZ (W0 : World) (g : Nat) (Q : Int) (w : World) : Prop := ∃ a l c, Has w g 45 #[.bool (decide (Q < 0)), .slice a l c] ∧ DecIs w W0.heap.size (.slice a l c) Q.natAbs ∧ Below W0.heap.size W0 w
theorem sgI_abs (x : Bool) (d : Nat) : (sgI x d).natAbs = d := by unfold sgI; cases x <;> simp
theorem sgI_pos_and (x : Bool) (d : Nat) : sgI (x && decide (0 < d)) d = sgI x d := by
  unfold sgI
  cases x <;> rcases Nat.eq_zero_or_pos d with h | h <;> simp [h]
theorem neg_one {w : World} {B : Nat} {v : Value} (h : DecIs w B v (-1 : Int).natAbs) : DecIs w B v 1 := h
theorem len_mul {a b p q : Nat} (ha : (lims 10 a).length ≤ p) (hb : (lims 10 b).length ≤ q) : (lims 10 (a * b)).length ≤ p + q := by
  refine (lims_len_le ten_ge (a * b) (p + q)).2 ?_
  rw [Nat.pow_add]
  exact Nat.mul_lt_mul'' ((lims_len_le ten_ge a p).1 ha) ((lims_len_le ten_ge b q).1 hb)
theorem sgI_self (z : Int) : sgI (decide (z < 0)) z.natAbs = z := by
  unfold sgI
  split
  · rename_i h; have h := of_decide_eq_true h; omega
  · rename_i h; have h : ¬ z < 0 := fun h2 => h (decide_eq_true h2); omega
def dv5S : Nat → Nat := fun i => i + 37
def dv5Pr (W0 : World) (s t : Bool) (lv lu lq : Nat) (av bv aq : Option Addr) (ca cb cq : Nat) (Q P R : Int) : Nat → Value → World → Prop
  | 0, v, _ => v = .agg #[.bool (decide (Q < 0)), .slice aq lq cq]
  | 1, v, _ => v = .agg #[.bool s, .slice av lv ca]
  | 2, v, _ => v = .agg #[.bool (decide (Q < 0)), .slice aq lq cq]
  | 3, v, _ => v = .agg #[.bool t, .slice bv lu cb]
  | 4, v, w => ∃ a c, v = .agg #[.bool (decide (P < 0)), .slice a (lims 10 P.natAbs).length c] ∧ DecIs w W0.heap.size (.slice a (lims 10 P.natAbs).length c) P.natAbs
  | 5, v, w => ∃ a c, v = .agg #[.bool (!decide (P < 0) && decide (0 < P.natAbs)), .slice a (lims 10 P.natAbs).length c] ∧ DecIs w W0.heap.size (.slice a (lims 10 P.natAbs).length c) P.natAbs
  | _, v, w => ∃ a l c, v = .agg #[.bool (decide (R < 0)), .slice a l c] ∧ DecIs w W0.heap.size (.slice a l c) R.natAbs
theorem dv5Pr_stays (W0 : World) (s t : Bool) (lv lu lq : Nat) (av bv aq : Option Addr) (ca cb cq : Nat) (Q P R : Int) : Stays 7 (dv5Pr W0 s t lv lu lq av bv aq ca cb cq Q P R) := by
  intro i v w w' hi hb h
  match i, h with
  | 0, h => exact h
  | 1, h => exact h
  | 2, h => exact h
  | 3, h => exact h
  | 4, h => obtain ⟨a, c, e, hd⟩ := h; exact ⟨a, c, e, hd.kept hb⟩
  | 5, h => obtain ⟨a, c, e, hd⟩ := h; exact ⟨a, c, e, hd.kept hb⟩
  | 6, h => obtain ⟨a, l, c, e, hd⟩ := h; exact ⟨a, l, c, e, hd.kept hb⟩
  | n + 7, _ => omega
theorem set_keep {L : Array Bool} {i j : Nat} (h : L.getD j false = true) : (L.setIfInBounds i true).getD j false = true := by
  by_cases e : i = j
  · subst e
    have hlt : i < L.size := by
      rcases Nat.lt_or_ge i L.size with h1 | h1
      · exact h1
      · simp [Array.getD_eq_getD_getElem?, Array.getElem?_eq_none h1] at h
    simp [Array.getD_eq_getD_getElem?, hlt]
  · simp only [Array.getD_eq_getD_getElem?] at h ⊢
    rwa [Array.getElem?_setIfInBounds_ne e]
/-- What has come up is closed under what it asks. -/
def Cd (L : Nat → Bool) : Prop := (L 4 = true → L 2 = true ∧ L 3 = true) ∧ (L 5 = true → L 4 = true) ∧ (L 6 = true → L 1 = true ∧ L 5 = true)
theorem Cd.set {L : Array Bool} (h : Cd (fun i => L.getD i false)) (i : Nat) (h4 : i = 4 → L.getD 2 false = true ∧ L.getD 3 false = true) (h5 : i = 5 → L.getD 4 false = true) (h6 : i = 6 → L.getD 1 false = true ∧ L.getD 5 false = true) :
    Cd (fun j => (L.setIfInBounds i true).getD j false) := by
  refine ⟨fun hj => ?_, fun hj => ?_, fun hj => ?_⟩
  · have e : L.getD 2 false = true ∧ L.getD 3 false = true := by
      rcases set_true hj with e | e
      · exact h4 e.symm
      · exact h.1 e
    exact ⟨set_keep e.1, set_keep e.2⟩
  · have e : L.getD 4 false = true := by
      rcases set_true hj with e | e
      · exact h5 e.symm
      · exact h.2.1 e
    exact set_keep e
  · have e : L.getD 1 false = true ∧ L.getD 5 false = true := by
      rcases set_true hj with e | e
      · exact h6 e.symm
      · exact h.2.2 e
    exact ⟨set_keep e.1, set_keep e.2⟩
def dv5Mid (b : Nat) (w0 W0 : World) (lq : Nat) (aq : Option Addr) (cq : Nat) (Q R : Int) (u : Nat → Value) (w : World) : Prop :=
  ∃ a l c, u 43 = .agg #[.bool (decide (R < 0)), .slice a l c] ∧ DecIs w W0.heap.size (.slice a l c) R.natAbs ∧ DecIs w W0.heap.size (.slice aq lq cq) Q.natAbs ∧ Has w (b + 2) 45 #[.bool (decide (Q < 0)), .slice aq lq cq] ∧ Has w (b + 3) 45 #[.bool false, .slice none 0 0] ∧ Below b w0 w
def dv5Done (b : Nat) (w0 W0 : World) (lq : Nat) (aq : Option Addr) (cq : Nat) (Q R : Int) (w : World) : Prop :=
  ∃ a l c, DecIs w W0.heap.size (.slice a l c) R.natAbs ∧ DecIs w W0.heap.size (.slice aq lq cq) Q.natAbs ∧ Has w (b + 2) 45 #[.bool (decide (Q < 0)), .slice aq lq cq] ∧ Has w (b + 3) 45 #[.bool (decide (R < 0)), .slice a l c] ∧ Below b w0 w
set_option maxRecDepth 100000 in
set_option maxHeartbeats 4000000 in
theorem rDivided_any (B1 B2 m k : Nat) (va vb : Value) (s t : Bool) (w : World) (ha : DecIs w B1 va m) (hb : DecIs w B2 vb k) (hk : 0 < k) (hla : (lims 10 m).length ≤ 100000) (hlb : (lims 10 k).length ≤ 100000) :
    Calls Tryz.prog 26 #[.agg #[.bool s, va], .agg #[.bool t, vb]] w fun e w' => DivdRes w.heap.size s t m k w' e ∧ Below w.heap.size w w' := by
  have HA := Lib.hid ha
  have HB := Lib.hid hb
  obtain ⟨av, ca, rfl⟩ := ha.slice
  obtain ⟨bv, cb, rfl⟩ := hb.slice
  obtain ⟨lv, hlv⟩ : ∃ lv, (lims 10 m).length = lv := ⟨_, rfl⟩
  obtain ⟨lu, hlu⟩ : ∃ lu, (lims 10 k).length = lu := ⟨_, rfl⟩
  rw [hlv] at HA hla ⊢
  rw [hlu] at HB hlb ⊢
  have HLV := Lib.hid hlv
  have HLU := Lib.hid hlu
  clear ha hb hlv hlu
  obtain ⟨Q, hQ0⟩ : ∃ Q, divQ s t m k = Q := ⟨_, rfl⟩
  obtain ⟨d, hd0⟩ : ∃ d, m / k = d := ⟨_, rfl⟩
  obtain ⟨r, hr0⟩ : ∃ r, m % k = r := ⟨_, rfl⟩
  obtain ⟨x, hx⟩ : ∃ x, (s != t) = x := ⟨_, rfl⟩
  have HQQ := Lib.hid (show Q = if x = true ∧ 0 < r then sgI x d + -1 else sgI x d by rw [← hQ0, ← hr0, ← hd0, ← hx]; rfl)
  have HDK := Lib.hid (show d ≤ m by rw [← hd0]; exact Nat.div_le_self _ _)
  unfold DivdRes
  rw [hQ0]
  obtain ⟨P, hP0⟩ : ∃ P, Q * sgI t k = P := ⟨_, rfl⟩
  obtain ⟨R, hR0⟩ : ∃ R, sgI s m - P = R := ⟨_, rfl⟩
  rw [hP0, hR0]
  have HP0 := Lib.hid hP0
  have HR0 := Lib.hid hR0
  clear hP0 hR0
  have hx2 : (s == t) = !x := by rw [← hx]; cases s <;> cases t <;> rfl
  go_enter Tryz.func26, Tryz.ntmps26
  go_wp2_with fail
  obtain ⟨W0, hW0⟩ : ∃ W0, (((w.alloc (.cells #[.bool s, .slice av lv ca] 45)).alloc (.cells #[.bool t, .slice bv lu cb] 45)).alloc (.cells #[.bool false, .slice none 0 0] 45)).alloc (.cells #[.bool false, .slice none 0 0] 45) = W0 := ⟨_, rfl⟩
  rw [hW0]
  have hz0 : W0.heap.size = w.heap.size + 4 := by rw [← hW0]; simp
  have hA0 : DecIs W0 B1 (.slice av lv ca) m := by rw [← hW0]; exact (((HA.out.alloc _).alloc _).alloc _).alloc _
  have hB0 : DecIs W0 B2 (.slice bv lu cb) k := by rw [← hW0]; exact (((HB.out.alloc _).alloc _).alloc _).alloc _
  have hX : Has W0 w.heap.size 45 #[.bool s, .slice av lv ca] := by rw [← hW0]; exact (((Has.new w _ _).alloc _).alloc _).alloc _
  have hY : Has W0 (w.heap.size + 1) 45 #[.bool t, .slice bv lu cb] := by rw [← hW0]; exact ((Has.new' (n := w.heap.size + 1) (by simp) _ _).alloc _).alloc _
  have hP : Has W0 (w.heap.size + 2) 45 #[.bool false, .slice none 0 0] := by rw [← hW0]; exact (Has.new' (n := w.heap.size + 2) (by simp) _ _).alloc _
  have hQ : Has W0 (w.heap.size + 3) 45 #[.bool false, .slice none 0 0] := by rw [← hW0]; exact Has.new' (n := w.heap.size + 3) (by simp) _ _
  have hBB : Below w.heap.size w W0 := by rw [← hW0]; exact ((((Below.refl _ w).alloc (Nat.le_refl _) _).alloc (by simp) _).alloc (by simp; omega) _).alloc (by simp; omega) _
  clear hW0
  refine (rdivd_any B1 B2 m k _ _ W0 hA0 hB0 hk (by rw [HLV.out]; omega) (by rw [HLU.out]; omega)).mono ?_
  rw [hd0, hr0]
  rintro e w1 ⟨⟨qv, rv, rfl, hq1, hr1⟩, hb1⟩
  obtain ⟨aq, cq, rfl⟩ := hq1.slice
  obtain ⟨ar, cr, rfl⟩ := hr1.slice
  have HN := Lib.hid (fun W => num_len d cq aq x W)
  obtain ⟨lq, hlq⟩ : ∃ lq, (lims 10 d).length = lq := ⟨_, rfl⟩
  obtain ⟨lr, hlr⟩ : ∃ lr, (lims 10 r).length = lr := ⟨_, rfl⟩
  rw [hlq] at HN hq1 ⊢
  rw [hlr] at hr1 ⊢
  have hlr2 := dec_len (n := r)
  rw [hlr] at hlr2
  have HLQ := Lib.hid hlq
  have HLR := Lib.hid hlr
  have HR := Lib.hid hlr2
  clear hlq hlr hlr2
  have hX1 := hX.below hb1
  have hY1 := hY.below hb1
  obtain ⟨x0, x1, -⟩ := cells_two hX1
  obtain ⟨y0, y1, -⟩ := cells_two hY1
  go_wp2_with fail
  refine (HN.out _).mono ?_
  rintro e w2 ⟨rfl, hb2⟩
  have HB2 := Lib.hid (Below.behind hb1 hb2)
  have HX2 := Lib.hid (hX1.below hb2)
  have HY2 := Lib.hid (hY1.below hb2)
  have HQ2 := Lib.hid (hq1.kept hb2)
  have HR2 := Lib.hid (hr1.kept hb2)
  obtain ⟨x0, x1, -⟩ := cells_two HX2.out
  obtain ⟨y0, y1, -⟩ := cells_two HY2.out
  clear hb1 hb2 hX1 hY1 hq1 hr1
  clear hd0 hr0 hQ0 hx
  obtain ⟨o, ho⟩ : ∃ o, (x && decide (0 < d)) = o := ⟨_, rfl⟩
  rw [ho]
  have HO := Lib.hid ho
  clear ho
  go_upto_region 3 with fail
  obtain ⟨W3, hW3⟩ : ∃ W3, w2.alloc (.cells #[.bool o, .slice aq lq cq] 45) = W3 := ⟨_, rfl⟩
  rw [hW3]
  have hG3 : Has W3 w2.heap.size 45 #[.bool o, .slice aq lq cq] := by rw [← hW3]; exact Has.new _ _ _
  have hX3 : Has W3 w.heap.size 45 #[.bool s, .slice av lv ca] := by rw [← hW3]; exact HX2.out.alloc _
  have hY3 : Has W3 (w.heap.size + 1) 45 #[.bool t, .slice bv lu cb] := by rw [← hW3]; exact HY2.out.alloc _
  have HQ3 := Lib.hid (show DecIs W3 W0.heap.size (.slice aq lq cq) d by rw [← hW3]; exact HQ2.out.alloc _)
  have hB3 : Below W0.heap.size W0 W3 := by rw [← hW3]; exact HB2.out.alloc HB2.out.size _
  have hz2 := HB2.out.size
  have hz3 : W3.heap.size = w2.heap.size + 1 := by rw [← hW3]; simp
  obtain ⟨g, hg⟩ : ∃ g, w2.heap.size = g := ⟨_, rfl⟩
  rw [hg] at hG3 hz2 hz3 ⊢
  have HB3 := Lib.hid hB3
  clear HX2 HY2 HQ2 HR2 HB2 hW3 hg hB3 x0 x1 y0 y1
  obtain ⟨x0, x1, -⟩ := cells_two hX3
  obtain ⟨y0, y1, -⟩ := cells_two hY3
  have hQs : x = true ∧ 0 < r → sgI o d + sgI true 1 = Q := by
    intro h
    rw [HQQ.out, if_pos h, ← HO.out, sgI_pos_and]
    rfl
  have hQn : ¬ (x = true ∧ 0 < r) → Q = sgI x d := fun h => by rw [HQQ.out, if_neg h]
  have HQS := Lib.hid hQs
  have HQN := Lib.hid hQn
  clear hQs hQn
  obtain ⟨cc, hcc⟩ : ∃ cc, decide (x = true ∧ 0 < r) = cc := ⟨_, rfl⟩
  have HC := Lib.hid hcc
  go_cut [33] from 24 to 33 (fun v33 wx => v33 = .bool cc ∧ wx = W3)
  case first =>
    rcases HR.out with ⟨rfl, hr0⟩ | ⟨hl, hr0⟩
    · have HCC := Lib.hid (show cc = false by rw [← HC.out]; simp [hr0])
      clear hcc hr0
      cases x with
      | false =>
        go_wp2_with fail
        go_meet
        exact ⟨by rw [HCC.out], rfl⟩
      | true =>
        go_wp2_with fail
        go_meet
        exact ⟨by rw [HCC.out], rfl⟩
    · have hlI : (lr : Int) > 0 := by omega
      cases x with
      | false =>
        have HCC := Lib.hid (show cc = false by rw [← HC.out]; simp)
        clear hcc hr0 hl
        go_wp2_with fail
        go_meet
        exact ⟨by rw [HCC.out], rfl⟩
      | true =>
        have HCC := Lib.hid (show cc = true by rw [← HC.out]; simp [hr0])
        have HLL := Lib.hid hl
        clear hcc hr0 hl
        go_wp2_with fail
        go_meet
        exact ⟨by first | rw [HCC.out, decide_eq_true HLL.out] | rw [HCC.out], rfl⟩
  case rest =>
  obtain ⟨rfl, hw⟩ := hcut
  have hw' := hw.symm
  subst hw'
  go_upto_if 33 with fail
  go_cut [33] from 34 to 36 (fun _ wx => BoxZ W0 g Q wx)
  case first =>
    cases cc with
    | false =>
      have HF := Lib.hid (show Q = sgI x d from HQN.out (of_decide_eq_false HC.out))
      go_wp2_with fail
      go_meet
      refine ⟨aq, lq, cq, ?_, ?_, HB3.out⟩
      · have e : decide (Q < 0) = o := by rw [HF.out, ← HO.out]; exact sgn_z.symm
        rw [e]; exact hG3
      · rw [HF.out, sgI_abs]; exact HQ3.out
    | true =>
      have HF := Lib.hid (show sgI o d + sgI true 1 = Q from HQS.out (of_decide_eq_true HC.out))
      go_upto_region 4 with fail
      obtain ⟨q0, q1, -⟩ := cells_two hG3
      have HQW := Lib.hid (fun W (h : Below W3.heap.size W3 W) => HQ3.out.kept h)
      have hst := dv4Pr_stays W0 o lq aq cq Q
      have hd1 : d ≤ m := HDK.out
      have hlq : lq ≤ 100000 := by
        have h1 : (lims 10 d).length ≤ (lims 10 m).length := (lims_len_le ten_ge _ _).2 (Nat.lt_of_le_of_lt hd1 ((lims_len_le ten_ge _ _).1 (Nat.le_refl _)))
        have h2 := HLQ.out
        have h3 := HLV.out
        omega
      refine wp_region_inv (Inv := fun listed x' w' => ∃ u, x' = { tmps := #[.agg #[.bool s, .slice av lv ca], .agg #[.bool t, .slice bv lu cb], .pointer (some ⟨w.heap.size, 0, none⟩), .pointer (some ⟨w.heap.size + 1, 0, none⟩), .pointer (some ⟨w.heap.size + 1 + 1, 0, none⟩), .pointer (some ⟨w.heap.size + 1 + 1 + 1, 0, none⟩), .slice aq lq cq, .slice ar lr cr, .pointer (some ⟨g, 0, none⟩), .tuple #[.slice aq lq cq, .slice ar lr cr], .pointer (some ⟨w.heap.size, 1, none⟩), .slice av lv ca, .pointer (some ⟨w.heap.size + 1, 1, none⟩), .slice bv lu cb, .tuple #[.slice aq lq cq, .slice ar lr cr], .slice aq lq cq, .slice ar lr cr, .pointer (some ⟨w.heap.size, 0, none⟩), .bool s, .pointer (some ⟨w.heap.size + 1, 0, none⟩), .bool t, .bool x, .slice aq lq cq, .agg #[.bool o, .slice aq lq cq], u24, u25, u26, u27, u28, u29, u30, u31, u32, .bool true, u 34, u 35, u 36, undef, undef, undef, undef, undef, undef, undef], defers := [] } ∧ RegInv (Below W3.heap.size W3) 3 dv4S (dv4Pr W0 o lq aq cq Q) (fun _ _ w' => BoxZ W0 g Q w') (fun i => listed.getD i false) u w') (by kernel_rfl) (ord_of (by kernel_rfl)) ?h0 ?step ?fin
      case h0 => exact ⟨fun _ => undef, rfl, RegInv.start (none_listed _) (Below.refl _ _).drew⟩
      case fin =>
        rename_i hJ hK'
        rintro listed x' w' ⟨u, rfl, F⟩ hall
        have hF := F.fin (hall 3 (by decide))
        exact hK' _ _ (Met.intro (hJ _ _ ⟨_, _, _, _, hF, rfl⟩))
      case step =>
        rintro listed x' w' i ⟨u, rfl, F⟩ hi hn hd
        have h6 : i = 0 ∨ i = 1 ∨ i = 2 ∨ i = 3 := by
          have : i < 4 := hi
          omega
        rcases h6 with rfl | rfl | rfl | rfl
        · have hI := F.inv (F.not 0 (by decide) hn)
          obtain ⟨q0, q1, -⟩ := cells_two (hG3.below hI)
          refine wpOp_by rfl rfl (fun K hK => ?_)
          go_simp
          exact hK _ _ ⟨_, by simp [upd, dv4S], F.put 0 hst (by decide) (by unfold dv4S; omega) hn (Below.refl _ _) hI rfl⟩
        · have hI := F.inv (F.not 1 (by decide) hn)
          refine wpOp_by rfl rfl (fun K hK => ?_)
          go_simp
          refine (rWhole_any (-1) (by decide) (by decide) _).mono ?_
          rintro e w1' ⟨⟨v, rfl, hv⟩, hb1⟩
          obtain ⟨a, c, rfl⟩ := hv.slice
          exact hK _ _ ⟨_, by simp [upd, dv4S], F.put 1 hst (by decide) (by unfold dv4S; omega) hn hb1 (hI.trans (hb1.mono hI.size)) ⟨a, _, c, rfl, DecIs.mono (neg_one hv) (by have := hI.size; omega)⟩⟩
        · have hI := F.inv (F.not 2 (by decide) hn)
          have e0 : u 34 = _ := F.got 0 (by decide) 2 hn (by decide) (hd _ rfl ⟨0, .data⟩ (by simp) rfl)
          obtain ⟨a1, l1, c1, e1, d1⟩ := F.got 1 (by decide) 2 hn (by decide) (hd _ rfl ⟨1, .data⟩ (by simp) rfl)
          have e1 : u 35 = _ := e1
          refine wpOp_by rfl rfl (fun K hK => ?_)
          go_simp
          refine (rPlus_any W0.heap.size W0.heap.size d 1 _ _ o true _ (HQW.out _ hI) d1 (by rw [HLQ.out]; omega) (Nat.le_trans ((lims_len_le ten_ge 1 1).2 (by decide)) (by decide))).mono ?_
          rw [HF.out]
          rintro e w1' ⟨⟨v, rfl, hv⟩, hb1⟩
          obtain ⟨a, c, rfl⟩ := hv.slice
          exact hK _ _ ⟨_, by simp [upd, dv4S, e0, e1], F.put 2 hst (by decide) (by unfold dv4S; omega) hn hb1 (hI.trans (hb1.mono hI.size)) ⟨a, _, c, rfl, DecIs.mono hv (by have := hI.size; omega)⟩⟩
        · have hI := F.inv (F.not 3 (by decide) hn)
          obtain ⟨a2, l2, c2, e2, d2⟩ := F.got 2 (by decide) 3 hn (by decide) (hd _ rfl ⟨2, .data⟩ (by simp) rfl)
          have e2 : u 36 = _ := e2
          have hRw := hG3.below hI
          obtain ⟨q0, q1, q2, q3⟩ := cells_two hRw
          have hap := d2.notNum hRw
          refine wpOp_by rfl rfl (fun K hK => ?_)
          go_simp
          refine hK _ _ ⟨u, by simp [e2], F.last hn (fun i hi => ?_) (fun _ => ⟨a2, l2, c2, hRw.put2 _ _, (d2.apart hap 0 _).apart hap 1 _, ((HB3.out.trans (hI.mono (by omega))).setCell (p := ⟨g, 0, none⟩) hz2 _).setCell (p := ⟨g, 1, none⟩) hz2 _⟩)⟩
          have : i = 0 ∨ i = 1 ∨ i = 2 := by omega
          rcases this with rfl | rfl | rfl
          · exact hd _ rfl ⟨0, .phase⟩ (by simp) rfl
          · exact hd _ rfl ⟨1, .phase⟩ (by simp) rfl
          · exact hd _ rfl ⟨2, .phase⟩ (by simp) rfl
  case rest =>
  obtain ⟨a, l, c, hG4, hQ4, hB4⟩ := hcut
  have hX4 := hX.below hB4
  have hY4 := hY.below hB4
  have hP4 := hP.below hB4
  have hR4 := hQ.below hB4
  have hA4 := Lib.hid (fun W (h : Below wc.heap.size wc W) => (hA0.kept hB4).kept h)
  have hB5 := Lib.hid (fun W (h : Below wc.heap.size wc W) => (hB0.kept hB4).kept h)
  have hQ5 := Lib.hid (fun W (h : Below wc.heap.size wc W) => hQ4.kept h)
  have hz4 := hB4.size
  have hzz : w.heap.size ≤ W0.heap.size := by omega
  have HQl := Lib.hid (show (lims 10 Q.natAbs).length ≤ 100001 from by
    have h1 : Q.natAbs ≤ m + 1 := by
      have h2 := HDK.out
      rw [HQQ.out]
      split
      · have h3 := sgI_abs x d; omega
      · have h3 := sgI_abs x d; omega
    have h4 := (lims_len_le ten_ge m lv).1 (by rw [HLV.out]; exact Nat.le_refl _)
    have h5 := (lims_len_le ten_ge Q.natAbs (lv + 1)).2 (by rw [Nat.pow_succ]; omega)
    omega)
  have HPl := Lib.hid (show (lims 10 P.natAbs).length ≤ 100001 + 100000 from by
    have h3 : P.natAbs = Q.natAbs * k := by rw [← HP0.out, Int.natAbs_mul, sgI_abs]
    rw [h3]
    exact len_mul HQl.out (show (lims 10 k).length ≤ 100000 by rw [HLU.out]; exact hlb))
  clear hX hY hP hQ x0 x1 y0 y1
  go_upto_region 5 with fail
  have hst := dv5Pr_stays W0 s t lv lu l av bv a ca cb c Q P R
  refine wp_region_inv (Inv := fun listed x' w' => ∃ u, x' = { tmps := #[.agg #[.bool s, .slice av lv ca], .agg #[.bool t, .slice bv lu cb], .pointer (some ⟨w.heap.size, 0, none⟩), .pointer (some ⟨w.heap.size + 1, 0, none⟩), .pointer (some ⟨w.heap.size + 1 + 1, 0, none⟩), .pointer (some ⟨w.heap.size + 1 + 1 + 1, 0, none⟩), .slice aq lq cq, .slice ar lr cr, .pointer (some ⟨g, 0, none⟩), .tuple #[.slice aq lq cq, .slice ar lr cr], .pointer (some ⟨w.heap.size, 1, none⟩), .slice av lv ca, .pointer (some ⟨w.heap.size + 1, 1, none⟩), .slice bv lu cb, .tuple #[.slice aq lq cq, .slice ar lr cr], .slice aq lq cq, .slice ar lr cr, .pointer (some ⟨w.heap.size, 0, none⟩), .bool s, .pointer (some ⟨w.heap.size + 1, 0, none⟩), .bool t, .bool x, .slice aq lq cq, .agg #[.bool o, .slice aq lq cq], u24, u25, u26, u27, u28, u29, u30, u31, u32, u33, u34, u35, u36, u 37, u 38, u 39, u 40, u 41, u 42, u 43], defers := [] } ∧ RegInv (Below wc.heap.size wc) 7 dv5S (dv5Pr W0 s t lv lu l av bv a ca cb c Q P R) (fun L u w' => (L 8 = false → dv5Mid w.heap.size w W0 l a c Q R u w') ∧ (L 8 = true → dv5Done w.heap.size w W0 l a c Q R w')) (fun i => listed.getD i false) u w' ∧ Cd (fun i => listed.getD i false)) (by kernel_rfl) (ord_of (by kernel_rfl)) ?h0 ?step ?fin
  case h0 => exact ⟨fun _ => undef, rfl, RegInv.start (none_listed _) (Below.refl _ _).drew, fun h => absurd ((none_listed _ _).symm.trans h) (by decide), fun h => absurd ((none_listed _ _).symm.trans h) (by decide), fun h => absurd ((none_listed _ _).symm.trans h) (by decide)⟩
  case fin =>
    rintro listed x' w' ⟨u, rfl, F, hcl⟩ hall
    obtain ⟨a6, l6, c6, d1, d2, g1, g2, hbF⟩ := (F.fin (hall 7 (by decide))).2 (hall 8 (by decide))
    obtain ⟨q0, q1, -⟩ := cells_two g1
    obtain ⟨r0, r1, -⟩ := cells_two g2
    have HD1 := Lib.hid d1
    have HD2 := Lib.hid d2
    have HBF := Lib.hid hbF
    clear F hall hcl d1 d2 hbF g1 g2
    obtain ⟨qb, hqb⟩ : ∃ qb, decide (Q < 0) = qb := ⟨_, rfl⟩
    obtain ⟨rb, hrb⟩ : ∃ rb, decide (R < 0) = rb := ⟨_, rfl⟩
    have HQB := Lib.hid hqb
    have HRB := Lib.hid hrb
    rw [hqb] at q0
    rw [hrb] at r0
    clear hqb hrb
    dsimp only
    go_wp2_with fail
    refine bodyPost_ret (v := .tuple #[.agg #[.bool qb, .slice a l c], .agg #[.bool rb, .slice a6 l6 c6]]) (by simp [results, Tryz.results26, go_sem, q0, q1, r0, r1]) rfl ⟨⟨_, _, by rw [HQB.out, HRB.out], DecIs.mono HD2.out hzz, DecIs.mono HD1.out hzz⟩, HBF.out⟩
  case step =>
    rintro listed x' w' i ⟨u, rfl, F, hcl⟩ hi hn hd
    have h6 : i = 0 ∨ i = 1 ∨ i = 2 ∨ i = 3 ∨ i = 4 ∨ i = 5 ∨ i = 6 ∨ i = 7 ∨ i = 8 := by
      have : i < 9 := hi
      omega
    rcases h6 with rfl | rfl | rfl | rfl | rfl | rfl | rfl | rfl | rfl
    · have hI := F.inv (F.not 0 (by decide) hn)
      obtain ⟨x0, x1, -⟩ := cells_two (hG4.below hI)
      refine wpOp_by rfl rfl (fun K hK => ?_)
      go_simp
      exact hK _ _ ⟨_, by simp [upd, dv5S], F.put 0 hst (by decide) (by unfold dv5S; omega) hn (Below.refl _ _) hI rfl, hcl.set 0 (fun h => absurd h (by decide)) (fun h => absurd h (by decide)) (fun h => absurd h (by decide))⟩
    · have hI := F.inv (F.not 1 (by decide) hn)
      obtain ⟨x0, x1, -⟩ := cells_two (hX4.below hI)
      refine wpOp_by rfl rfl (fun K hK => ?_)
      go_simp
      exact hK _ _ ⟨_, by simp [upd, dv5S], F.put 1 hst (by decide) (by unfold dv5S; omega) hn (Below.refl _ _) hI rfl, hcl.set 1 (fun h => absurd h (by decide)) (fun h => absurd h (by decide)) (fun h => absurd h (by decide))⟩
    · have hI := F.inv (F.not 2 (by decide) hn)
      obtain ⟨x0, x1, -⟩ := cells_two (hG4.below hI)
      refine wpOp_by rfl rfl (fun K hK => ?_)
      go_simp
      exact hK _ _ ⟨_, by simp [upd, dv5S], F.put 2 hst (by decide) (by unfold dv5S; omega) hn (Below.refl _ _) hI rfl, hcl.set 2 (fun h => absurd h (by decide)) (fun h => absurd h (by decide)) (fun h => absurd h (by decide))⟩
    · have hI := F.inv (F.not 3 (by decide) hn)
      obtain ⟨x0, x1, -⟩ := cells_two (hY4.below hI)
      refine wpOp_by rfl rfl (fun K hK => ?_)
      go_simp
      exact hK _ _ ⟨_, by simp [upd, dv5S], F.put 3 hst (by decide) (by unfold dv5S; omega) hn (Below.refl _ _) hI rfl, hcl.set 3 (fun h => absurd h (by decide)) (fun h => absurd h (by decide)) (fun h => absurd h (by decide))⟩
    · have hI := F.inv (F.not 4 (by decide) hn)
      have e2 : u 39 = _ := F.got 2 (by decide) 4 hn (by decide) (hd _ rfl ⟨2, .data⟩ (by simp) rfl)
      have e3 : u 40 = _ := F.got 3 (by decide) 4 hn (by decide) (hd _ rfl ⟨3, .data⟩ (by simp) rfl)
      refine wpOp_by rfl rfl (fun K hK => ?_)
      go_simp
      refine (rTimes_any W0.heap.size B2 Q.natAbs k _ _ (decide (Q < 0)) t _ (hQ5.out _ hI) (hB5.out _ hI) (Nat.le_trans HQl.out (by decide)) (by rw [HLU.out]; omega)).mono ?_
      rw [sgI_self, HP0.out]
      rintro e w1' ⟨⟨v, rfl, hv⟩, hb1⟩
      obtain ⟨a', c', rfl⟩ := hv.slice
      exact hK _ _ ⟨_, by simp [upd, dv5S, e2, e3], F.put 4 hst (by decide) (by unfold dv5S; omega) hn hb1 (hI.trans (hb1.mono hI.size)) ⟨a', c', rfl, DecIs.mono hv (Nat.le_trans hz4 hI.size)⟩, hcl.set 4 (fun _ => ⟨hd _ rfl ⟨2, .data⟩ (by simp) rfl, hd _ rfl ⟨3, .data⟩ (by simp) rfl⟩) (fun h => absurd h (by decide)) (fun h => absurd h (by decide))⟩
    · have hI := F.inv (F.not 5 (by decide) hn)
      obtain ⟨a4, c4, e4, d4⟩ := F.got 4 (by decide) 5 hn (by decide) (hd _ rfl ⟨4, .data⟩ (by simp) rfl)
      have e4 : u 41 = _ := e4
      refine wpOp_by rfl rfl (fun K hK => ?_)
      go_simp
      refine (rOpp_any P.natAbs c4 a4 (decide (P < 0)) _).mono ?_
      rintro e w1' ⟨rfl, hb1⟩
      exact hK _ _ ⟨_, by simp [upd, dv5S, e4], F.put 5 hst (by decide) (by unfold dv5S; omega) hn hb1 (hI.trans (hb1.mono hI.size)) ⟨a4, c4, rfl, d4.kept hb1⟩, hcl.set 5 (fun h => absurd h (by decide)) (fun _ => hd _ rfl ⟨4, .data⟩ (by simp) rfl) (fun h => absurd h (by decide))⟩
    · have hI := F.inv (F.not 6 (by decide) hn)
      have e1 : u 38 = _ := F.got 1 (by decide) 6 hn (by decide) (hd _ rfl ⟨1, .data⟩ (by simp) rfl)
      obtain ⟨a5, c5, e5, d5⟩ := F.got 5 (by decide) 6 hn (by decide) (hd _ rfl ⟨5, .data⟩ (by simp) rfl)
      have e5 : u 42 = _ := e5
      obtain ⟨bb, hbb⟩ : ∃ bb, (!decide (P < 0) && decide (0 < P.natAbs)) = bb := ⟨_, rfl⟩
      have HPL6 := Lib.hid (fun v5 (h5 : DecIs w' W0.heap.size v5 P.natAbs) => show Calls Tryz.prog 47 #[.agg #[.bool s, .slice av lv ca], .agg #[.bool bb, v5]] w' fun e w2 => ZIs w'.heap.size R w2 e ∧ Below w'.heap.size w' w2 from by
        have h := rPlus_any B1 W0.heap.size m P.natAbs _ _ s (!decide (P < 0) && decide (0 < P.natAbs)) w' (hA4.out _ hI) h5 (by rw [HLV.out]; omega) (Nat.le_trans HPl.out (by decide))
        rw [opp_z, sgI_self, ← Int.sub_eq_add_neg, HR0.out, hbb] at h
        exact h)
      rw [hbb] at e5
      clear hbb
      obtain ⟨l5, hl5⟩ : ∃ l5, (lims 10 P.natAbs).length = l5 := ⟨_, rfl⟩
      rw [hl5] at e5 d5
      have D5 := Lib.hid d5
      clear hl5 d5
      refine wpOp_by rfl rfl (fun K hK => ?_)
      go_simp
      refine (HPL6.out _ D5.out).mono ?_
      rintro e w1' ⟨⟨v, rfl, hv⟩, hb1⟩
      obtain ⟨a', c', rfl⟩ := hv.slice
      exact hK _ _ ⟨_, by simp [upd, dv5S, e1, e5], F.put 6 hst (by decide) (by unfold dv5S; omega) hn hb1 (hI.trans (hb1.mono hI.size)) ⟨a', _, c', rfl, DecIs.mono hv (Nat.le_trans hz4 hI.size)⟩, hcl.set 6 (fun h => absurd h (by decide)) (fun h => absurd h (by decide)) (fun _ => ⟨hd _ rfl ⟨1, .data⟩ (by simp) rfl, hd _ rfl ⟨5, .data⟩ (by simp) rfl⟩)⟩
    · have hI := F.inv (F.not 7 (by decide) hn)
      have e0 : u 37 = _ := F.got 0 (by decide) 7 hn (by decide) (hd _ rfl ⟨0, .data⟩ (by simp) rfl)
      have h6 := hd _ rfl ⟨6, .chain⟩ (by simp) rfl
      obtain ⟨a6, l6, c6, e6, d6⟩ := F.got 6 (by decide) 7 hn (by decide) h6
      have e6 : u 43 = _ := e6
      have hPw := hP4.below hI
      have hRw := hR4.below hI
      have hq := hQ5.out _ hI
      have hap := hq.notNum hPw
      have hap6 := d6.notNum hPw
      obtain ⟨q0, q1, q2, q3⟩ := cells_two hPw
      refine wpOp_by rfl rfl (fun K hK => ?_)
      go_simp
      refine hK _ _ ⟨u, by simp [e0, e6], F.last hn (fun i hi => ?_) (fun hno => ⟨fun _ => ⟨a6, l6, c6, e6, (d6.apart hap6 0 _).apart hap6 1 _, (hq.apart hap 0 _).apart hap 1 _, hPw.put2 _ _, hRw.far2 (by omega) _ _, (((hBB.trans (hB4.mono hzz)).trans (hI.mono (Nat.le_trans hzz hz4))).setCell (p := ⟨w.heap.size + 2, 0, none⟩) (show w.heap.size ≤ w.heap.size + 2 by omega) _).setCell (p := ⟨w.heap.size + 2, 1, none⟩) (show w.heap.size ≤ w.heap.size + 2 by omega) _⟩, fun h => absurd ((hno 8 (by decide)).symm.trans h) (by decide)⟩), hcl.set 7 (fun h => absurd h (by decide)) (fun h => absurd h (by decide)) (fun h => absurd h (by decide))⟩
      have : i = 0 ∨ i = 1 ∨ i = 2 ∨ i = 3 ∨ i = 4 ∨ i = 5 ∨ i = 6 := by omega
      rcases this with rfl | rfl | rfl | rfl | rfl | rfl | rfl
      · exact hd _ rfl ⟨0, .data⟩ (by simp) rfl
      · exact (hcl.2.2 h6).1
      · exact (hcl.1 (hcl.2.1 (hcl.2.2 h6).2)).1
      · exact (hcl.1 (hcl.2.1 (hcl.2.2 h6).2)).2
      · exact hcl.2.1 (hcl.2.2 h6).2
      · exact (hcl.2.2 h6).2
      · exact h6
    · have h7 := hd _ rfl ⟨7, .phase⟩ (by simp) rfl
      obtain ⟨a6, l6, c6, e6, d6, hq, hPw, hRw, hbw⟩ := (F.fin h7).1 (false_of hn)
      have hap := hq.notNum hRw
      have hap6 := d6.notNum hRw
      obtain ⟨q0, q1, q2, q3⟩ := cells_two hRw
      have hlt : 8 < listed.size := by
        rcases Nat.lt_or_ge 8 listed.size with h | h
        · exact h
        · simp [Array.getD, Nat.not_lt.2 h] at hn
      have hyes : (listed.setIfInBounds 8 true).getD 8 false = true := by simp [Array.getD_eq_getD_getElem?, hlt]
      refine wpOp_by rfl rfl (fun K hK => ?_)
      go_simp
      exact hK _ _ ⟨u, by simp [e6], F.post 8 (by decide) h7 ⟨fun h => absurd (hyes.symm.trans h) (by decide), fun _ => ⟨a6, l6, c6, (d6.apart hap6 0 _).apart hap6 1 _, (hq.apart hap 0 _).apart hap 1 _, hPw.far2 (by omega) _ _, hRw.put2 _ _, (hbw.setCell (p := ⟨w.heap.size + 3, 0, none⟩) (show w.heap.size ≤ w.heap.size + 3 by omega) _).setCell (p := ⟨w.heap.size + 3, 1, none⟩) (show w.heap.size ≤ w.heap.size + 3 by omega) _⟩⟩, hcl.set 8 (fun h => absurd h (by decide)) (fun h => absurd h (by decide)) (fun h => absurd h (by decide))⟩
end Go.Proofs.YtmnibfdenmeepaaGreatDoor
/- two of the reference: a power of two. -/
namespace Go.Proofs.YtmnibfdenmeepaaGreatDoor
open Go.RowKit Go.Shelf Big

theorem pow_len (i : Nat) (h : i ≤ 4000) : (lims 10 (2 ^ i)).length ≤ 100000000 :=
  Nat.le_trans ((lims_len_le ten_ge (2 ^ i) (i + 1)).2 (Nat.lt_of_le_of_lt (Nat.pow_le_pow_left (by decide) i) (Nat.pow_lt_pow_right (by decide) (Nat.lt_succ_self i)))) (by omega)
set_option maxRecDepth 100000 in
set_option maxHeartbeats 4000000 in
theorem rTwo_any (n : Nat) (hn : n ≤ 4000) (w : World) :
    Calls Tryz.prog 25 #[.int .i64 (n : Int)] w fun e w' => (∃ v, e = .returned (.agg #[.bool false, v]) ∧ DecIs w' w.heap.size v (2 ^ n)) ∧ Below w.heap.size w w' := by
  go_enter Tryz.func25, Tryz.ntmps25
  go_wp2_with fail
  refine (rWhole_any 1 (by decide) (by decide) _).mono ?_
  rintro e w1 ⟨⟨v, rfl, hv⟩, hb1⟩
  rw [show decide ((1 : Int) < 0) = false from rfl]
  have hv1 : DecIs w1 (w.alloc (.cells #[.bool false, .slice none 0 0] 45)).heap.size v 1 := hv
  have hW : (w.alloc (.cells #[.bool false, .slice none 0 0] 45)).heap.size = w.heap.size + 1 := by simp
  have hX1 := (Has.new w 45 #[.bool false, .slice none 0 0]).below hb1
  have hB1 := Below.behind ((Below.refl _ w).alloc (Nat.le_refl _) (.cells #[.bool false, .slice none 0 0] 45)) hb1
  have hz1 := hb1.size
  rw [hW] at hz1 hv1
  clear hv hb1 hW
  obtain ⟨a, c, rfl⟩ := hv1.slice
  generalize hl : (lims 10 1).length = l at hv1 ⊢
  obtain ⟨W1, hW1⟩ : ∃ W1, w1.alloc (.cells #[.bool false, .slice a l c] 45) = W1 := ⟨_, rfl⟩
  have hG : Has W1 w1.heap.size 45 #[.bool false, .slice a l c] := by rw [← hW1]; exact Has.new _ _ _
  have hX : Has W1 w.heap.size 45 #[.bool false, .slice none 0 0] := by rw [← hW1]; exact hX1.alloc _
  have hB : Below w.heap.size w W1 := by rw [← hW1]; exact hB1.alloc (by omega) _
  have hD : DecIs W1 w.heap.size (.slice a l c) 1 := by rw [← hW1]; exact DecIs.mono (hv1.alloc _) (by omega)
  clear hv1 hX1 hB1 hl
  go_upto_region 2 with fail
  clear hW1
  generalize w1.heap.size = g at *
  go_wp2
  go_loopg [6] n (fun gh v6 wx => ∃ (i : Nat) (a : Option Addr) (l c : Nat), v6 = .int .i64 (i : Int) ∧ i + gh = n ∧ Has wx g 45 #[.bool false, .slice a l c] ∧ DecIs wx w.heap.size (.slice a l c) (2 ^ i) ∧ Has wx w.heap.size 45 #[.bool false, .slice none 0 0] ∧ Below w.heap.size w wx)
  case atStart => exact ⟨0, a, l, c, rfl, by omega, hG, hD, hX, hB⟩
  case round =>
    obtain ⟨i, a, l, c, rfl, hi, hG, hD, hX, hB⟩ := hrel
    obtain ⟨q0, q1, q2, q3⟩ := cells_two hG
    obtain ⟨x0, x1, x2, x3⟩ := cells_two hX
    have HP := Lib.hid (pow_len i (by omega))
    cases gk with
    | zero =>
      obtain rfl : i = n := by omega
      have hap := hD.notNum hX
      have HF := Lib.hid ((hD.apart hap 0 (.bool false)).apart hap 1 (.slice a l c))
      have HB := Lib.hid (Below.two hB (Nat.le_refl _) (.bool false) (.slice a l c))
      clear hD hB hG hX
      go_wp2_with fail
      exact bodyPost_ret (v := .agg #[.bool false, .slice a l c]) (by simp [results, Tryz.results25, go_sem, World.cell?_setCell_same', x0, x1]) rfl ⟨⟨_, rfl, HF.out⟩, HB.out⟩
    | succ gh =>
      have hiI : (i : Int) < (n : Int) := by omega
      have HPl := Lib.hid (fun W (h : DecIs W w.heap.size (.slice a l c) (2 ^ i)) => rPlus_any w.heap.size w.heap.size (2 ^ i) (2 ^ i) _ _ false false W h h HP.out HP.out)
      have HD := Lib.hid hD
      have HG := Lib.hid hG
      have HX := Lib.hid hX
      have HB := Lib.hid hB
      have hz := hB.size
      have HS := Lib.hid (show sgI false (2 ^ i) + sgI false (2 ^ i) = ((2 ^ (i + 1) : Nat) : Int) by
        unfold sgI
        rw [Nat.pow_succ]
        generalize 2 ^ i = x
        simp
        omega)
      clear hD hG hX hB
      go_wp2_with fail
      refine (HPl.out _ HD.out).mono ?_
      rw [HS.out]
      rintro e w2 ⟨⟨v, rfl, hv⟩, hb2⟩
      rw [show decide (((2 ^ (i + 1) : Nat) : Int) < 0) = false from decide_eq_false (Int.not_lt.2 (Int.natCast_nonneg _))]
      have hv2 : DecIs w2 wr.heap.size v (2 ^ (i + 1)) := hv
      obtain ⟨a', c', rfl⟩ := hv2.slice
      have hG2 := HG.out.below hb2
      have hX2 := HX.out.below hb2
      have hap := hv2.notNum hG2
      obtain ⟨r0, r1, r2, r3⟩ := cells_two hG2
      have HF := Lib.hid (DecIs.mono ((hv2.apart hap 0 (.bool false)).apart hap 1 (.slice a' (lims 10 (2 ^ (i + 1))).length c')) (show w.heap.size ≤ wr.heap.size by omega))
      have HB2 := Lib.hid ((HB.out).trans (hb2.mono hz))
      have HG2 := Lib.hid hG2
      have HX2 := Lib.hid hX2
      clear hv hv2 hb2 hG2 hX2 hap
      generalize (lims 10 (2 ^ (i + 1))).length = l' at HF ⊢
      go_wp2_with fail
      go_roundg gh
      case measure => omega
      case rel => exact ⟨i + 1, a', l', c', by go_num, by omega, HG2.out.put2 _ _, HF.out, HX2.out.far2 (by omega) _ _, Below.two HB2.out (by omega) _ _⟩
end Go.Proofs.YtmnibfdenmeepaaGreatDoor
/- The reference's quotient by a number above 0 is the floor. -/
namespace Go.Proofs.YtmnibfdenmeepaaGreatDoor
open Go.RowKit Go.Shelf Big

theorem floor_of {a q r k : Int} (hk : 0 < k) (h : a = k * q + r) (h0 : 0 ≤ r) (h1 : r < k) : a / k = q := by
  rw [h, Int.mul_add_ediv_left _ _ (by omega), Int.ediv_eq_zero_of_lt h0 h1, Int.add_zero]
theorem divQ_is (s : Bool) (m k : Nat) (hk : 0 < k) : divQ s false m k = sgI s m / (k : Int) := by
  have h1 := Nat.div_add_mod m k
  have h2 := Nat.mod_lt m hk
  unfold divQ
  generalize hq : m / k = q at *
  generalize hr : m % k = r at *
  have hm : (m : Int) = (k : Int) * (q : Int) + (r : Int) := by rw [← h1]; simp
  cases s with
  | false =>
    rw [if_neg (by simp)]
    show (q : Int) = (m : Int) / (k : Int)
    exact (floor_of (by omega) hm (by omega) (by omega)).symm
  | true =>
    by_cases h0 : 0 < r
    · rw [if_pos ⟨rfl, h0⟩]
      show -(q : Int) + -1 = -(m : Int) / (k : Int)
      exact (floor_of (r := (k : Int) - (r : Int)) (by omega) (by rw [hm, Int.mul_add, Int.mul_neg]; omega) (by omega) (by omega)).symm
    · rw [if_neg (fun h => h0 h.2)]
      show -(q : Int) = -(m : Int) / (k : Int)
      exact (floor_of (r := 0) (by omega) (by rw [hm, Int.mul_neg]; omega) (by omega) (by omega)).symm
/-- What is left lies from 0 up to the divisor. -/
theorem divQ_rest (s : Bool) (m k : Nat) (hk : 0 < k) : sgI s m - divQ s false m k * sgI false k = sgI s m % (k : Int) := by
  rw [divQ_is s m k hk]
  show sgI s m - sgI s m / (k : Int) * (k : Int) = _
  have h := Int.mul_ediv_add_emod (sgI s m) (k : Int)
  rw [Int.mul_comm] at h
  omega
end Go.Proofs.YtmnibfdenmeepaaGreatDoor
/- Two's complement bit by bit: plain mathematics. -/
namespace Go.Proofs.YtmnibfdenmeepaaGreatDoor
open Go.RowKit Go.Shelf Big

/-- So many bits of a number, the lowest first. -/
def bitsZ : Int → Nat → List Bool
  | _, 0 => []
  | z, n + 1 => decide (z % 2 ≠ 0) :: bitsZ (z / 2) n
def oneB (b : Bool) : Int := if b then 1 else 0
/-- The number of some bits; s stands for all higher ones. -/
def ofB (s : Bool) : List Bool → Int
  | [] => if s then -1 else 0
  | b :: l => 2 * ofB s l + oneB b
def bitB (G : Bool → Bool → Bool) : Nat → Int → Int → Int
  | 0, x, y => if G (decide (x < 0)) (decide (y < 0)) then -1 else 0
  | n + 1, x, y => 2 * bitB G n (x / 2) (y / 2) + oneB (G (decide (x % 2 ≠ 0)) (decide (y % 2 ≠ 0)))
def bitN (G : Bool → Bool → Bool) : Nat → Nat → Nat → Nat
  | 0, _, _ => 0
  | n + 1, x, y => 2 * bitN G n (x / 2) (y / 2) + (if G (decide (x % 2 ≠ 0)) (decide (y % 2 ≠ 0)) then 1 else 0)
def fitsB (n : Nat) (z : Int) : Prop := -((2 ^ n : Nat) : Int) ≤ z ∧ z < ((2 ^ n : Nat) : Int)
theorem half_sign (z : Int) : decide (z / 2 < 0) = decide (z < 0) := by
  by_cases h : z < 0
  · rw [decide_eq_true h, decide_eq_true (by omega)]
  · rw [decide_eq_false h, decide_eq_false (by omega)]
theorem fits_half {n : Nat} {z : Int} (h : fitsB (n + 1) z) : fitsB n (z / 2) := by
  unfold fitsB at *
  rw [Nat.pow_succ] at h
  generalize 2 ^ n = P at *
  omega
theorem bitsZ_len (n : Nat) : ∀ z, (bitsZ z n).length = n := by
  induction n with
  | zero => intro z; rfl
  | succ n ih => intro z; show (bitsZ (z / 2) n).length + 1 = n + 1; rw [ih]
theorem fits_zero {z : Int} (h : fitsB 0 z) : z = 0 ∨ z = -1 := by
  unfold fitsB at h
  simp at h
  omega
theorem bitsZ_last (n : Nat) : ∀ z, fitsB n z → (bitsZ z (n + 1)).getLast? = some (decide (z < 0)) := by
  induction n with
  | zero =>
    intro z h
    rcases fits_zero h with rfl | rfl <;> decide
  | succ n ih =>
    intro z h
    have h1 := ih (z / 2) (fits_half h)
    rw [half_sign] at h1
    show (decide (z % 2 ≠ 0) :: bitsZ (z / 2) (n + 1)).getLast? = _
    rw [List.getLast?_cons, h1]
    rfl
theorem ofB_bits (G : Bool → Bool → Bool) (n : Nat) : ∀ x y, ofB (G (decide (x < 0)) (decide (y < 0))) (List.zipWith G (bitsZ x n) (bitsZ y n)) = bitB G n x y := by
  induction n with
  | zero => intro x y; rfl
  | succ n ih =>
    intro x y
    have h := ih (x / 2) (y / 2)
    rw [half_sign, half_sign] at h
    show 2 * ofB _ (List.zipWith G (bitsZ (x / 2) n) (bitsZ (y / 2) n)) + oneB _ = _
    rw [h]
    rfl
theorem bitB_more (G : Bool → Bool → Bool) (n : Nat) : ∀ x y, fitsB n x → fitsB n y → bitB G (n + 1) x y = bitB G n x y := by
  induction n with
  | zero =>
    intro x y hx hy
    rcases fits_zero hx with rfl | rfl <;> rcases fits_zero hy with rfl | rfl <;> (unfold bitB bitB oneB; simp only [Int.reduceDiv, Int.reduceMod, Int.reduceNeg, Int.reduceLT, ne_eq, not_true_eq_false, decide_false, decide_true]; try simp) <;> (split <;> simp_all)
  | succ n ih =>
    intro x y hx hy
    show 2 * bitB G (n + 1) (x / 2) (y / 2) + _ = 2 * bitB G n (x / 2) (y / 2) + _
    rw [ih _ _ (fits_half hx) (fits_half hy)]
theorem fits_up {n m : Nat} {z : Int} (h : fitsB n z) (hm : n ≤ m) : fitsB m z := by
  unfold fitsB at *
  have := Nat.pow_le_pow_right (n := 2) (by decide) hm
  generalize 2 ^ n = P at *
  generalize 2 ^ m = Q at *
  omega
theorem bitB_far (G : Bool → Bool → Bool) (n k : Nat) (x y : Int) (hx : fitsB n x) (hy : fitsB n y) : bitB G (n + k) x y = bitB G n x y := by
  induction k with
  | zero => rfl
  | succ k ih => rw [← Nat.add_assoc, bitB_more G (n + k) x y (fits_up hx (by omega)) (fits_up hy (by omega)), ih]
theorem bitB_same (G : Bool → Bool → Bool) (n m : Nat) (x y : Int) (hx : fitsB n x) (hy : fitsB n y) (gx : fitsB m x) (gy : fitsB m y) : bitB G n x y = bitB G m x y := by
  rw [← bitB_far G n m x y hx hy, ← bitB_far G m n x y gx gy, Nat.add_comm]
/-- A number's bits up to a power of two. -/
def lowB (n : Nat) (z : Int) : Nat := (z % ((2 ^ n : Nat) : Int)).toNat
theorem lowB_half (n : Nat) (z : Int) : lowB (n + 1) z / 2 = lowB n (z / 2) ∧ decide (lowB (n + 1) z % 2 ≠ 0) = decide (z % 2 ≠ 0) := by
  unfold lowB
  have hp : 0 < 2 ^ n := Nat.pos_of_ne_zero (by simp)
  rw [Nat.pow_succ]
  generalize 2 ^ n = P at *
  have e1 : z % ((P * 2 : Nat) : Int) = 2 * (z / 2 % (P : Int)) + z % 2 := by
    have h1 := Int.mul_ediv_add_emod z 2
    have h2 := Int.mul_ediv_add_emod (z / 2) (P : Int)
    have h3 := Int.emod_nonneg (z / 2) (b := (P : Int)) (by omega)
    have h4 := Int.emod_lt_of_pos (z / 2) (b := (P : Int)) (by omega)
    have h5 : z = (2 * (z / 2 % (P : Int)) + z % 2) + ((P * 2 : Nat) : Int) * (z / 2 / (P : Int)) := by
      have : ((P * 2 : Nat) : Int) = 2 * (P : Int) := by omega
      rw [this, Int.mul_assoc]
      generalize (P : Int) * (z / 2 / (P : Int)) = t at *
      omega
    have h6 : z % ((P * 2 : Nat) : Int) = (2 * (z / 2 % (P : Int)) + z % 2) % ((P * 2 : Nat) : Int) := by
      conv => lhs; rw [h5]
      rw [Int.add_mul_emod_self_left]
    rw [h6, Int.emod_eq_of_lt (by omega) (by omega)]
  rw [e1]
  have h3 := Int.emod_nonneg (z / 2) (b := (P : Int)) (by omega)
  generalize z / 2 % (P : Int) = t at *
  constructor
  · omega
  · congr 1
    apply propext
    omega
theorem bitB_nat (G : Bool → Bool → Bool) (n : Nat) : ∀ x y, bitB G n x y = (bitN G n (lowB n x) (lowB n y) : Int) - (if G (decide (x < 0)) (decide (y < 0)) then ((2 ^ n : Nat) : Int) else 0) := by
  induction n with
  | zero =>
    intro x y
    show (if _ then _ else _) = _
    cases G (decide (x < 0)) (decide (y < 0)) <;> rfl
  | succ n ih =>
    intro x y
    obtain ⟨a1, a2⟩ := lowB_half n x
    obtain ⟨b1, b2⟩ := lowB_half n y
    show 2 * bitB G n (x / 2) (y / 2) + oneB _ = ((2 * bitN G n (lowB (n + 1) x / 2) (lowB (n + 1) y / 2) + (if G (decide (lowB (n + 1) x % 2 ≠ 0)) (decide (lowB (n + 1) y % 2 ≠ 0)) then 1 else 0) : Nat) : Int) - _
    rw [a1, a2, b1, b2, ih, half_sign, half_sign, Nat.pow_succ]
    generalize bitN G n (lowB n (x / 2)) (lowB n (y / 2)) = t
    unfold oneB
    generalize 2 ^ n = P
    cases G (decide (x % 2 ≠ 0)) (decide (y % 2 ≠ 0)) <;> cases G (decide (x < 0)) (decide (y < 0)) <;> simp <;> omega
theorem bitN_add (G : Bool → Bool → Bool) (k n : Nat) : ∀ x y a b, x < 2 ^ k → y < 2 ^ k → bitN G (k + n) (x + 2 ^ k * a) (y + 2 ^ k * b) = bitN G k x y + 2 ^ k * bitN G n a b := by
  induction k with
  | zero =>
    intro x y a b hx hy
    have e1 : x = 0 := by simpa using hx
    have e2 : y = 0 := by simpa using hy
    subst e1 e2
    simp [bitN]
  | succ k ih =>
    intro x y a b hx hy
    rw [Nat.pow_succ] at hx hy
    have h := ih (x / 2) (y / 2) a b (by omega) (by omega)
    rw [Nat.succ_add, Nat.pow_succ]
    show 2 * bitN G (k + n) ((x + 2 ^ k * 2 * a) / 2) ((y + 2 ^ k * 2 * b) / 2) + _ = 2 * bitN G k (x / 2) (y / 2) + _ + _
    have e1 : ∀ u v, (u + 2 ^ k * 2 * v) / 2 = u / 2 + 2 ^ k * v ∧ (u + 2 ^ k * 2 * v) % 2 = u % 2 := by
      intro u v
      rw [Nat.mul_right_comm]
      generalize 2 ^ k * v = t
      omega
    rw [(e1 x a).1, (e1 y b).1, (e1 x a).2, (e1 y b).2, h, Nat.mul_add]
    rw [Nat.mul_right_comm, ← Nat.mul_comm 2 (2 ^ k * bitN G n a b)]
    omega
theorem bitN_zero {G : Bool → Bool → Bool} (h : G false false = false) (n : Nat) : bitN G n 0 0 = 0 := by
  induction n with
  | zero => rfl
  | succ n ih => show 2 * bitN G n 0 0 + _ = 0; rw [ih]; simp [h]
theorem bitN_op {G : Bool → Bool → Bool} {g : Nat → Nat → Nat} (h0 : g 0 0 = 0) (hs : ∀ x y, g x y = 2 * g (x / 2) (y / 2) + (if G (decide (x % 2 ≠ 0)) (decide (y % 2 ≠ 0)) then 1 else 0)) (n : Nat) : ∀ x y, x < 2 ^ n → y < 2 ^ n → bitN G n x y = g x y := by
  induction n with
  | zero =>
    intro x y hx hy
    have e1 : x = 0 := by simpa using hx
    have e2 : y = 0 := by simpa using hy
    subst e1 e2
    exact h0.symm
  | succ n ih =>
    intro x y hx hy
    rw [Nat.pow_succ] at hx hy
    show 2 * bitN G n (x / 2) (y / 2) + _ = _
    rw [ih _ _ (by omega) (by omega)]
    exact (hs x y).symm
theorem and_step (x y : Nat) : x &&& y = 2 * (x / 2 &&& y / 2) + (if (decide (x % 2 ≠ 0) && decide (y % 2 ≠ 0)) = true then 1 else 0) := by
  have a1 := Nat.and_div_two_pow (a := x) (b := y) (n := 1)
  have a2 := Nat.and_mod_two_pow (a := x) (b := y) (n := 1)
  rw [Nat.pow_one] at a1 a2
  have d1 := Nat.div_add_mod (x &&& y) 2
  rw [← a1]
  clear a1
  generalize x &&& y = t at *
  rcases Nat.mod_two_eq_zero_or_one x with e | e <;> rcases Nat.mod_two_eq_zero_or_one y with f | f <;> rw [e, f] at a2 ⊢ <;> simp at a2 ⊢ <;> omega
theorem or_step (x y : Nat) : x ||| y = 2 * (x / 2 ||| y / 2) + (if (decide (x % 2 ≠ 0) || decide (y % 2 ≠ 0)) = true then 1 else 0) := by
  have a1 := Nat.or_div_two_pow (a := x) (b := y) (n := 1)
  have a2 := Nat.or_mod_two_pow (a := x) (b := y) (n := 1)
  rw [Nat.pow_one] at a1 a2
  have d1 := Nat.div_add_mod (x ||| y) 2
  rw [← a1]
  clear a1
  generalize x ||| y = t at *
  rcases Nat.mod_two_eq_zero_or_one x with e | e <;> rcases Nat.mod_two_eq_zero_or_one y with f | f <;> rw [e, f] at a2 ⊢ <;> simp at a2 ⊢ <;> omega
theorem xor_step (x y : Nat) : x ^^^ y = 2 * (x / 2 ^^^ y / 2) + (if (decide (x % 2 ≠ 0) ^^ decide (y % 2 ≠ 0)) = true then 1 else 0) := by
  have a1 := Nat.xor_div_two_pow (a := x) (b := y) (n := 1)
  have a2 := Nat.xor_mod_two_pow (a := x) (b := y) (n := 1)
  rw [Nat.pow_one] at a1 a2
  have d1 := Nat.div_add_mod (x ^^^ y) 2
  rw [← a1]
  clear a1
  generalize x ^^^ y = t at *
  rcases Nat.mod_two_eq_zero_or_one x with e | e <;> rcases Nat.mod_two_eq_zero_or_one y with f | f <;> rw [e, f] at a2 ⊢ <;> simp at a2 ⊢ <;> omega
theorem two32 (n : Nat) : 4294967296 ^ n = 2 ^ (32 * n) := by rw [Nat.pow_mul]
theorem top_tw {z : Int} {n : Nat} (h : (lims 4294967296 z.natAbs).length < n) : top (tw z n) = decide (z < 0) := by
  have h1 := tw_val h
  have h2 := Big.ev_lt (tw_small z n)
  unfold val at h1
  cases ht : top (tw z n) with
  | true =>
    rw [ht, if_pos rfl] at h1
    rw [eq_comm, decide_eq_true_eq]
    generalize 4294967296 ^ (tw z n).length = P at *
    omega
  | false =>
    rw [ht, if_neg (by decide)] at h1
    rw [eq_comm, decide_eq_false_iff_not]
    omega
theorem ev_tw {z : Int} {n : Nat} (h : (lims 4294967296 z.natAbs).length < n) : ev 4294967296 (tw z n) = lowB (32 * n) z := by
  have h1 := tw_val h
  have h2 := Big.ev_lt (tw_small z n)
  have h3 := tw_len h
  rw [h3, two32] at h2
  unfold lowB
  unfold val at h1
  rw [h3, two32] at h1
  generalize 2 ^ (32 * n) = P at *
  generalize ev 4294967296 (tw z n) = e at *
  cases ht : top (tw z n) with
  | true =>
    rw [ht, if_pos rfl] at h1
    have : z % (P : Int) = (e : Int) := by
      have h4 : z = (e : Int) + (P : Int) * (-1) := by omega
      rw [h4, Int.add_mul_emod_self_left, Int.emod_eq_of_lt (by omega) (by omega)]
    rw [this]; rfl
  | false =>
    rw [ht, if_neg (by decide)] at h1
    rw [← h1, Int.emod_eq_of_lt (by omega) (by omega)]; rfl
theorem ev_bitN (G : Bool → Bool → Bool) {g : Nat → Nat → Nat} (hg : ∀ x y, x < 2 ^ 32 → y < 2 ^ 32 → bitN G 32 x y = g x y) :
    ∀ {a b : List Nat}, a.length = b.length → Small a → Small b → ev 4294967296 (zw g a b) = bitN G (32 * a.length) (ev 4294967296 a) (ev 4294967296 b) := by
  intro a
  induction a with
  | nil => intro b hl _ _; obtain rfl : b = [] := List.eq_nil_of_length_eq_zero hl.symm; rfl
  | cons x a ih =>
    intro b hl ha hb
    cases b with
    | nil => cases hl
    | cons y b =>
      have hx : x < 2 ^ 32 := ha x (List.mem_cons_self ..)
      have hy : y < 2 ^ 32 := hb y (List.mem_cons_self ..)
      have h1 := ih (b := b) (by simpa using hl) (fun d hd => ha d (List.mem_cons_of_mem _ hd)) (fun d hd => hb d (List.mem_cons_of_mem _ hd))
      have h2 := bitN_add G 32 (32 * a.length) x y (ev 4294967296 a) (ev 4294967296 b) hx hy
      rw [hg x y hx hy, show (2 : Nat) ^ 32 = 4294967296 from rfl, ← h1] at h2
      show ev 4294967296 (g x y :: zw g a b) = _
      rw [Big.ev_cons, Big.ev_cons, Big.ev_cons, List.length_cons, Nat.mul_succ, Nat.add_comm (32 * a.length) 32, h2]
theorem fits_words {z : Int} {n : Nat} (h : (lims 4294967296 z.natAbs).length < n) : fitsB (32 * n) z := by
  have h1 := (Big.lims_len_le w32_ge z.natAbs n).1 (by omega)
  rw [two32] at h1
  unfold fitsB
  generalize 2 ^ (32 * n) = P at *
  omega
theorem sixteen (L : Nat) : 10 ^ L ≤ 2 ^ (4 * L) := by
  rw [Nat.pow_mul]
  exact Nat.pow_le_pow_left (by decide) L
theorem fits_dec {z : Int} {L : Nat} (h : (lims 10 z.natAbs).length ≤ L) : fitsB (4 * L + 1) z := by
  have h1 := (Big.lims_len_le (by decide) z.natAbs L).1 h
  have h2 := sixteen L
  have h3 : 2 ^ (4 * L + 1) = 2 ^ (4 * L) * 2 := Nat.pow_succ ..
  unfold fitsB
  rw [h3]
  generalize 2 ^ (4 * L) = P at *
  omega
theorem bitZ_is (G : Bool → Bool → Bool) {g : Nat → Nat → Nat} (hb : ∀ x y, x < 2 ^ 32 → y < 2 ^ 32 → bitN G 32 x y = g x y) (hg : ∀ x y, x < 4294967296 → y < 4294967296 → hi (g x y) = G (hi x) (hi y)) {n : Nat} {x y : Int} (hx : (lims 4294967296 x.natAbs).length < n) (hy : (lims 4294967296 y.natAbs).length < n) :
    bitZ g n x y = bitB G (32 * n) x y := by
  have lx := tw_len hx
  have ly := tw_len hy
  have sx := tw_small x n
  have sy := tw_small y n
  have hl : (tw x n).length = (tw y n).length := by omega
  have hT := zw_top hg hl (by omega) sx sy
  rw [top_tw hx, top_tw hy] at hT
  rw [bitB_nat]
  unfold bitZ val
  rw [hT, zw_len g hl, lx, ev_bitN G hb hl sx sy, lx, ev_tw hx, ev_tw hy, two32]
  generalize 2 ^ (32 * n) = P
  cases G (decide (x < 0)) (decide (y < 0)) <;> simp
/-- What the reference puts together bit by bit is the operation on words. -/
theorem bitF_is (G : Bool → Bool → Bool) {g : Nat → Nat → Nat} (hb : ∀ x y, x < 2 ^ 32 → y < 2 ^ 32 → bitN G 32 x y = g x y) (hg : ∀ x y, x < 4294967296 → y < 4294967296 → hi (g x y) = G (hi x) (hi y)) {x y : Int} {L : Nat} (hx : (lims 10 x.natAbs).length ≤ L) (hy : (lims 10 y.natAbs).length ≤ L) :
    bitF g x y = bitB G (4 * L + 2) x y := by
  unfold bitF
  have h1 : (lims 4294967296 x.natAbs).length < max (lims 4294967296 x.natAbs).length (lims 4294967296 y.natAbs).length + 1 := by omega
  have h2 : (lims 4294967296 y.natAbs).length < max (lims 4294967296 x.natAbs).length (lims 4294967296 y.natAbs).length + 1 := by omega
  rw [bitZ_is G hb hg h1 h2]
  exact bitB_same G _ _ x y (fits_words h1) (fits_words h2) (fits_up (fits_dec hx) (by omega)) (fits_up (fits_dec hy) (by omega))
theorem zip_last (G : Bool → Bool → Bool) {x y : Int} {L : Nat} (hx : (lims 10 x.natAbs).length ≤ L) (hy : (lims 10 y.natAbs).length ≤ L) : (List.zipWith G (bitsZ x (4 * L + 2)) (bitsZ y (4 * L + 2))).getLast? = some (G (decide (x < 0)) (decide (y < 0))) := by
  have h1 := bitsZ_last (4 * L + 1) x (fits_dec hx)
  have h2 := bitsZ_last (4 * L + 1) y (fits_dec hy)
  have l1 := bitsZ_len (4 * L + 1 + 1) x
  have l2 := bitsZ_len (4 * L + 1 + 1) y
  show (List.zipWith G (bitsZ x (4 * L + 1 + 1)) (bitsZ y (4 * L + 1 + 1))).getLast? = _
  rw [List.getLast?_eq_getElem?] at h1 h2 ⊢
  rw [l1] at h1
  rw [l2] at h2
  rw [List.length_zipWith, l1, l2, Nat.min_self, List.getElem?_zipWith, h1, h2]
theorem op_and (x y : Nat) (hx : x < 2 ^ 32) (hy : y < 2 ^ 32) : bitN (fun s t => s && t) 32 x y = gA x y := bitN_op (g := gA) rfl and_step 32 x y hx hy
theorem op_or (x y : Nat) (hx : x < 2 ^ 32) (hy : y < 2 ^ 32) : bitN (fun s t => s || t) 32 x y = gO x y := bitN_op (g := gO) rfl or_step 32 x y hx hy
theorem op_xor (x y : Nat) (hx : x < 2 ^ 32) (hy : y < 2 ^ 32) : bitN (fun s t => s ^^ t) 32 x y = gX x y := bitN_op (g := gX) rfl xor_step 32 x y hx hy
theorem ofB_abs (s : Bool) (l : List Bool) : (ofB s l).natAbs ≤ 2 ^ l.length := by
  have h : -((2 ^ l.length : Nat) : Int) ≤ ofB s l ∧ ofB s l < ((2 ^ l.length : Nat) : Int) := by
    induction l with
    | nil => cases s <;> decide
    | cons b l ih =>
      show _ ≤ 2 * ofB s l + oneB b ∧ 2 * ofB s l + oneB b < _
      rw [List.length_cons, Nat.pow_succ]
      generalize 2 ^ l.length = P at *
      unfold oneB
      cases b <;> simp <;> omega
  omega
end Go.Proofs.YtmnibfdenmeepaaGreatDoor
/- A region that draws its order and ends in two variables made and written: one reading may come before or behind the first store. -/
namespace Go.Proofs.YtmnibfdenmeepaaGreatDoor
open Go.RowKit Go.Shelf Big

/-- Operations before m: Pr i of the slot s i, once i has come; x alone may come behind m; p and q make two blocks; from m on: Fin. -/
structure RegTwo (I : World → Prop) (m x p q : Nat) (s : Nat → Nat) (Pr : Nat → Value → World → Prop) (Fin : (Nat → Bool) → (Nat → Value) → World → Prop) (L : Nat → Bool) (u : Nat → Value) (w' : World) : Prop where
  inv : L m = false → I w'
  each : ∀ i, i < m → L m = false → L i = true → Pr i (u (s i)) w'
  ext : L m = false → L p = true → L q = true → u (s p) ≠ u (s q)
  fin : L m = true → Fin L u w'
  all : L m = true → ∀ i, i < m → i ≠ x → L i = true
  aft : ∀ j, m < j → L j = true → L m = true
theorem RegTwo.start {I : World → Prop} {m x p q : Nat} {s : Nat → Nat} {Pr : Nat → Value → World → Prop} {Fin : (Nat → Bool) → (Nat → Value) → World → Prop} {L : Nat → Bool} {u : Nat → Value} {w : World} (h : ∀ i, L i = false) (hI : I w) : RegTwo I m x p q s Pr Fin L u w :=
  ⟨fun _ => hI, fun i _ _ h1 => (by rw [h i] at h1; cases h1), fun _ h1 => (by rw [h p] at h1; cases h1), fun h1 => (by rw [h m] at h1; cases h1), fun h1 => (by rw [h m] at h1; cases h1), fun j _ h1 => (by rw [h j] at h1; cases h1)⟩
theorem RegTwo.not {I : World → Prop} {w1 : World} {m x p q : Nat} {s : Nat → Nat} {Pr : Nat → Value → World → Prop} {Fin : (Nat → Bool) → (Nat → Value) → World → Prop} {L : Array Bool} {u : Nat → Value} (F : RegTwo I m x p q s Pr Fin (fun j => L.getD j false) u w1) (k : Nat) (hkn : k ≤ m) (hkx : k ≠ x) (hk : L.getD k true = false) : L.getD m false = false := by
  cases h1 : L.getD m false with
  | false => rfl
  | true =>
    rcases Nat.lt_or_ge k m with h2 | h2
    · have h3 := F.all h1 k h2 hkx
      have h4 := false_of hk
      rw [h4] at h3
      cases h3
    · obtain rfl : k = m := by omega
      have h4 := false_of hk
      rw [h4] at h1
      cases h1
theorem RegTwo.put {I : World → Prop} {w1 w2 : World} {m x p q : Nat} {s : Nat → Nat} {Pr : Nat → Value → World → Prop} {Fin : (Nat → Bool) → (Nat → Value) → World → Prop} {L : Array Bool} {u : Nat → Value} {v : Value} (i : Nat) (F : RegTwo I m x p q s Pr Fin (fun j => L.getD j false) u w1)
    (hst : Stays m Pr) (hi : i < m) (hs : ∀ j, j < m → j ≠ i → s j ≠ s i) (hp : p < m) (hq : q < m) (hpq : p ≠ q) (hln : L.getD m false = false) (hb : Below w1.heap.size w1 w2) (hI : I w2) (hx : Pr i v w2)
    (he : (i = p → L.getD q false = true → v ≠ u (s q)) ∧ (i = q → L.getD p false = true → u (s p) ≠ v)) :
    RegTwo I m x p q s Pr Fin (fun j => (L.setIfInBounds i true).getD j false) (upd u (s i) v) w2 := by
  have hset : ∀ j, j ≠ i → (L.setIfInBounds i true).getD j false = L.getD j false := fun j hj => by
    simp only [Array.getD_eq_getD_getElem?]
    rw [Array.getElem?_setIfInBounds_ne (by omega)]
  have hn' := (hset m (by omega)).trans hln
  refine ⟨fun _ => hI, fun j hj _ h1 => ?_, fun _ h1 h2 => ?_, fun h => ?_, fun h => ?_, fun j hj h => ?_⟩
  · by_cases e : j = i
    · subst e
      rw [upd_eq]
      exact hx
    · rw [upd_ne (hs j hj e)]
      rcases set_true h1 with h | h
      · exact absurd h e
      · exact hst j _ _ _ hj hb (F.each j hj hln h)
  · by_cases e : p = i
    · subst e
      rw [upd_eq, upd_ne (hs q hq (Ne.symm hpq))]
      exact he.1 rfl ((hset q (Ne.symm hpq)).symm.trans h2)
    · by_cases e2 : q = i
      · subst e2
        rw [upd_eq, upd_ne (hs p hp e)]
        exact he.2 rfl ((hset p e).symm.trans h1)
      · rw [upd_ne (hs p hp e), upd_ne (hs q hq e2)]
        exact F.ext hln ((hset p e).symm.trans h1) ((hset q e2).symm.trans h2)
  · rw [hn'] at h; cases h
  · rw [hn'] at h; cases h
  · rw [hset j (by omega)] at h
    have := F.aft j hj h
    rw [hln] at this
    cases this
/-- Operation m comes. -/
theorem RegTwo.last {I : World → Prop} {w1 w2 : World} {m x p q : Nat} {s : Nat → Nat} {Pr : Nat → Value → World → Prop} {Fin : (Nat → Bool) → (Nat → Value) → World → Prop} {L : Array Bool} {u u' : Nat → Value} (F : RegTwo I m x p q s Pr Fin (fun j => L.getD j false) u w1) (hxm : x < m) (hnl : L.getD m true = false)
    (hall : ∀ i, i < m → i ≠ x → L.getD i false = true) (hx : (∀ j, m < j → (L.setIfInBounds m true).getD j false = false) → ((L.setIfInBounds m true).getD x false = L.getD x false) → Fin (fun j => (L.setIfInBounds m true).getD j false) u' w2) : RegTwo I m x p q s Pr Fin (fun j => (L.setIfInBounds m true).getD j false) u' w2 := by
  have hlt : m < L.size := by
    rcases Nat.lt_or_ge m L.size with h | h
    · exact h
    · simp [Array.getD, Nat.not_lt.2 h] at hnl
  have hln := false_of hnl
  have hset : ∀ j, j ≠ m → (L.setIfInBounds m true).getD j false = L.getD j false := fun j hj => by
    simp only [Array.getD_eq_getD_getElem?]
    rw [Array.getElem?_setIfInBounds_ne (by omega)]
  have hyes : (L.setIfInBounds m true).getD m false = true := by
    simp [Array.getD_eq_getD_getElem?, hlt]
  refine ⟨fun h => ?_, fun j _ h => ?_, fun h => ?_, fun _ => hx (fun j hj => ?_) (hset x (by omega)), fun _ i hi hix => ?_, fun j _ _ => hyes⟩
  · rw [hyes] at h; cases h
  · rw [hyes] at h; cases h
  · rw [hyes] at h; cases h
  · rw [hset j (by omega)]
    cases h : L.getD j false with
    | false => rfl
    | true => have := F.aft j hj h; rw [hln] at this; cases this
  · rw [hset i (by omega)]
    exact hall i hi hix
/-- An operation behind m comes (x among them). -/
theorem RegTwo.post {I : World → Prop} {w1 w2 : World} {m x p q : Nat} {s : Nat → Nat} {Pr : Nat → Value → World → Prop} {Fin : (Nat → Bool) → (Nat → Value) → World → Prop} {L : Array Bool} {u u' : Nat → Value} (k : Nat) (F : RegTwo I m x p q s Pr Fin (fun j => L.getD j false) u w1) (hk : m < k ∨ k = x) (hxm : x < m)
    (hn : L.getD m false = true) (hx : Fin (fun j => (L.setIfInBounds k true).getD j false) u' w2) : RegTwo I m x p q s Pr Fin (fun j => (L.setIfInBounds k true).getD j false) u' w2 := by
  have hset : ∀ j, j ≠ k → (L.setIfInBounds k true).getD j false = L.getD j false := fun j hj => by
    simp only [Array.getD_eq_getD_getElem?]
    rw [Array.getElem?_setIfInBounds_ne (by omega)]
  have hn' := (hset m (by omega)).trans hn
  refine ⟨fun h => ?_, fun j _ h => ?_, fun h => ?_, fun _ => hx, fun _ i hi hix => ?_, fun j _ _ => hn'⟩
  · rw [hn'] at h; cases h
  · rw [hn'] at h; cases h
  · rw [hn'] at h; cases h
  · rw [hset i (by omega)]
    exact F.all hn i hi hix
section
variable {P : Program} {ops : Array Oper} {Q : Exit → Act → World → Prop}
theorem wpAny_inv2 {Inv : Array Bool → Act → World → Prop}
    (hord : ∀ (i : Nat) (o : Oper), ops[i]? = some o → ∀ e ∈ o.after, Region.binds .any e = true → e.on < i)
    (step : ∀ (listed : Array Bool) (a : Act) (w : World) (i : Nat), Inv listed a w → i < ops.size → listed.getD i true = false → (∀ (o : Oper), ops[i]? = some o → ∀ e ∈ o.after, Region.binds .any e = true → listed.getD e.on false = true) → wpOp P ops Q i (fun a' w' => Inv (listed.setIfInBounds i true) a' w') a w)
    (fin : ∀ listed a w, Inv listed a w → (∀ i, i < ops.size → listed.getD i false = true) → Q .normal a w) :
    ∀ (fuel : Nat) (listed : Array Bool) (a : Act) (w : World), listed.size = ops.size → unlisted listed ops.size ≤ fuel → Inv listed a w → wpAny P .any ops Q fuel listed a w := by
  have done : ∀ listed a w, listed.size = ops.size → Region.ready .any ops listed = [] → Inv listed a w → Q .normal a w := by
    intro listed a w hs hr hI
    refine fin listed a w hI ?_
    intro i
    induction i using Nat.strongRecOn with
    | _ i ih =>
      intro hi
      cases hl : listed.getD i false with
      | true => rfl
      | false =>
        exfalso
        have hd : listed.getD i true = false := by
          simp only [Array.getD_eq_getD_getElem?] at hl ⊢
          rw [Array.getElem?_eq_getElem (by omega)] at hl ⊢
          simpa using hl
        have hm : i ∈ Region.ready .any ops listed := by
          unfold Region.ready
          rw [List.mem_filter]
          refine ⟨List.mem_range.2 hi, ?_⟩
          rw [hd, Array.getElem?_eq_getElem hi]
          simp only [Bool.not_false, Bool.true_and, Option.map_some, Option.getD_some, Array.all_eq_true_iff_forall_mem, Bool.or_eq_true, Bool.not_eq_true']
          intro e he
          cases hb : Region.binds .any e with
          | false => exact .inl rfl
          | true =>
            refine .inr (ih e.on (hord i _ (Array.getElem?_eq_getElem hi) e he hb) ?_)
            have := hord i _ (Array.getElem?_eq_getElem hi) e he hb
            omega
        rw [hr] at hm
        cases hm
  intro fuel
  induction fuel with
  | zero =>
    intro listed a w hs hu hI
    have hr : Region.ready .any ops listed = [] := by
      apply List.eq_nil_iff_forall_not_mem.2
      intro i hi
      obtain ⟨h1, h2, _⟩ := ready_spec hi
      have := unlisted_set listed ops.size i h1 h2
      omega
    exact ⟨hr, done listed a w hs hr hI⟩
  | succ fuel ih =>
    intro listed a w hs hu hI
    refine ⟨fun hr => done listed a w hs hr hI, fun i hi => ?_⟩
    obtain ⟨h1, h2, h3⟩ := ready_spec hi
    refine wpOp_mono (fun a' w' hI' => ih _ a' w' (by simpa using hs) ?_ hI') (step listed a w i hI h1 h2 h3)
    have := unlisted_set listed ops.size i h1 h2
    omega
/-- Ties that bind lie ahead. -/
def ordB2 (ops : Array Oper) : Bool := ops.toList.zipIdx.all fun x => x.1.after.all fun e => !Region.binds .any e || decide (e.on < x.2)
theorem ord_of2 (h : ordB2 ops = true) : ∀ (i : Nat) (o : Oper), ops[i]? = some o → ∀ e ∈ o.after, Region.binds .any e = true → e.on < i := by
  intro i o ho e he hb
  have h1 := List.all_eq_true.1 h (o, i) (by
    rw [List.mem_zipIdx_iff_getElem?]
    simpa using ho)
  have h2 := (Array.all_eq_true_iff_forall_mem.1 h1) e he
  rw [hb] at h2
  simpa using h2
theorem wp_region_inv2 {Inv : Array Bool → Act → World → Prop} {id : Nat} {a : Act} {w : World} (hm : P.follows .mixedOrders = true)
    (hord : ∀ (i : Nat) (o : Oper), ops[i]? = some o → ∀ e ∈ o.after, Region.binds .any e = true → e.on < i) (h0 : Inv (Array.replicate ops.size false) a w.drew)
    (step : ∀ (listed : Array Bool) (a : Act) (w : World) (i : Nat), Inv listed a w → i < ops.size → listed.getD i true = false → (∀ (o : Oper), ops[i]? = some o → ∀ e ∈ o.after, Region.binds .any e = true → listed.getD e.on false = true) → wpOp P ops Q i (fun a' w' => Inv (listed.setIfInBounds i true) a' w') a w)
    (fin : ∀ listed a w, Inv listed a w → (∀ i, i < ops.size → listed.getD i false = true) → Q .normal a w) : (Code.region id ops true).wp P Q a w := by
  refine wp_region_any hm (wpAny_inv2 hord step fin ops.size _ a _ (by simp) ?_ h0)
  unfold unlisted
  have := List.countP_le_length (p := fun i => !(Array.replicate ops.size false).getD i true) (l := List.range ops.size)
  simpa using this
end
/-- A number in a block. -/
def NumAt (w : World) (B g : Nat) (Z : Int) : Prop := ∃ a l c, Has w g 45 #[.bool (decide (Z < 0)), .slice a l c] ∧ DecIs w B (.slice a l c) Z.natAbs
def NumV (w : World) (B : Nat) (v : Value) (Z : Int) : Prop := ∃ a l c, v = .agg #[.bool (decide (Z < 0)), .slice a l c] ∧ DecIs w B (.slice a l c) Z.natAbs
theorem NumV.kept {w w' : World} {B : Nat} {v : Value} {Z : Int} (h : NumV w B v Z) (hb : Below w.heap.size w w') : NumV w' B v Z := by
  obtain ⟨a, l, c, e, hd⟩ := h
  exact ⟨a, l, c, e, hd.kept hb⟩
theorem DecIs.far2 {w : World} {B n g : Nat} {v : Value} {cs : Array Value} (h : DecIs w B v n) (hg : Has w g 45 cs) (x y : Value) : DecIs ((w.setCell ⟨g, 0, none⟩ x).setCell ⟨g, 1, none⟩ y) B v n :=
  (h.apart (h.notNum hg) 0 x).apart (h.notNum hg) 1 y
/-- Two made variables after the first store: what has been read, what has been written. -/
structure TwoDone (b B : Nat) (w0 : World) (x y s6 s7 s11 s16 : Nat) (Q R : Int) (g6 g7 : Nat) (L : Nat → Bool) (u : Nat → Value) (w : World) : Prop where
  e6 : u s6 = .pointer (some ⟨g6, 0, none⟩)
  e7 : u s7 = .pointer (some ⟨g7, 0, none⟩)
  e11 : ∃ v1 v2, u s11 = .tuple #[v1, v2] ∧ NumV w B v2 R
  e16 : L x = true → NumV w B (u s16) R
  h6 : NumAt w B g6 Q
  h7 : L y = true → NumAt w B g7 R
  h7' : L y = false → Has w g7 45 #[.bool false, .slice none 0 0]
  b6 : b ≤ g6
  b7 : b ≤ g7
  ne : g6 ≠ g7
  bel : Below b w0 w
theorem two_first {b B : Nat} {w0 w : World} {x y s6 s7 s11 s16 : Nat} {Q R : Int} {g6 g7 : Nat} {L L' : Nat → Bool} {u : Nat → Value} {aq : Option Addr} {lq cq : Nat} {c6 : Array Value}
    (e6 : u s6 = .pointer (some ⟨g6, 0, none⟩)) (e7 : u s7 = .pointer (some ⟨g7, 0, none⟩)) (hne : u s6 ≠ u s7) (b6 : b ≤ g6) (b7 : b ≤ g7)
    (e11 : ∃ v1 v2, u s11 = .tuple #[v1, v2] ∧ NumV w B v2 R) (e16 : L x = true → NumV w B (u s16) R) (hq : DecIs w B (.slice aq lq cq) Q.natAbs)
    (h6 : Has w g6 45 c6) (h62 : c6 = #[.bool false, .slice none 0 0]) (h7 : Has w g7 45 #[.bool false, .slice none 0 0]) (hb : Below b w0 w) (hx : L' x = L x) (hy : L' y = false) :
    TwoDone b B w0 x y s6 s7 s11 s16 Q R g6 g7 L' u ((w.setCell ⟨g6, 0, none⟩ (.bool (decide (Q < 0)))).setCell ⟨g6, 1, none⟩ (.slice aq lq cq)) := by
  subst h62
  have hne2 : g6 ≠ g7 := fun e => hne (by rw [e6, e7, e])
  refine ⟨e6, e7, ?_, fun h => ?_, ⟨aq, lq, cq, h6.put2 _ _, hq.far2 h6 _ _⟩, fun h => ?_, fun _ => h7.far2 (Ne.symm hne2) _ _, b6, b7, hne2, (hb.setCell (p := ⟨g6, 0, none⟩) b6 _).setCell (p := ⟨g6, 1, none⟩) b6 _⟩
  · obtain ⟨v1, v2, e, a, l, c, ev, hd⟩ := e11
    exact ⟨v1, v2, e, a, l, c, ev, hd.far2 h6 _ _⟩
  · obtain ⟨a, l, c, ev, hd⟩ := e16 (hx.symm.trans h)
    exact ⟨a, l, c, ev, hd.far2 h6 _ _⟩
  · rw [hy] at h; cases h
theorem two_read {b B : Nat} {w0 w : World} {x y s6 s7 s11 s16 : Nat} {Q R : Int} {g6 g7 : Nat} {L L' : Nat → Bool} {u : Nat → Value} (T : TwoDone b B w0 x y s6 s7 s11 s16 Q R g6 g7 L u w) (h6 : s6 ≠ s16) (h7 : s7 ≠ s16) (h11 : s11 ≠ s16) (hy : L' y = L y) :
    ∃ v1 v2, u s11 = .tuple #[v1, v2] ∧ TwoDone b B w0 x y s6 s7 s11 s16 Q R g6 g7 L' (upd u s16 v2) w := by
  obtain ⟨v1, v2, e, hn⟩ := T.e11
  refine ⟨v1, v2, e, ?_, ?_, ⟨v1, v2, ?_, hn⟩, fun _ => ?_, T.h6, fun h => T.h7 (hy.symm.trans h), fun h => T.h7' (hy.symm.trans h), T.b6, T.b7, T.ne, T.bel⟩
  · rw [upd_ne h6]; exact T.e6
  · rw [upd_ne h7]; exact T.e7
  · rw [upd_ne h11]; exact e
  · rw [upd_eq]; exact hn
theorem two_second {b B : Nat} {w0 w : World} {x y s6 s7 s11 s16 : Nat} {Q R : Int} {g6 g7 : Nat} {L L' : Nat → Bool} {u : Nat → Value} (T : TwoDone b B w0 x y s6 s7 s11 s16 Q R g6 g7 L u w) (hx : L x = true) (hy : L y = false) (hy' : L' y = true) :
    ∃ a l c, u s16 = .agg #[.bool (decide (R < 0)), .slice a l c] ∧ Has w g7 45 #[.bool false, .slice none 0 0] ∧ TwoDone b B w0 x y s6 s7 s11 s16 Q R g6 g7 L' u ((w.setCell ⟨g7, 0, none⟩ (.bool (decide (R < 0)))).setCell ⟨g7, 1, none⟩ (.slice a l c)) := by
  obtain ⟨a, l, c, e, hd⟩ := T.e16 hx
  have h7 := T.h7' hy
  refine ⟨a, l, c, e, h7, T.e6, T.e7, ?_, fun _ => ⟨a, l, c, e, hd.far2 h7 _ _⟩, ?_, fun _ => ⟨a, l, c, h7.put2 _ _, hd.far2 h7 _ _⟩, fun h => ?_, T.b6, T.b7, T.ne, (T.bel.setCell (p := ⟨g7, 0, none⟩) T.b7 _).setCell (p := ⟨g7, 1, none⟩) T.b7 _⟩
  · obtain ⟨v1, v2, e, a, l, c, ev, hd⟩ := T.e11
    exact ⟨v1, v2, e, a, l, c, ev, hd.far2 h7 _ _⟩
  · obtain ⟨a, l, c, hg, hd⟩ := T.h6
    exact ⟨a, l, c, hg.far2 T.ne _ _, hd.far2 h7 _ _⟩
  · rw [hy'] at h; cases h
end Go.Proofs.YtmnibfdenmeepaaGreatDoor
/- Shift of the program. -/
namespace Go.Proofs.YtmnibfdenmeepaaGreatDoor
open Go.RowKit Go.Shelf Big

/-- A number shifted by n places. -/
def shiftV (z n : Int) : Int := if 0 ≤ n then z * ((2 ^ n.toNat : Nat) : Int) else z / ((2 ^ (-n).toNat : Nat) : Int)
def shiftS (l : List UInt8) (n : Int) : List UInt8 × Int :=
  match numOf l with
  | some z => if n < -100000 ∨ 100000 < n then ([], 7) else if tooL z.natAbs then ([], 4) else told (shiftV z n)
  | none => ([], 2)
theorem shiftS_none {l : List UInt8} (n : Int) (h : numOf l = none) : shiftS l n = ([], 2) := by unfold shiftS; rw [h]
theorem shiftS_far {l : List UInt8} {n z : Int} (h : numOf l = some z) (hn : n < -100000 ∨ 100000 < n) : shiftS l n = ([], 7) := by unfold shiftS; rw [h]; exact if_pos hn
theorem shiftS_long {l : List UInt8} {n z : Int} (h : numOf l = some z) (hn : ¬ (n < -100000 ∨ 100000 < n)) (ht : tooL z.natAbs = true) : shiftS l n = ([], 4) := by
  unfold shiftS; rw [h]
  show (if _ then _ else if _ then _ else _) = _
  rw [if_neg hn, if_pos ht]
theorem shiftS_is {l : List UInt8} {n z : Int} (h : numOf l = some z) (hn : ¬ (n < -100000 ∨ 100000 < n)) (ht : tooL z.natAbs = false) : shiftS l n = told (shiftV z n) := by
  unfold shiftS; rw [h]
  show (if _ then _ else if _ then _ else _) = _
  rw [if_neg hn, if_neg (by rw [ht]; decide)]
theorem abs_pow (z : Int) (k : Nat) : (z * ((2 ^ k : Nat) : Int)).natAbs = z.natAbs * 2 ^ k := by rw [Int.natAbs_mul, Int.natAbs_natCast]
/-- Beyond 2,008 places a number that is not 0 is too long. -/
theorem shift_over {z n : Int} (hz : z ≠ 0) (hn : 2008 < n) : told (shiftV z n) = ([], 4) := by
  have h1 : tooL (shiftV z n).natAbs = true := by
    unfold tooL shiftV
    rw [if_pos (by omega), abs_pow, decide_eq_true_eq]
    have h2 : 2 ^ k2008 ≤ 2 ^ n.toNat := Nat.pow_le_pow_right (by decide) (by unfold k2008; omega)
    have h3 : 1 * 2 ^ n.toNat ≤ z.natAbs * 2 ^ n.toNat := Nat.mul_le_mul_right _ (by omega)
    rw [Nat.one_mul] at h3
    have h4 := p2
    omega
  unfold told
  rw [if_pos h1]
theorem shift_zero (n : Int) : shiftV 0 n = 0 := by unfold shiftV; split <;> simp
theorem pow_pos2 (k : Nat) : (0 : Int) < ((2 ^ k : Nat) : Int) := by
  have := Nat.pow_pos (n := k) (show 0 < 2 by decide)
  omega
/-- The opposite of what Not tells, shifted, and Not of it: rounded down. -/
theorem shift_not (z P : Int) (hP : 0 < P) : -((-z - 1) / P) - 1 = z / P := by
  have h1 := Int.mul_ediv_add_emod z P
  have h2 := Int.emod_nonneg z (b := P) (by omega)
  have h3 := Int.emod_lt_of_pos z hP
  have h4 : (-z - 1) / P = -(z / P) - 1 := by
    refine floor_of (r := P - 1 - z % P) hP ?_ (by omega) (by omega)
    rw [Int.mul_sub, Int.mul_neg, Int.mul_one]
    generalize P * (z / P) = t at *
    omega
  omega
/-- Far below, nothing or -1 is left. -/
theorem shift_gone {z : Int} {k : Nat} (h : z.natAbs < 2 ^ k) : z / ((2 ^ k : Nat) : Int) = if z < 0 then -1 else 0 := by
  generalize 2 ^ k = P at *
  split
  · exact floor_of (r := z + P) (by omega) (by omega) (by omega) (by omega)
  · exact floor_of (r := z) (by omega) (by omega) (by omega) (by omega)
theorem shift_down {z n : Int} (ht : tooL z.natAbs = false) (hn : n < 0) : shiftV z n = z / ((2 ^ (min (-n) 4000).toNat : Nat) : Int) := by
  unfold shiftV
  rw [if_neg (by omega)]
  by_cases h : -n ≤ 4000
  · rw [Int.min_eq_left h]
  · have h1 := lims_of_tool ht
    have h2 : 2 ^ k2008 ≤ 2 ^ (-n).toNat := Nat.pow_le_pow_right (by decide) (by unfold k2008; omega)
    have h3 : 2 ^ k2008 ≤ 2 ^ (min (-n) 4000).toNat := Nat.pow_le_pow_right (by decide) (by unfold k2008; omega)
    rw [shift_gone (by omega), shift_gone (by omega)]
theorem shift_nat {z n : Int} (hz : 0 ≤ z) (hn : n < 0) : shiftV z n = ((z.natAbs / 2 ^ (-n).toNat : Nat) : Int) := by
  unfold shiftV
  rw [if_neg (by omega), Int.natCast_ediv]
  congr 1
  omega
theorem shift_neg {z n : Int} (hn : n < 0) : shiftV z n = -((((-z - 1) / ((2 ^ (-n).toNat : Nat) : Int)))) - 1 := by
  unfold shiftV
  rw [if_neg (by omega), shift_not z _ (pow_pos2 _)]
theorem nat_len0 {w : World} {B l c n : Nat} {a : Option Addr} (h : NatIs w B (.slice a l c) n) : (l = 0 ∧ n = 0) ∨ (0 < l ∧ 0 < n) := by
  obtain ⟨_, _, hav⟩ := h.slice
  injection hav with _ hl _
  have : (lims 4294967296 n).length = 0 ↔ n = 0 := by rw [List.length_eq_zero_iff, lims_nil w32_ge]
  omega
theorem left_short {z : Int} {k : Nat} (ht : tooL z.natAbs = false) (h : z = 0 ∨ k ≤ 2008) : (lims 4294967296 (z.natAbs * 2 ^ k)).length ≤ 100000 := by
  rcases h with rfl | h
  · rw [show (0 : Int).natAbs * 2 ^ k = 0 by simp, lims_zero]; simp
  · have h1 := lims_of_tool ht
    have h2 : 2 ^ k ≤ 2 ^ k2008 := Nat.pow_le_pow_right (by decide) h
    have h3 : z.natAbs * 2 ^ k < 2 ^ (k2008 + k2008) := by
      rw [Nat.pow_add]
      refine Nat.lt_of_le_of_lt (Nat.mul_le_mul_left _ h2) ((Nat.mul_lt_mul_right (Nat.pow_pos (by decide))).2 h1)
    have h4 : 2 ^ (k2008 + k2008) ≤ 4294967296 ^ (k2008 + k2008) := Nat.pow_le_pow_left (by decide) _
    have h5 := (lims_len_le w32_ge (z.natAbs * 2 ^ k) (k2008 + k2008)).2 (Nat.lt_of_lt_of_le h3 h4)
    unfold k2008 at h5
    omega
theorem len_down {a b K : Nat} (h : a ≤ b) (hb : (lims 4294967296 b).length ≤ K) : (lims 4294967296 a).length ≤ K :=
  (lims_len_le w32_ge a K).2 (Nat.lt_of_le_of_lt h ((lims_len_le w32_ge b K).1 hb))
theorem sgI_shl (z : Int) (k : Nat) : sgI (decide (z < 0)) (z.natAbs * 2 ^ k) = z * ((2 ^ k : Nat) : Int) := by
  unfold sgI
  by_cases h : z < 0
  · rw [decide_eq_true h, if_pos rfl]
    rw [Int.natCast_mul]
    rw [show (z.natAbs : Int) = -z by omega, Int.neg_mul, Int.neg_neg]
  · rw [decide_eq_false h, if_neg (by decide), Int.natCast_mul]
    rw [show (z.natAbs : Int) = z by omega]
def shS : Nat → Nat := fun i => if i = 11 then 4 else if i = 12 then 5 else i + 40
def shPr (W0 : World) (g : Nat) (s1 : Bool) (a1 : Option Addr) (n1 c1 k M : Nat) (T C : Value) : Nat → Value → World → Prop
  | 0, v, _ => v = .pointer (some ⟨g, 0, none⟩)
  | 1, v, _ => v = .bool s1
  | 2, v, _ => v = .pointer (some ⟨g, 1, none⟩)
  | 3, v, _ => v = .slice a1 n1 c1
  | 4, v, _ => v = .int .i64 (k : Int)
  | 5, v, _ => v = .int .u64 (k : Int)
  | 6, v, w => ∃ a l c, v = .slice a l c ∧ NatIs w W0.heap.size (.slice a l c) M
  | 7, v, w => ∃ a l c, v = .agg #[.bool s1, .slice a l c, .bool false, .bool false] ∧ NatIs w W0.heap.size (.slice a l c) M
  | 8, v, _ => v = .tuple #[T, C]
  | 9, v, _ => v = T
  | 10, v, _ => v = C
  | 11, v, _ => v = T
  | _, v, _ => v = C
theorem shPr_stays (W0 : World) (g : Nat) (s1 : Bool) (a1 : Option Addr) (n1 c1 k M : Nat) (T C : Value) : Stays 13 (shPr W0 g s1 a1 n1 c1 k M T C) := by
  intro i v w w' hi hb h
  match i, h with
  | 0, h => exact h
  | 1, h => exact h
  | 2, h => exact h
  | 3, h => exact h
  | 4, h => exact h
  | 5, h => exact h
  | 6, h => obtain ⟨a, l, c, e, hd⟩ := h; exact ⟨a, l, c, e, hd.kept hb⟩
  | 7, h => obtain ⟨a, l, c, e, hd⟩ := h; exact ⟨a, l, c, e, hd.kept hb⟩
  | 8, h => exact h
  | 9, h => exact h
  | 10, h => exact h
  | 11, h => exact h
  | 12, h => exact h
  | n + 13, _ => omega
theorem shiftV_up (z : Int) (k : Nat) : z * ((2 ^ k : Nat) : Int) = shiftV z (k : Int) := by
  unfold shiftV
  rw [if_pos (by omega)]
  rfl
set_option maxRecDepth 100000 in
set_option maxHeartbeats 4000000 in
theorem Shift_any (a : ByteArray) (n : Int) (w : World) (ha : a.size ≤ 1000) :
    Calls Tryz.prog 6 #[.string a, .int .i64 n] w fun e w' => e = retS (shiftS a.data.toList n) ∧ Below w.heap.size w w' := by
  go_enter Tryz.func6, Tryz.ntmps6
  go_wp2_with fail
  refine (parse_any a w ha).mono ?_
  rintro e w1 ⟨hp1, hb1⟩
  obtain ⟨s1, a1, n1, c1, g1, o1, t1, rfl, hf1⟩ := hp1.form
  have hz1 := hb1.size
  have HBE := Lib.hid (fun x => hb1.alloc hz1 x)
  rcases hf1 with ⟨rfl, z, hz, hs1, hg1, hn1⟩ | ⟨rfl, hz⟩
  case inr =>
    have HR := Lib.hid (shiftS_none n hz)
    clear hz hp1 hb1
    go_wp2
    go_ret2
    exact ⟨by rw [HR.out]; rfl, HBE.out _⟩
  case inl =>
    clear hp1
    by_cases hfar : n < -100000 ∨ 100000 < n
    · have HR := Lib.hid (shiftS_far hz hfar)
      clear hz hs1 hg1 hn1 hb1
      by_cases h1 : n < -100000
      · go_wp2
        go_ret2
        exact ⟨by rw [HR.out]; rfl, HBE.out _⟩
      · have h2 : n > 100000 := by omega
        clear hfar
        go_wp2
        go_ret2
        exact ⟨by rw [HR.out]; rfl, HBE.out _⟩
    · have h1 : ¬ n < -100000 := by omega
      have h2 : ¬ n > 100000 := by omega
      have HN1 := Lib.hid (fun x => hn1.alloc x)
      cases g1 with
      | true =>
        have HR := Lib.hid (shiftS_long hz hfar hg1.symm)
        clear hz hs1 hg1 hn1 hb1 hfar
        go_wp2
        go_ret2
        exact ⟨by rw [HR.out]; rfl, HBE.out _⟩
      | false =>
        have HIS := Lib.hid (shiftS_is hz hfar hg1.symm)
        have HT := Lib.hid hg1.symm
        have hl := nat_len0 hn1
        have HS := Lib.hid hs1
        clear hfar hz hg1 hs1
        by_cases hov : n > 2008 ∧ z ≠ 0
        · have h3 := hov.1
          have h4 : (n1 : Int) > 0 := by omega
          have HR := Lib.hid (HIS.out.trans (shift_over hov.2 hov.1))
          clear hov hl hn1 hb1
          go_wp2
          go_ret2
          exact ⟨by rw [HR.out]; rfl, HBE.out _⟩
        · go_upto_region 6 with fail
          obtain ⟨W1, hW1⟩ : ∃ W1, w1.alloc (.cells #[.bool s1, .slice a1 n1 c1, .bool false, .bool o1] 35) = W1 := ⟨_, rfl⟩
          rw [hW1]
          have hG : Has W1 w1.heap.size 35 #[.bool s1, .slice a1 n1 c1, .bool false, .bool o1] := by rw [← hW1]; exact Has.new _ _ _
          have hN : NatIs W1 w.heap.size (.slice a1 n1 c1) z.natAbs := by rw [← hW1]; exact hn1.alloc _
          have hB : Below w.heap.size w W1 := by rw [← hW1]; exact hb1.alloc hz1 _
          have hzW : w1.heap.size < W1.heap.size := by rw [← hW1]; simp
          clear hW1 hn1 hb1 HN1 HBE
          generalize w1.heap.size = g at *
          go_cut [24] from 25 to 36 (fun v24 wx => v24 = .bool false ∧ wx = W1)
          case first =>
            have q2 : W1.cell? ⟨g, 2, none⟩ = some (.bool false) := Has.cell hG 2
            have q1 : W1.cell? ⟨g, 1, none⟩ = some (.slice a1 n1 c1) := Has.cell hG 1
            by_cases h3 : n > 2008
            · have h4 : n1 = 0 := by omega
              subst h4
              go_wp2_with fail
              go_meet
              exact ⟨rfl, rfl⟩
            · go_wp2_with fail
              go_meet
              exact ⟨rfl, rfl⟩
          case rest =>
          obtain ⟨rfl, rfl⟩ := hcut
          by_cases hn0 : 0 ≤ n
          · obtain ⟨k, rfl⟩ : ∃ k : Nat, n = (k : Int) := ⟨n.toNat, by omega⟩
            have h5 : (k : Int) ≥ 0 := by omega
            have HLs := Lib.hid (left_short (k := k) HT.out (by omega))
            go_wp2_with fail
            have HLf := Lib.hid (fun W (hW : Below wc.heap.size wc W) => shl_any w.heap.size z.natAbs k _ W (hN.kept hW) (short_of HT.out) (by omega))
            have HTx := Lib.hid (fun v W (hv : NatIs W wc.heap.size v (z.natAbs * 2 ^ k)) => (text_any wc.heap.size (z.natAbs * 2 ^ k) v s1 false false W hv HLs.out).mono fun e w' h => And.intro h.1.told h.2)
            rw [HS.out, sgI_shl, shiftV_up, ← HIS.out, ← HS.out] at HTx
            obtain ⟨p, hp⟩ : ∃ p, shiftS a.data.toList (k : Int) = p := ⟨_, rfl⟩
            rw [hp] at HTx
            have HP := Lib.hid hp
            clear hp HIS
            unfold retS at HTx
            obtain ⟨f1, hf1⟩ : ∃ f1, (decide ((k : Int) < -100000) || decide (100000 < (k : Int))) = f1 := ⟨_, rfl⟩
            obtain ⟨f2, hf2⟩ : ∃ f2, decide ((k : Int) < -100000) = f2 := ⟨_, rfl⟩
            obtain ⟨f3, hf3⟩ : ∃ f3, decide (100000 < (k : Int)) = f3 := ⟨_, rfl⟩
            rw [hf1, hf2, hf3]
            clear hf1 hf2 hf3
            have hwr : IntKind.u64.wrap (k : Int) = (k : Int) := by rw [IntKind.wrap_u64]; omega
            have hst := shPr_stays wc g s1 a1 n1 c1 k (z.natAbs * 2 ^ k) (.string ⟨p.1.toArray⟩) (.int .i64 p.2)
            refine wp_region_inv (Inv := fun listed x' w' => ∃ u, x' = { tmps := #[.string a, .int .i64 (k : Int), undef, undef, u 4, u 5, .pointer (some ⟨g, 0, none⟩), .bool true, undef, .tuple #[.agg #[.bool s1, .slice a1 n1 c1, .bool false, .bool o1], .bool true], .string a, .tuple #[.agg #[.bool s1, .slice a1 n1 c1, .bool false, .bool o1], .bool true], .agg #[.bool s1, .slice a1 n1 c1, .bool false, .bool o1], .bool true, .bool false, .bool true, .bool false, .bool f1, .int .i64 (k : Int), .bool f2, .bool f2, .int .i64 (k : Int), .bool f3, .bool f1, .bool false, u25, u26, u27, u28, u29, u30, u31, u32, u33, u34, u35, u36, .bool true, .int .i64 (k : Int), .bool true, u 40, u 41, u 42, u 43, u 44, u 45, u 46, u 47, u 48, u 49, u 50, undef, undef, undef, undef, undef, undef, undef, undef, undef, undef, undef, undef, undef, undef, undef, undef, undef, undef, undef, undef, undef, undef, undef, undef, undef, undef], defers := [] } ∧ RegRow wc 13 false shS (shPr wc g s1 a1 n1 c1 k (z.natAbs * 2 ^ k) (.string ⟨p.1.toArray⟩) (.int .i64 p.2)) (fun _ _ => True) (fun i => listed.getD i false) u w') (by kernel_rfl) (ord_of (by kernel_rfl)) ?h0 ?step ?fin
            case h0 => exact ⟨fun i => if i = 4 then .string ⟨#[]⟩ else if i = 5 then .int .i64 0 else undef, rfl, RegRow.start (none_listed _)⟩
            case fin =>
              rintro listed x' w' ⟨u, rfl, F⟩ hall
              have e4 : u 4 = _ := F.each 11 (by decide) (fun h => by cases h) (hall 11 (by decide))
              have e5 : u 5 = _ := F.each 12 (by decide) (fun h => by cases h) (hall 12 (by decide))
              have hbF := hB.trans (F.below.mono (show w.heap.size ≤ wc.heap.size by omega))
              rw [e4, e5]
              clear F hall e4 e5 hB
              go_wp2
              go_ret2
              exact ⟨by rw [HP.out]; rfl, hbF⟩
            case step =>
              rintro listed x' w' i ⟨u, rfl, F⟩ hi hn hd
              have h11 : i = 0 ∨ i = 1 ∨ i = 2 ∨ i = 3 ∨ i = 4 ∨ i = 5 ∨ i = 6 ∨ i = 7 ∨ i = 8 ∨ i = 9 ∨ i = 10 ∨ i = 11 ∨ i = 12 := by
                have : i < 13 := hi
                omega
              have q0 := Has.cell (hG.below F.below) 0
              have q1 := Has.cell (hG.below F.below) 1
              rcases h11 with rfl | rfl | rfl | rfl | rfl | rfl | rfl | rfl | rfl | rfl | rfl | rfl | rfl
              · refine wpOp_by rfl rfl (fun K hK => ?_)
                go_simp
                exact hK _ _ ⟨_, by simp [upd, shS], F.put 0 hst (by decide) (by decide) hn (Below.refl _ _) rfl⟩
              · have e0 : u 40 = _ := F.got 0 (by decide) 1 hn (by decide) (hd _ rfl ⟨0, .data⟩ (by simp) rfl)
                refine wpOp_by rfl rfl (fun K hK => ?_)
                go_simp
                exact hK _ _ ⟨_, by simp [upd, shS, e0], F.put 1 hst (by decide) (by decide) hn (Below.refl _ _) rfl⟩
              · refine wpOp_by rfl rfl (fun K hK => ?_)
                go_simp
                exact hK _ _ ⟨_, by simp [upd, shS], F.put 2 hst (by decide) (by decide) hn (Below.refl _ _) rfl⟩
              · have e2 : u 42 = _ := F.got 2 (by decide) 3 hn (by decide) (hd _ rfl ⟨2, .data⟩ (by simp) rfl)
                refine wpOp_by rfl rfl (fun K hK => ?_)
                go_simp
                exact hK _ _ ⟨_, by simp [upd, shS, e2], F.put 3 hst (by decide) (by decide) hn (Below.refl _ _) rfl⟩
              · refine wpOp_by rfl rfl (fun K hK => ?_)
                go_simp
                exact hK _ _ ⟨_, by simp [upd, shS], F.put 4 hst (by decide) (by decide) hn (Below.refl _ _) rfl⟩
              · have e4 : u 44 = _ := F.got 4 (by decide) 5 hn (by decide) (hd _ rfl ⟨4, .data⟩ (by simp) rfl)
                refine wpOp_by rfl rfl (fun K hK => ?_)
                go_simp
                exact hK _ _ ⟨_, by simp [upd, shS, e4], F.put 5 hst (by decide) (by decide) hn (Below.refl _ _) rfl⟩
              · have e3 : u 43 = _ := F.got 3 (by decide) 6 hn (by decide) (hd _ rfl ⟨3, .data⟩ (by simp) rfl)
                have e5 : u 45 = _ := F.got 5 (by decide) 6 hn (by decide) (hd _ rfl ⟨5, .data⟩ (by simp) rfl)
                refine wpOp_by rfl rfl (fun K hK => ?_)
                go_simp
                refine (HLf.out _ F.below).mono ?_
                rintro e w2 ⟨⟨v, rfl, hv⟩, hb1⟩
                obtain ⟨a9, c9, rfl⟩ := hv.slice
                exact hK _ _ ⟨_, by simp [upd, shS, e3, e5], F.put 6 hst (by decide) (by decide) hn hb1 ⟨a9, _, c9, rfl, NatIs.mono hv F.below.size⟩⟩
              · have e1 : u 41 = _ := F.got 1 (by decide) 7 hn (by decide) (hd _ rfl ⟨1, .data⟩ (by simp) rfl)
                obtain ⟨a9, l9, c9, e6, hv⟩ := F.got 6 (by decide) 7 hn (by decide) (hd _ rfl ⟨6, .data⟩ (by simp) rfl)
                have e6 : u 46 = _ := e6
                refine wpOp_by rfl rfl (fun K hK => ?_)
                go_simp
                exact hK _ _ ⟨_, by simp [upd, shS, e1, e6], F.put 7 hst (by decide) (by decide) hn (Below.refl _ _) ⟨a9, l9, c9, rfl, hv⟩⟩
              · obtain ⟨a9, l9, c9, e7, hv⟩ := F.got 7 (by decide) 8 hn (by decide) (hd _ rfl ⟨7, .data⟩ (by simp) rfl)
                have e7 : u 47 = _ := e7
                refine wpOp_by rfl rfl (fun K hK => ?_)
                go_simp
                refine (HTx.out _ _ hv).mono ?_
                rintro e w2 ⟨rfl, hb1⟩
                exact hK _ _ ⟨_, by simp [upd, shS, e7], F.put 8 hst (by decide) (by decide) hn hb1 rfl⟩
              · have e8 : u 48 = _ := F.got 8 (by decide) 9 hn (by decide) (hd _ rfl ⟨8, .data⟩ (by simp) rfl)
                refine wpOp_by rfl rfl (fun K hK => ?_)
                go_simp
                exact hK _ _ ⟨_, by simp [upd, shS, e8], F.put 9 hst (by decide) (by decide) hn (Below.refl _ _) rfl⟩
              · have e8 : u 48 = _ := F.got 8 (by decide) 10 hn (by decide) (hd _ rfl ⟨8, .data⟩ (by simp) rfl)
                refine wpOp_by rfl rfl (fun K hK => ?_)
                go_simp
                exact hK _ _ ⟨_, by simp [upd, shS, e8], F.put 10 hst (by decide) (by decide) hn (Below.refl _ _) rfl⟩
              · have e9 : u 49 = _ := F.got 9 (by decide) 11 hn (by decide) (hd _ rfl ⟨9, .data⟩ (by simp) rfl)
                refine wpOp_by rfl rfl (fun K hK => ?_)
                go_simp
                exact hK _ _ ⟨_, by simp [upd, shS, e9], F.put 11 hst (by decide) (by decide) hn (Below.refl _ _) rfl⟩
              · have e10 : u 50 = _ := F.got 10 (by decide) 12 hn (by decide) (hd _ rfl ⟨10, .data⟩ (by simp) rfl)
                refine wpOp_by rfl rfl (fun K hK => ?_)
                go_simp
                exact hK _ _ ⟨_, by simp [upd, shS, e10], F.put 12 hst (by decide) (by decide) hn (Below.refl _ _) rfl⟩
          · obtain ⟨k, rfl⟩ : ∃ k : Nat, n = -(k : Int) := ⟨(-n).toNat, by omega⟩
            have hkn : (-(-(k : Int))).toNat = k := by omega
            have hk0 : -(k : Int) < 0 := by omega
            have h5 : ¬ -(k : Int) ≥ 0 := by omega
            have h6 : -(-(k : Int)) = (k : Int) := by omega
            have q0 := Has.cell hG 0
            have q1 := Has.cell hG 1
            have q2 := Has.cell hG 2
            have q3 := Has.cell hG 3
            have hkb : k ≤ 200000 := by omega
            cases s1 with
            | false =>
              have hz0 : 0 ≤ z := by have := of_decide_eq_false HS.out.symm; omega
              have HV := Lib.hid (HIS.out.trans (congrArg told (shift_nat hz0 hk0)))
              rw [hkn] at HV
              have HR := Lib.hid (shr_any w.heap.size z.natAbs k _ wc hN (short_of HT.out) hkb)
              have HSH := Lib.hid (len_down (Nat.div_le_self z.natAbs (2 ^ k)) (short_of HT.out))
              clear hN hl hov hG
              go_wp2_with fail
              refine HR.out.mono ?_
              rintro e w2 ⟨⟨v, rfl, hv⟩, hb2⟩
              have HTx := Lib.hid ((text_any _ (z.natAbs / 2 ^ k) v false false false w2 hv HSH.out).mono fun e w' h => And.intro h.1.told h.2)
              rw [show sgI false (z.natAbs / 2 ^ k) = ((z.natAbs / 2 ^ k : Nat) : Int) from rfl, ← HV.out] at HTx
              obtain ⟨p, hp⟩ : ∃ p, shiftS a.data.toList (-(k : Int)) = p := ⟨_, rfl⟩
              rw [hp] at HTx
              have HP := Lib.hid hp
              unfold retS at HTx
              obtain ⟨a9, c9, rfl⟩ := hv.slice
              have HB2 := Lib.hid (hB.trans (hb2.mono (show w.heap.size ≤ wc.heap.size by omega)))
              clear hp hv hb2 HIS
              go_wp2_with fail
              refine HTx.out.mono ?_
              rintro e w3 ⟨rfl, hb3⟩
              have HB3 := Lib.hid (Below.behind HB2.out hb3)
              clear hb3
              go_wp2
              go_ret2
              exact ⟨by rw [HP.out]; rfl, HB3.out⟩
            | true =>
              have hz0 : z < 0 := of_decide_eq_true HS.out.symm
              have HV := Lib.hid (HIS.out.trans (congrArg told (shift_neg (z := z) hk0)))
              rw [hkn] at HV
              have HZ0 := Lib.hid hz0
              have HNt := Lib.hid (fun o => numNot_any w.heap.size z.natAbs (.slice a1 n1 c1) true false o wc hN (short_of HT.out))
              have HSZ := Lib.hid (show sgI true z.natAbs = z by unfold sgI; rw [if_pos rfl]; omega)
              have HLZ := Lib.hid (short_of HT.out)
              clear hN hl hov hG
              go_wp2_with fail
              refine (HNt.out _).mono ?_
              rintro e w2 ⟨⟨r, m, ⟨v, rfl, hv⟩, hsg⟩, hb2⟩
              rw [HSZ.out] at hsg
              have hm : m = (-z - 1).natAbs ∧ ((m : Nat) : Int) = -z - 1 ∧ m ≤ z.natAbs := by
                have h1 := congrArg Int.natAbs hsg
                rw [sg_abs] at h1
                have := HZ0.out
                omega
              have HM := Lib.hid hm
              clear hm hsg
              obtain ⟨a9, c9, rfl⟩ := hv.slice
              have hz2 := hb2.size
              have HB2 := Lib.hid (hB.trans (hb2.mono (show w.heap.size ≤ wc.heap.size by omega)))
              have HR := Lib.hid (fun o => shr_any wc.heap.size m k _ (w2.alloc o) (hv.alloc o) (len_down HM.out.2.2 HLZ.out) hkb)
              obtain ⟨lm, hlm⟩ : ∃ lm, (lims 4294967296 m).length = lm := ⟨_, rfl⟩
              rw [hlm] at HR hv ⊢
              clear hlm
              clear hv
              go_wp2_with fail
              refine (HR.out _).mono ?_
              rintro e w3 ⟨⟨v3, rfl, hv3⟩, hb3⟩
              have hz3 := hb3.size
              simp at hz3
              have HB3 := Lib.hid (Below.behind (HB2.out.alloc (by omega) (.cells #[.bool r, .slice a9 lm c9, .bool false, .bool false] 35)) hb3)
              have HN3 := Lib.hid (numNot_any _ (m / 2 ^ k) v3 false false false w3 hv3 (len_down (Nat.le_trans (Nat.div_le_self _ _) HM.out.2.2) HLZ.out))
              obtain ⟨a8, c8, rfl⟩ := hv3.slice
              clear hv3 hb3
              go_wp2_with fail
              refine HN3.out.mono ?_
              rintro e w4 ⟨⟨r4, m4, ⟨v4, rfl, hv4⟩, hsg4⟩, hb4⟩
              rw [show sgI false (m / 2 ^ k) = ((m / 2 ^ k : Nat) : Int) from rfl] at hsg4
              have hV4 : sgI r4 m4 = -((-z - 1) / ((2 ^ k : Nat) : Int)) - 1 := by rw [hsg4, Int.natCast_ediv, HM.out.2.1]
              have hm4 : m4 ≤ z.natAbs := by
                have h1 := congrArg Int.natAbs hsg4
                rw [sg_abs] at h1
                have h2 := Nat.div_le_self m (2 ^ k)
                have h3 := HM.out.2.1
                have h4 := HZ0.out
                generalize m / 2 ^ k = t at h1 h2
                omega
              have HTx := Lib.hid ((text_any _ m4 v4 r4 false false w4 hv4 (len_down hm4 HLZ.out)).mono fun e w' h => And.intro h.1.told h.2)
              rw [hV4, ← HV.out] at HTx
              obtain ⟨p, hp⟩ : ∃ p, shiftS a.data.toList (-(k : Int)) = p := ⟨_, rfl⟩
              rw [hp] at HTx
              have HP := Lib.hid hp
              unfold retS at HTx
              obtain ⟨a7, c7, rfl⟩ := hv4.slice
              have HB4 := Lib.hid (Below.behind HB3.out hb4)
              clear hp hv4 hb4 hV4 hsg4 hm4 HIS
              go_wp2_with fail
              refine HTx.out.mono ?_
              rintro e w5 ⟨rfl, hb5⟩
              have HB5 := Lib.hid (Below.behind HB4.out hb5)
              clear hb5
              go_wp2
              go_ret2
              exact ⟨by rw [HP.out]; rfl, HB5.out⟩
end Go.Proofs.YtmnibfdenmeepaaGreatDoor
