/- The texts RShift RBits ROf RegCl RBitw, one behind the other. -/
import Derived.Test.YtmnibfdenmeepaaGreatDoorMgBigBits14
import Derived.Laws.AppendOwnNone
/- Shift of the reference. -/
namespace Go.Proofs.YtmnibfdenmeepaaGreatDoor
open Go.RowKit Go.Shelf Big

theorem DecIs.len0 {w : World} {B l c n : Nat} {a : Option Addr} (h : DecIs w B (.slice a l c) n) : (l = 0 ∧ n = 0) ∨ (0 < l ∧ 0 < n) := by
  obtain ⟨_, _, hav⟩ := h.slice
  injection hav with _ hl _
  have := dec_len (n := n)
  omega
theorem set_other {listed : Array Bool} {i j : Nat} (h : j ≠ i) : (listed.setIfInBounds i true).getD j false = listed.getD j false := by
  simp only [Array.getD_eq_getD_getElem?]
  rw [Array.getElem?_setIfInBounds_ne (by omega)]
theorem set_self {listed : Array Bool} {i : Nat} (h : listed.getD i true = false) : (listed.setIfInBounds i true).getD i false = true := by
  have hlt : i < listed.size := by
    rcases Nat.lt_or_ge i listed.size with h1 | h1
    · exact h1
    · simp [Array.getD, Nat.not_lt.2 h1] at h
  simp [Array.getD_eq_getD_getElem?, hlt]
def rs13S : Nat → Nat := fun i => if i = 7 then 4 else if i = 8 then 5 else i + 36
def rs13Pr (W0 : World) (s1 : Bool) (a1 : Option Addr) (n1 c1 k : Nat) (Z : Int) (T C : Value) : Nat → Value → World → Prop
  | 0, v, _ => v = .agg #[.bool s1, .slice a1 n1 c1]
  | 1, v, _ => v = .int .i64 (k : Int)
  | 2, v, w => ∃ a l c, v = .agg #[.bool false, .slice a l c] ∧ DecIs w W0.heap.size (.slice a l c) (2 ^ k)
  | 3, v, w => NumV w W0.heap.size v Z
  | 4, v, _ => v = .tuple #[T, C]
  | 5, v, _ => v = T
  | 6, v, _ => v = C
  | 7, v, _ => v = T
  | _, v, _ => v = C
theorem rs13Pr_stays (W0 : World) (s1 : Bool) (a1 : Option Addr) (n1 c1 k : Nat) (Z : Int) (T C : Value) : Stays 9 (rs13Pr W0 s1 a1 n1 c1 k Z T C) := by
  intro i v w w' hi hb h
  match i, h with
  | 0, h => exact h
  | 1, h => exact h
  | 2, h => obtain ⟨a, l, c, e, hd⟩ := h; exact ⟨a, l, c, e, hd.kept hb⟩
  | 3, h => exact NumV.kept h hb
  | 4, h => exact h
  | 5, h => exact h
  | 6, h => exact h
  | 7, h => exact h
  | 8, h => exact h
  | n + 9, _ => omega
def rs14S : Nat → Nat := fun i => if i = 6 then 43 else if i = 7 then 50 else if i = 8 then 51 else if i = 9 then 8 else if i = 10 then 9 else i + 44
def NumV2 (w : World) (B : Nat) (v : Value) (Q R : Int) : Prop := ∃ v1 v2, v = .tuple #[v1, v2] ∧ NumV w B v1 Q ∧ NumV w B v2 R
def MadeAt (b : Nat) (w : World) (v : Value) : Prop := ∃ g, v = .pointer (some ⟨g, 0, none⟩) ∧ Has w g 45 #[.bool false, .slice none 0 0] ∧ b ≤ g
theorem NumV2.kept {w w' : World} {B : Nat} {v : Value} {Q R : Int} (h : NumV2 w B v Q R) (hb : Below w.heap.size w w') : NumV2 w' B v Q R := by
  obtain ⟨v1, v2, e, h1, h2⟩ := h
  exact ⟨v1, v2, e, h1.kept hb, h2.kept hb⟩
theorem MadeAt.kept {w w' : World} {b : Nat} {v : Value} (h : MadeAt b w v) (hb : Below w.heap.size w w') : MadeAt b w' v := by
  obtain ⟨g, e, hg, hl⟩ := h
  exact ⟨g, e, hg.below hb, hl⟩
def rs14Pr (W0 : World) (s1 : Bool) (a1 : Option Addr) (n1 c1 : Nat) (n : Int) (kk : Nat) (Q R : Int) : Nat → Value → World → Prop
  | 0, v, _ => v = .agg #[.bool s1, .slice a1 n1 c1]
  | 1, v, _ => v = .int .i64 n
  | 2, v, _ => v = .int .i64 (-n)
  | 3, v, _ => v = .int .i64 (kk : Int)
  | 4, v, w => ∃ a l c, v = .agg #[.bool false, .slice a l c] ∧ DecIs w W0.heap.size (.slice a l c) (2 ^ kk)
  | 5, v, w => NumV2 w W0.heap.size v Q R
  | 6, v, w => NumV2 w W0.heap.size v Q R
  | 7, v, w => NumV w W0.heap.size v Q
  | 8, v, w => NumV w W0.heap.size v R
  | _, v, w => MadeAt W0.heap.size w v
theorem rs14Pr_stays (W0 : World) (s1 : Bool) (a1 : Option Addr) (n1 c1 : Nat) (n : Int) (kk : Nat) (Q R : Int) : Stays 11 (rs14Pr W0 s1 a1 n1 c1 n kk Q R) := by
  intro i v w w' hi hb h
  match i, h with
  | 0, h => exact h
  | 1, h => exact h
  | 2, h => exact h
  | 3, h => exact h
  | 4, h => obtain ⟨a, l, c, e, hd⟩ := h; exact ⟨a, l, c, e, hd.kept hb⟩
  | 5, h => exact NumV2.kept h hb
  | 6, h => exact NumV2.kept h hb
  | 7, h => exact NumV.kept h hb
  | 8, h => exact NumV.kept h hb
  | 9, h => exact MadeAt.kept h hb
  | 10, h => exact MadeAt.kept h hb
  | n + 11, _ => omega
theorem pow_len2 (i : Nat) (h : i ≤ 4000) : (lims 10 (2 ^ i)).length ≤ 100000 :=
  Nat.le_trans ((lims_len_le ten_ge (2 ^ i) (i + 1)).2 (Nat.lt_of_le_of_lt (Nat.pow_le_pow_left (by decide) i) (Nat.pow_lt_pow_right (by decide) (Nat.lt_succ_self i)))) (by omega)
set_option maxRecDepth 100000 in
set_option maxHeartbeats 4000000 in
theorem rShift_any (a : ByteArray) (n : Int) (w : World) (ha : a.size ≤ k900) :
    Calls Tryz.prog 7 #[.string a, .int .i64 n] w fun e w' => e = retS (shiftS a.data.toList n) ∧ Below w.heap.size w w' := by
  have HN := Lib.hid (rOne_any a w (Nat.le_trans ha (by decide)))
  have HNZ := Lib.hid (fun B W s v z (h : NP B a.data.toList W s v) (hz : numOf a.data.toList = some z) => h.nz hz (by rw [← Lib.size_eq]; exact ha))
  clear ha
  go_enter Tryz.func7, Tryz.ntmps7
  go_wp2_with fail
  refine HN.out.mono ?_
  rintro e w1 ⟨⟨s1, a1, n1, c1, rfl, hnp⟩, hb1⟩
  have HB1 := Lib.hid (fun o => hb1.alloc hb1.size o)
  cases hO : numOf a.data.toList with
  | none =>
    rw [hO] at hnp
    have HR := Lib.hid (shiftS_none n hO)
    rw [show oneC (none : Option Int).isSome = 2 from rfl]
    clear hb1 hO hnp
    go_wp2
    go_ret2
    exact ⟨by rw [HR.out]; rfl, HB1.out _⟩
  | some z =>
    obtain ⟨⟨rfl, hd⟩, hl1⟩ := HNZ.out _ _ _ _ _ (hnp (by rw [hO]; rfl)) hO
    rw [show oneC (some z).isSome = 0 from rfl]
    have HO := Lib.hid hO
    clear hnp hO HNZ HN
    by_cases hfar : n < -100000 ∨ 100000 < n
    · have HR := Lib.hid (shiftS_far HO.out hfar)
      clear hd hl1 hb1
      by_cases h1 : n < -100000
      · go_wp2
        go_ret2
        exact ⟨by rw [HR.out]; rfl, HB1.out _⟩
      · have h2 : n > 100000 := by omega
        clear hfar
        go_wp2
        go_ret2
        exact ⟨by rw [HR.out]; rfl, HB1.out _⟩
    · have h1 : ¬ n < -100000 := by omega
      have h2 : ¬ n > 100000 := by omega
      have HIS := Lib.hid (shiftS_is (n := n) HO.out hfar)
      have HLO := Lib.hid (shiftS_long (n := n) HO.out hfar)
      obtain ⟨W1, hW1⟩ : ∃ W1, w1.alloc (.cells #[.bool (decide (z < 0)), .slice a1 n1 c1] 45) = W1 := ⟨_, rfl⟩
      have hG : Has W1 w1.heap.size 45 #[.bool (decide (z < 0)), .slice a1 n1 c1] := by rw [← hW1]; exact Has.new _ _ _
      have hD : DecIs W1 w.heap.size (.slice a1 n1 c1) z.natAbs := by rw [← hW1]; exact hd.alloc _
      have hB : Below w.heap.size w W1 := by rw [← hW1]; exact HB1.out _
      have hzW : w1.heap.size < W1.heap.size := by rw [← hW1]; simp
      have hz1 := hb1.size
      obtain ⟨s1, hs1⟩ : ∃ s1, decide (z < 0) = s1 := ⟨_, rfl⟩
      have HS := Lib.hid hs1
      rw [hs1] at hG hW1 ⊢
      have HW1 := Lib.hid hW1
      clear hfar hd hs1 hb1 HB1 hW1
      have HLg := Lib.hid (rLong_any w.heap.size z.natAbs s1 _ W1 hD)
      go_upto_region 6 with fail
      rw [HW1.out]
      clear HW1
      generalize w1.heap.size = g at *
      obtain ⟨q0, q1, q2, q3⟩ := cells_two hG
      cases ht : tooL z.natAbs with
      | true =>
        have HR := Lib.hid (HLO.out ht)
        rw [ht] at HLg
        clear hD ht HIS HLO
        go_wp2_with fail
        refine HLg.out.mono ?_
        rintro e w2 ⟨rfl, hb2⟩
        have HB2 := Lib.hid (hB.trans (hb2.mono (by omega)))
        clear hb2
        go_wp2
        go_ret2
        exact ⟨by rw [HR.out]; rfl, HB2.out⟩
      | false =>
        have HR := Lib.hid (HIS.out ht)
        have HT := Lib.hid ht
        rw [ht] at HLg
        have hl := hD.len0
        clear ht HIS HLO
        go_wp2_with fail
        refine HLg.out.mono ?_
        rintro e w2 ⟨rfl, hb2⟩
        have hB2 := hB.trans (hb2.mono (by omega))
        have hG2 := hG.below hb2
        have hD2 := hD.kept hb2
        have hz2 := hb2.size
        clear hb2 hG hD hB HLg q0 q1 q2 q3
        obtain ⟨q0, q1, q2, q3⟩ := cells_two hG2
        by_cases hz0 : z = 0
        · subst hz0
          have hl0 : n1 = 0 := by rcases hl with h | h <;> simp at h ⊢ <;> omega
          subst hl0
          have HR2 := Lib.hid (show told (shiftV 0 n) = ([48], 0) by rw [shift_zero]; decide +kernel)
          clear hl hD2
          go_wp2
          go_ret2
          exact ⟨by rw [HR.out, HR2.out]; rfl, hB2⟩
        · have hl0 : ¬ (n1 : Int) = 0 := by omega
          by_cases h4 : n > 4000
          · have HR2 := Lib.hid (shift_over (n := n) hz0 (by omega))
            clear hl hD2
            go_wp2
            go_ret2
            exact ⟨by rw [HR.out, HR2.out]; rfl, hB2⟩
          · have h4' : ¬ n > 4000 := h4
            by_cases hn0 : 0 ≤ n
            · obtain ⟨k, rfl⟩ : ∃ k : Nat, n = (k : Int) := ⟨n.toNat, by omega⟩
              have h5 : (k : Int) ≥ 0 := by omega
              go_wp2_with fail
              obtain ⟨f1, hf1⟩ : ∃ f1, (decide ((k : Int) < -100000) || decide (100000 < (k : Int))) = f1 := ⟨_, rfl⟩
              obtain ⟨f2, hf2⟩ : ∃ f2, decide ((k : Int) < -100000) = f2 := ⟨_, rfl⟩
              obtain ⟨f3, hf3⟩ : ∃ f3, decide (100000 < (k : Int)) = f3 := ⟨_, rfl⟩
              obtain ⟨f4, hf4⟩ : ∃ f4, ((n1 : Int) == 0) = f4 := ⟨_, rfl⟩
              obtain ⟨f5, hf5⟩ : ∃ f5, decide (4000 < (k : Int)) = f5 := ⟨_, rfl⟩
              
              rw [hf1, hf2, hf3, hf4, hf5]
              clear hf1 hf2 hf3 hf4 hf5
              have HTi := Lib.hid (fun W (hW : Below w2.heap.size w2 W) v (hv : DecIs W w2.heap.size v (2 ^ k)) => rTimes_any w.heap.size w2.heap.size z.natAbs (2 ^ k) _ v s1 false W (hD2.kept hW) hv (by omega) (Nat.le_trans (pow_len2 k (by omega)) (by decide)))
              have hzz : sgI s1 z.natAbs = z := by rw [← HS.out]; exact sgI_self z
              rw [hzz, show sgI false (2 ^ k) = ((2 ^ k : Nat) : Int) from rfl, shiftV_up] at HTi
              obtain ⟨Z, hZ⟩ : ∃ Z, shiftV z (k : Int) = Z := ⟨_, rfl⟩
              rw [hZ] at HTi HR
              have HTo := Lib.hid (fun v W (hv : DecIs W w2.heap.size v Z.natAbs) => rTold_none w2.heap.size Z.natAbs (decide (Z < 0)) v W hv)
              rw [toldS_sg, sgI_self, ← HR.out] at HTo
              obtain ⟨p, hp⟩ : ∃ p, shiftS a.data.toList (k : Int) = p := ⟨_, rfl⟩
              rw [hp] at HTo
              have HP := Lib.hid hp
              clear hp HR hZ
              unfold retS at HTo
              have hst := rs13Pr_stays w2 s1 a1 n1 c1 k Z (.string ⟨p.1.toArray⟩) (.int .i64 p.2)
              refine wp_region_inv (Inv := fun listed x' w' => ∃ u, x' = { tmps := #[.string a, .int .i64 (k : Int), undef, undef, u 4, u 5, .pointer (some ⟨g, 0, none⟩), .int .i64 0, undef, undef, .tuple #[.agg #[.bool s1, .slice a1 n1 c1], .int .i64 0], .string a, .tuple #[.agg #[.bool s1, .slice a1 n1 c1], .int .i64 0], .agg #[.bool s1, .slice a1 n1 c1], .int .i64 0, .int .i64 0, .bool false, undef, .int .i64 (k : Int), .bool f2, .bool f2, .int .i64 (k : Int), .bool f3, .bool f1, .agg #[.bool s1, .slice a1 n1 c1], .bool false, .pointer (some ⟨g, 1, none⟩), .slice a1 n1 c1, .int .i64 (n1 : Int), .bool f4, .bool f5, .int .i64 (k : Int), .bool f5, .bool true, .int .i64 (k : Int), .bool true, u 36, u 37, u 38, u 39, u 40, u 41, u 42, undef, undef, undef, undef, undef, undef, undef, undef, undef, undef, undef, undef, undef], defers := [] } ∧ RegRow w2 9 false rs13S (rs13Pr w2 s1 a1 n1 c1 k Z (.string ⟨p.1.toArray⟩) (.int .i64 p.2)) (fun _ _ => True) (fun i => listed.getD i false) u w') (by kernel_rfl) (ord_of (by kernel_rfl)) ?h0 ?step ?fin
              case h0 => exact ⟨fun i => if i = 4 then .string ⟨#[]⟩ else if i = 5 then .int .i64 0 else undef, rfl, RegRow.start (none_listed _)⟩
              case fin =>
                rintro listed x' w' ⟨u, rfl, F⟩ hall
                have e4 : u 4 = _ := F.each 7 (by decide) (fun h => by cases h) (hall 7 (by decide))
                have e5 : u 5 = _ := F.each 8 (by decide) (fun h => by cases h) (hall 8 (by decide))
                have hbF := hB2.trans (F.below.mono (show w.heap.size ≤ w2.heap.size by omega))
                rw [e4, e5]
                clear F hall e4 e5 hB2
                go_wp2
                go_ret2
                exact ⟨by rw [HP.out]; rfl, hbF⟩
              case step =>
                rintro listed x' w' i ⟨u, rfl, F⟩ hi hn hd
                have h11 : i = 0 ∨ i = 1 ∨ i = 2 ∨ i = 3 ∨ i = 4 ∨ i = 5 ∨ i = 6 ∨ i = 7 ∨ i = 8 := by
                  have : i < 9 := hi
                  omega
                obtain ⟨q0, q1, -⟩ := cells_two (hG2.below F.below)
                rcases h11 with rfl | rfl | rfl | rfl | rfl | rfl | rfl | rfl | rfl
                · refine wpOp_by rfl rfl (fun K hK => ?_)
                  go_simp
                  exact hK _ _ ⟨_, by simp [upd, rs13S], F.put 0 hst (by decide) (by decide) hn (Below.refl _ _) rfl⟩
                · refine wpOp_by rfl rfl (fun K hK => ?_)
                  go_simp
                  exact hK _ _ ⟨_, by simp [upd, rs13S], F.put 1 hst (by decide) (by decide) hn (Below.refl _ _) rfl⟩
                · have e1 : u 37 = _ := F.got 1 (by decide) 2 hn (by decide) (hd _ rfl ⟨1, .data⟩ (by simp) rfl)
                  refine wpOp_by rfl rfl (fun K hK => ?_)
                  go_simp
                  refine (rTwo_any k (by omega) _).mono ?_
                  rintro e w3 ⟨⟨v, rfl, hv⟩, hb1⟩
                  obtain ⟨a9, c9, rfl⟩ := hv.slice
                  exact hK _ _ ⟨_, by simp [upd, rs13S, e1], F.put 2 hst (by decide) (by decide) hn hb1 ⟨a9, _, c9, rfl, DecIs.mono hv F.below.size⟩⟩
                · have e0 : u 36 = _ := F.got 0 (by decide) 3 hn (by decide) (hd _ rfl ⟨0, .data⟩ (by simp) rfl)
                  obtain ⟨a9, l9, c9, e2, hv⟩ := F.got 2 (by decide) 3 hn (by decide) (hd _ rfl ⟨2, .data⟩ (by simp) rfl)
                  have e2 : u 38 = _ := e2
                  refine wpOp_by rfl rfl (fun K hK => ?_)
                  go_simp
                  refine (HTi.out _ F.below _ hv).mono ?_
                  rintro e w3 ⟨⟨v, rfl, hz⟩, hb1⟩
                  obtain ⟨a8, c8, rfl⟩ := hz.slice
                  exact hK _ _ ⟨_, by simp [upd, rs13S, e0, e2], F.put 3 hst (by decide) (by decide) hn hb1 ⟨a8, _, c8, rfl, DecIs.mono hz F.below.size⟩⟩
                · obtain ⟨a9, l9, c9, e3, hv⟩ := F.got 3 (by decide) 4 hn (by decide) (hd _ rfl ⟨3, .data⟩ (by simp) rfl)
                  have e3 : u 39 = _ := e3
                  refine wpOp_by rfl rfl (fun K hK => ?_)
                  go_simp
                  refine (HTo.out _ _ hv).mono ?_
                  rintro e w3 ⟨rfl, hb1⟩
                  exact hK _ _ ⟨_, by simp [upd, rs13S, e3], F.put 4 hst (by decide) (by decide) hn hb1 rfl⟩
                · have e4 : u 40 = _ := F.got 4 (by decide) 5 hn (by decide) (hd _ rfl ⟨4, .data⟩ (by simp) rfl)
                  refine wpOp_by rfl rfl (fun K hK => ?_)
                  go_simp
                  exact hK _ _ ⟨_, by simp [upd, rs13S, e4], F.put 5 hst (by decide) (by decide) hn (Below.refl _ _) rfl⟩
                · have e4 : u 40 = _ := F.got 4 (by decide) 6 hn (by decide) (hd _ rfl ⟨4, .data⟩ (by simp) rfl)
                  refine wpOp_by rfl rfl (fun K hK => ?_)
                  go_simp
                  exact hK _ _ ⟨_, by simp [upd, rs13S, e4], F.put 6 hst (by decide) (by decide) hn (Below.refl _ _) rfl⟩
                · have e5 : u 41 = _ := F.got 5 (by decide) 7 hn (by decide) (hd _ rfl ⟨5, .data⟩ (by simp) rfl)
                  refine wpOp_by rfl rfl (fun K hK => ?_)
                  go_simp
                  exact hK _ _ ⟨_, by simp [upd, rs13S, e5], F.put 7 hst (by decide) (by decide) hn (Below.refl _ _) rfl⟩
                · have e6 : u 42 = _ := F.got 6 (by decide) 8 hn (by decide) (hd _ rfl ⟨6, .data⟩ (by simp) rfl)
                  refine wpOp_by rfl rfl (fun K hK => ?_)
                  go_simp
                  exact hK _ _ ⟨_, by simp [upd, rs13S, e6], F.put 8 hst (by decide) (by decide) hn (Below.refl _ _) rfl⟩
            · have h5 : ¬ n ≥ 0 := by omega
              go_wp2_with fail
              obtain ⟨f1, hf1⟩ : ∃ f1, (decide (n < -100000) || decide (100000 < n)) = f1 := ⟨_, rfl⟩
              obtain ⟨f2, hf2⟩ : ∃ f2, decide (n < -100000) = f2 := ⟨_, rfl⟩
              obtain ⟨f3, hf3⟩ : ∃ f3, decide (100000 < n) = f3 := ⟨_, rfl⟩
              obtain ⟨f4, hf4⟩ : ∃ f4, ((n1 : Int) == 0) = f4 := ⟨_, rfl⟩
              obtain ⟨f5, hf5⟩ : ∃ f5, decide (4000 < n) = f5 := ⟨_, rfl⟩
              obtain ⟨f6, hf6⟩ : ∃ f6, decide (0 ≤ n) = f6 := ⟨_, rfl⟩
              rw [hf1, hf2, hf3, hf4, hf5, hf6]
              clear hf1 hf2 hf3 hf4 hf5 hf6
              obtain ⟨kk, hkk⟩ : ∃ kk : Nat, min (-n) 4000 = (kk : Int) := ⟨(min (-n) 4000).toNat, by omega⟩
              have hk4 : kk ≤ 4000 := by omega
              have hkt : (min (-n) 4000).toNat = kk := by omega
              have hsd := shift_down (n := n) HT.out (by omega)
              rw [hkt] at hsd
              have hwn : IntKind.i64.wrap (-n) = -n := by rw [IntKind.wrap_i64]; omega
              have hmn : min (-n) 4000 = (kk : Int) := hkk
              have HDv := Lib.hid (fun W (hW : Below w2.heap.size w2 W) v (hv : DecIs W w2.heap.size v (2 ^ kk)) => rDivided_any w.heap.size w2.heap.size z.natAbs (2 ^ kk) _ v s1 false W (hD2.kept hW) hv (Nat.pow_pos (by decide)) (by omega) (pow_len2 kk hk4))
              unfold DivdRes at HDv
              have hzz : sgI s1 z.natAbs = z := by rw [← HS.out]; exact sgI_self z
              have hQ : divQ s1 false z.natAbs (2 ^ kk) = shiftV z n := by rw [divQ_is _ _ _ (Nat.pow_pos (by decide)), hzz, hsd]
              rw [hQ] at HDv
              obtain ⟨Q, hQQ⟩ : ∃ Q, shiftV z n = Q := ⟨_, rfl⟩
              rw [hQQ] at HDv HR
              obtain ⟨R, hRR⟩ : ∃ R, sgI s1 z.natAbs - Q * sgI false (2 ^ kk) = R := ⟨_, rfl⟩
              rw [hRR] at HDv
              have HTo := Lib.hid (fun v W (hv : DecIs W w2.heap.size v Q.natAbs) => rTold_none w2.heap.size Q.natAbs (decide (Q < 0)) v W hv)
              rw [toldS_sg, sgI_self, ← HR.out] at HTo
              obtain ⟨p, hp⟩ : ∃ p, shiftS a.data.toList n = p := ⟨_, rfl⟩
              rw [hp] at HTo
              have HP := Lib.hid hp
              clear hp HR hQ hQQ hRR hsd hkk
              unfold retS at HTo
              have hst := rs14Pr_stays w2 s1 a1 n1 c1 n kk Q R
              obtain ⟨W0, hW0⟩ : ∃ W0, w2 = W0 := ⟨_, rfl⟩
              subst hW0
              refine wp_region_inv2 (Inv := fun listed x' w' => ∃ u, x' = { tmps := #[.string a, .int .i64 n, undef, undef, .string ⟨#[]⟩, .int .i64 0, .pointer (some ⟨g, 0, none⟩), .int .i64 0, u 8, u 9, .tuple #[.agg #[.bool s1, .slice a1 n1 c1], .int .i64 0], .string a, .tuple #[.agg #[.bool s1, .slice a1 n1 c1], .int .i64 0], .agg #[.bool s1, .slice a1 n1 c1], .int .i64 0, .int .i64 0, .bool false, undef, .int .i64 n, .bool f2, .bool f2, .int .i64 n, .bool f3, .bool f1, .agg #[.bool s1, .slice a1 n1 c1], .bool false, .pointer (some ⟨g, 1, none⟩), .slice a1 n1 c1, .int .i64 (n1 : Int), .bool f4, .bool f5, .int .i64 n, .bool f5, .bool f6, .int .i64 n, .bool f6, undef, undef, undef, undef, undef, undef, undef, u 43, u 44, u 45, u 46, u 47, u 48, u 49, u 50, u 51, undef, undef, undef, undef], defers := [] } ∧ RegTwo (Below w2.heap.size w2) 11 8 9 10 rs14S (rs14Pr w2 s1 a1 n1 c1 n kk Q R) (fun L u w' => ∃ g6 g7, TwoDone w2.heap.size w2.heap.size w2 8 12 8 9 43 51 Q R g6 g7 L u w') (fun i => listed.getD i false) u w') (by kernel_rfl) (ord_of2 (by kernel_rfl)) ?h0 ?step ?fin
              case h0 => exact ⟨fun _ => undef, rfl, RegTwo.start (none_listed _) (Below.refl _ _).drew⟩
              case fin =>
                rintro listed x' w' ⟨u, rfl, F⟩ hall
                obtain ⟨g6, g7, T⟩ := F.fin (hall 11 (by decide))
                have e6 := T.e6
                have e7 := T.e7
                obtain ⟨a9, l9, c9, h6, d6⟩ := T.h6
                have hbF := Lib.hid (hB2.trans (T.bel.mono (show w.heap.size ≤ w2.heap.size by omega)))
                have HTo2 := Lib.hid (HTo.out _ _ d6)
                obtain ⟨r0, r1, r2, r3⟩ := cells_two h6
                rw [e6, e7]
                clear F hall e6 e7 hB2 T d6 h6 q0 q1 q2 q3
                go_wp2_with fail
                refine HTo2.out.mono ?_
                rintro e w3 ⟨rfl, hb3⟩
                have HB3 := Lib.hid (Below.behind hbF.out hb3)
                clear hb3
                go_wp2
                go_ret2
                exact ⟨by rw [HP.out]; rfl, HB3.out⟩
              case step =>
                rintro listed x' w' i ⟨u, rfl, F⟩ hi hn hd
                have h11 : i = 0 ∨ i = 1 ∨ i = 2 ∨ i = 3 ∨ i = 4 ∨ i = 5 ∨ i = 6 ∨ i = 7 ∨ i = 8 ∨ i = 9 ∨ i = 10 ∨ i = 11 ∨ i = 12 := by
                  have : i < 13 := hi
                  omega
                clear q0 q1 q2 q3
                rcases h11 with rfl | rfl | rfl | rfl | rfl | rfl | rfl | rfl | rfl | rfl | rfl | rfl | rfl
                · have hln := F.not 0 (by decide) (by decide) hn
                  have hI := F.inv hln
                  obtain ⟨q0, q1, -⟩ := cells_two (hG2.below hI)
                  refine wpOp_by rfl rfl (fun K hK => ?_)
                  go_simp
                  exact hK _ _ ⟨_, by simp [upd, rs14S], F.put 0 hst (by decide) (by decide) (by decide) (by decide) (by decide) hln (Below.refl _ _) hI rfl ⟨fun h => absurd h (by decide), fun h => absurd h (by decide)⟩⟩
                · have hln := F.not 1 (by decide) (by decide) hn
                  have hI := F.inv hln
                  refine wpOp_by rfl rfl (fun K hK => ?_)
                  go_simp
                  exact hK _ _ ⟨_, by simp [upd, rs14S], F.put 1 hst (by decide) (by decide) (by decide) (by decide) (by decide) hln (Below.refl _ _) hI rfl ⟨fun h => absurd h (by decide), fun h => absurd h (by decide)⟩⟩
                · have hln := F.not 2 (by decide) (by decide) hn
                  have hI := F.inv hln
                  have e1 : u 45 = _ := F.each 1 (by decide) hln (hd _ rfl ⟨1, .data⟩ (by simp) rfl)
                  refine wpOp_by rfl rfl (fun K hK => ?_)
                  go_simp
                  exact hK _ _ ⟨_, by simp [upd, rs14S, e1], F.put 2 hst (by decide) (by decide) (by decide) (by decide) (by decide) hln (Below.refl _ _) hI rfl ⟨fun h => absurd h (by decide), fun h => absurd h (by decide)⟩⟩
                · have hln := F.not 3 (by decide) (by decide) hn
                  have hI := F.inv hln
                  have e2 : u 46 = _ := F.each 2 (by decide) hln (hd _ rfl ⟨2, .data⟩ (by simp) rfl)
                  refine wpOp_by rfl rfl (fun K hK => ?_)
                  go_simp
                  exact hK _ _ ⟨_, by simp [upd, rs14S, e2], F.put 3 hst (by decide) (by decide) (by decide) (by decide) (by decide) hln (Below.refl _ _) hI rfl ⟨fun h => absurd h (by decide), fun h => absurd h (by decide)⟩⟩
                · have hln := F.not 4 (by decide) (by decide) hn
                  have hI := F.inv hln
                  have e3 : u 47 = _ := F.each 3 (by decide) hln (hd _ rfl ⟨3, .data⟩ (by simp) rfl)
                  refine wpOp_by rfl rfl (fun K hK => ?_)
                  go_simp
                  refine (rTwo_any kk (by omega) _).mono ?_
                  rintro e w3 ⟨⟨v, rfl, hv⟩, hb1⟩
                  obtain ⟨a9, c9, rfl⟩ := hv.slice
                  exact hK _ _ ⟨_, by simp [upd, rs14S, e3], F.put 4 hst (by decide) (by decide) (by decide) (by decide) (by decide) hln hb1 (hI.trans (hb1.mono hI.size)) ⟨a9, _, c9, rfl, DecIs.mono hv hI.size⟩ ⟨fun h => absurd h (by decide), fun h => absurd h (by decide)⟩⟩
                · have hln := F.not 5 (by decide) (by decide) hn
                  have hI := F.inv hln
                  have e0 : u 44 = _ := F.each 0 (by decide) hln (hd _ rfl ⟨0, .data⟩ (by simp) rfl)
                  obtain ⟨a9, l9, c9, e4, hv⟩ := F.each 4 (by decide) hln (hd _ rfl ⟨4, .data⟩ (by simp) rfl)
                  have e4 : u 48 = _ := e4
                  refine wpOp_by rfl rfl (fun K hK => ?_)
                  go_simp
                  refine (HDv.out _ hI _ hv).mono ?_
                  rintro e w3 ⟨⟨v1, v2, rfl, hv1, hv2⟩, hb1⟩
                  obtain ⟨a8, c8, rfl⟩ := hv1.slice
                  obtain ⟨a7, c7, rfl⟩ := hv2.slice
                  exact hK _ _ ⟨_, by simp [upd, rs14S, e0, e4], F.put 5 hst (by decide) (by decide) (by decide) (by decide) (by decide) hln hb1 (hI.trans (hb1.mono hI.size)) ⟨_, _, rfl, ⟨a8, _, c8, rfl, DecIs.mono hv1 hI.size⟩, ⟨a7, _, c7, rfl, DecIs.mono hv2 hI.size⟩⟩ ⟨fun h => absurd h (by decide), fun h => absurd h (by decide)⟩⟩
                · have hln := F.not 6 (by decide) (by decide) hn
                  have hI := F.inv hln
                  obtain ⟨v1, v2, e5, h1, h2⟩ := F.each 5 (by decide) hln (hd _ rfl ⟨5, .data⟩ (by simp) rfl)
                  have e5 : u 49 = _ := e5
                  refine wpOp_by rfl rfl (fun K hK => ?_)
                  go_simp
                  exact hK _ _ ⟨_, by simp [upd, rs14S, e5], F.put 6 hst (by decide) (by decide) (by decide) (by decide) (by decide) hln (Below.refl _ _) hI ⟨v1, v2, rfl, h1, h2⟩ ⟨fun h => absurd h (by decide), fun h => absurd h (by decide)⟩⟩
                · have hln := F.not 7 (by decide) (by decide) hn
                  have hI := F.inv hln
                  obtain ⟨v1, v2, e6, h1, h2⟩ := F.each 6 (by decide) hln (hd _ rfl ⟨6, .data⟩ (by simp) rfl)
                  have e6 : u 43 = _ := e6
                  refine wpOp_by rfl rfl (fun K hK => ?_)
                  go_simp
                  exact hK _ _ ⟨_, by simp [upd, rs14S, e6], F.put 7 hst (by decide) (by decide) (by decide) (by decide) (by decide) hln (Below.refl _ _) hI h1 ⟨fun h => absurd h (by decide), fun h => absurd h (by decide)⟩⟩
                · cases hm : listed.getD 11 false with
                  | false =>
                    have hln := hm
                    have hI := F.inv hln
                    obtain ⟨v1, v2, e6, h1, h2⟩ := F.each 6 (by decide) hln (hd _ rfl ⟨6, .data⟩ (by simp) rfl)
                    have e6 : u 43 = _ := e6
                    refine wpOp_by rfl rfl (fun K hK => ?_)
                    go_simp
                    exact hK _ _ ⟨_, by simp [upd, rs14S, e6], F.put 8 hst (by decide) (by decide) (by decide) (by decide) (by decide) hln (Below.refl _ _) hI h2 ⟨fun h => absurd h (by decide), fun h => absurd h (by decide)⟩⟩
                  | true =>
                    obtain ⟨g6, g7, T⟩ := F.fin hm
                    obtain ⟨v1, v2, e6, T2⟩ := two_read (L' := fun j => (listed.setIfInBounds 8 true).getD j false) T (by decide) (by decide) (by decide) (set_other (by decide))
                    refine wpOp_by rfl rfl (fun K hK => ?_)
                    go_simp
                    exact hK _ _ ⟨_, by simp [upd, e6], F.post 8 (Or.inr rfl) (by decide) hm ⟨g6, g7, T2⟩⟩
                · have hln := F.not 9 (by decide) (by decide) hn
                  have hI := F.inv hln
                  refine wpOp_by rfl rfl (fun K hK => ?_)
                  go_simp
                  exact hK _ _ ⟨_, by simp [upd, rs14S], F.put 9 hst (by decide) (by decide) (by decide) (by decide) (by decide) hln ((Below.refl _ _).alloc (Nat.le_refl _) _) (hI.alloc hI.size _) ⟨_, rfl, Has.new _ _ _, hI.size⟩ ⟨fun _ hq => by obtain ⟨g', e', hg', _⟩ := F.each 10 (by decide) hln hq; have hlt := hg'.lt; have e' : u 9 = _ := e'; show _ ≠ _; intro h; rw [show u (rs14S 10) = _ from e'] at h; simp at h <;> omega, fun h => absurd h (by decide)⟩⟩
                · have hln := F.not 10 (by decide) (by decide) hn
                  have hI := F.inv hln
                  refine wpOp_by rfl rfl (fun K hK => ?_)
                  go_simp
                  exact hK _ _ ⟨_, by simp [upd, rs14S], F.put 10 hst (by decide) (by decide) (by decide) (by decide) (by decide) hln ((Below.refl _ _).alloc (Nat.le_refl _) _) (hI.alloc hI.size _) ⟨_, rfl, Has.new _ _ _, hI.size⟩ ⟨fun h => absurd h (by decide), fun _ hq => by obtain ⟨g', e', hg', _⟩ := F.each 9 (by decide) hln hq; have hlt := hg'.lt; have e' : u 8 = _ := e'; show _ ≠ _; intro h; rw [show u (rs14S 9) = _ from e'] at h; simp at h <;> omega⟩⟩
                · have hln := F.not 11 (by decide) (by decide) hn
                  have hI := F.inv hln
                  obtain ⟨v1, v2, e6, n1q, n2r⟩ := F.each 6 (by decide) hln (hd _ rfl ⟨6, .phase⟩ (by simp) rfl)
                  obtain ⟨aq, lq, cq, e7, dq⟩ := F.each 7 (by decide) hln (hd _ rfl ⟨7, .phase⟩ (by simp) rfl)
                  have e7 : u 50 = _ := e7
                  obtain ⟨g6, ep, hg6, hb6⟩ := F.each 9 (by decide) hln (hd _ rfl ⟨9, .phase⟩ (by simp) rfl)
                  have ep : u 8 = _ := ep
                  obtain ⟨g7, eq, hg7, hb7⟩ := F.each 10 (by decide) hln (hd _ rfl ⟨10, .phase⟩ (by simp) rfl)
                  have hne := F.ext hln (hd _ rfl ⟨9, .phase⟩ (by simp) rfl) (hd _ rfl ⟨10, .phase⟩ (by simp) rfl)
                  have e16 : listed.getD 8 false = true → NumV w' w2.heap.size (u 51) R := fun h => F.each 8 (by decide) hln h
                  obtain ⟨q0, q1, q2, q3⟩ := cells_two hg6
                  refine wpOp_by rfl rfl (fun K hK => ?_)
                  go_simp
                  refine hK _ _ ⟨u, by simp [ep, e7], F.last (by decide) hn (fun i hi hx => ?_) (fun hno hxx => ⟨g6, g7, two_first (L := fun j => listed.getD j false) ep eq hne hb6 hb7 ⟨v1, v2, e6, n2r⟩ e16 dq hg6 rfl hg7 hI hxx (hno 12 (by decide))⟩)⟩
                  have : i = 0 ∨ i = 1 ∨ i = 2 ∨ i = 3 ∨ i = 4 ∨ i = 5 ∨ i = 6 ∨ i = 7 ∨ i = 9 ∨ i = 10 := by omega
                  rcases this with rfl | rfl | rfl | rfl | rfl | rfl | rfl | rfl | rfl | rfl
                  · exact (hd _ rfl ⟨0, .phase⟩ (by simp) rfl)
                  · exact (hd _ rfl ⟨1, .phase⟩ (by simp) rfl)
                  · exact (hd _ rfl ⟨2, .phase⟩ (by simp) rfl)
                  · exact (hd _ rfl ⟨3, .phase⟩ (by simp) rfl)
                  · exact (hd _ rfl ⟨4, .phase⟩ (by simp) rfl)
                  · exact (hd _ rfl ⟨5, .phase⟩ (by simp) rfl)
                  · exact (hd _ rfl ⟨6, .phase⟩ (by simp) rfl)
                  · exact (hd _ rfl ⟨7, .phase⟩ (by simp) rfl)
                  · exact (hd _ rfl ⟨9, .phase⟩ (by simp) rfl)
                  · exact (hd _ rfl ⟨10, .phase⟩ (by simp) rfl)
                · have hm := (hd _ rfl ⟨11, .phase⟩ (by simp) rfl)
                  obtain ⟨g6, g7, T⟩ := F.fin hm
                  obtain ⟨a9, l9, c9, e16, hg7, T2⟩ := two_second (L' := fun j => (listed.setIfInBounds 12 true).getD j false) T (hd _ rfl ⟨8, .phase⟩ (by simp) rfl) (false_of hn) (set_self hn)
                  have e7 : u 9 = _ := T.e7
                  obtain ⟨q0, q1, q2, q3⟩ := cells_two hg7
                  refine wpOp_by rfl rfl (fun K hK => ?_)
                  go_simp
                  exact hK _ _ ⟨u, by simp [e7, e16], F.post 12 (Or.inl (by decide)) (by decide) hm ⟨g6, g7, T2⟩⟩
end Go.Proofs.YtmnibfdenmeepaaGreatDoor
/- bits of the reference. -/
namespace Go.Proofs.YtmnibfdenmeepaaGreatDoor
open Go.RowKit Go.Shelf Big

theorem Tryz.info4 : (Tryz.prog.info? 4).map (fun i => (i.zero, i.size, i.bytes)) = some (some (.bool false), 1, 1) := by kernel_rfl
/-- A value is the slice of truths. -/
def BoolsIs (w : World) (B : Nat) (v : Value) (l : List Bool) : Prop := w.ownsRow B 4 1 v l.length (l.map Value.bool)
theorem BoolsIs.kept {w w' : World} {B : Nat} {v : Value} {l : List Bool} (h : BoolsIs w B v l) (hb : Below w.heap.size w w') : BoolsIs w' B v l := own_below h hb
theorem BoolsIs.slice {w : World} {B : Nat} {v : Value} {l : List Bool} (h : BoolsIs w B v l) : ∃ ao c, v = .slice ao l.length c := slice_of_own h
theorem BoolsIs.mono {w : World} {B B' : Nat} {v : Value} {l : List Bool} (h : BoolsIs w B v l) (hb : B' ≤ B) : BoolsIs w B' v l := by
  refine ⟨h.1, ?_⟩
  rcases h.2 with hn | ⟨g, cap, cur, e, h1, h3⟩
  · exact .inl hn
  · exact .inr ⟨g, cap, cur, e, Nat.le_trans hb h1, h3⟩
theorem half_abs (y : Int) : (y / 2).natAbs ≤ y.natAbs := by omega
theorem len_abs {x y K : Nat} (h : x ≤ y) (hb : (lims 10 y).length ≤ K) : (lims 10 x).length ≤ K :=
  (lims_len_le ten_ge x K).2 (Nat.lt_of_le_of_lt h ((lims_len_le ten_ge y K).1 hb))
def btS : Nat → Nat := fun i => if i = 3 then 11 else if i = 4 then 15 else if i = 5 then 16 else if i = 6 then 6 else if i = 7 then 7 else i + 12
def btPr (W0 : World) (s1 : Bool) (a1 : Option Addr) (n1 c1 : Nat) (Q R : Int) : Nat → Value → World → Prop
  | 0, v, _ => v = .agg #[.bool s1, .slice a1 n1 c1]
  | 1, v, w => ∃ a l c, v = .agg #[.bool false, .slice a l c] ∧ DecIs w W0.heap.size (.slice a l c) 2
  | 2, v, w => NumV2 w W0.heap.size v Q R
  | 3, v, w => NumV2 w W0.heap.size v Q R
  | 4, v, w => NumV w W0.heap.size v Q
  | 5, v, w => NumV w W0.heap.size v R
  | _, v, w => MadeAt W0.heap.size w v
theorem btPr_stays (W0 : World) (s1 : Bool) (a1 : Option Addr) (n1 c1 : Nat) (Q R : Int) : Stays 8 (btPr W0 s1 a1 n1 c1 Q R) := by
  intro i v w w' hi hb h
  match i, h with
  | 0, h => exact h
  | 1, h => obtain ⟨a, l, c, e, hd⟩ := h; exact ⟨a, l, c, e, hd.kept hb⟩
  | 2, h => exact NumV2.kept h hb
  | 3, h => exact NumV2.kept h hb
  | 4, h => exact NumV.kept h hb
  | 5, h => exact NumV.kept h hb
  | 6, h => exact MadeAt.kept h hb
  | 7, h => exact MadeAt.kept h hb
  | n + 8, _ => omega
theorem BoolsIs.notNum {w : World} {B g : Nat} {v : Value} {l : List Bool} {cs : Array Value} (h : BoolsIs w B v l) (hx : Has w g 45 cs) : ∀ b, v.ownBlock = some b → b ≠ g := by
  intro b hb e
  subst e
  rcases h.2 with ⟨rfl, _⟩ | ⟨g', cap, cur, rfl, h2, h3, _⟩
  · cases hb
  · have : g' = b := by
      have h : some g' = some b := hb
      injection h
    subst this
    have h4 : some (Obj.cells cur 4) = some (Obj.cells cs 45) := h3.symm.trans hx
    injection h4 with h5
    injection h5 with _ h6
    exact absurd h6 (by decide)
theorem BoolsIs.notDec {w : World} {B B' n : Nat} {v u : Value} {l : List Bool} (h : BoolsIs w B v l) (hx : DecIs w B' u n) : ∀ b, v.ownBlock = some b → u.ownBlock ≠ some b := by
  intro b hb e
  rcases h.2 with ⟨rfl, _⟩ | ⟨g', cap, cur, rfl, h2, h3, _⟩
  · cases hb
  · have e1 : g' = b := by
      have h : some g' = some b := hb
      injection h
    subst e1
    rcases hx.2 with ⟨rfl, _⟩ | ⟨g2, cap2, cur2, rfl, k2, k3, _⟩
    · cases e
    · have e2 : g2 = g' := by
        have h : some g2 = some g' := e
        injection h
      subst e2
      have h4 : some (Obj.cells cur 4) = some (Obj.cells cur2 3) := h3.symm.trans k3
      injection h4 with h5
      injection h5 with _ h6
      exact absurd h6 (by decide)
theorem BoolsIs.put2 {w : World} {B g : Nat} {v x y : Value} {l : List Bool} {cs : Array Value} (h : BoolsIs w B v l) (hx : Has w g 45 cs) : BoolsIs ((w.setCell ⟨g, 0, none⟩ x).setCell ⟨g, 1, none⟩ y) B v l := by
  have hk : ∀ {w : World} (i : Nat) (u : Value), BoolsIs w B v l → (∀ b, v.ownBlock = some b → b ≠ g) → BoolsIs (w.setCell ⟨g, i, none⟩ u) B v l := fun i u h hn =>
    World.ownsRow.kept h (grown_put (grownBy_refl _ (some g)) i u) (by
      rcases hv : v.ownBlock with _ | k
      · exact .inl rfl
      · refine .inr ?_
        intro e
        cases e
        exact hn _ hv rfl)
  exact hk 1 y (hk 0 x h (h.notNum hx)) (h.notNum hx)
theorem bits_grown {w w' w5 : World} {B b g6 gx B6 n6 : Nat} {av : Option Addr} {cv : Nat} {l : List Bool} {c6 cx : Array Value} {v6 o : Value} {r : Option Nat} (hrow : BoolsIs w' B (.slice av l.length cv) l) (h6 : Has w' g6 45 c6) (hx : Has w' gx 45 cx)
    (d6 : DecIs w' B6 v6 n6) (hb : Below b w w') (hbB : b ≤ B) (hbw : b ≤ w'.heap.size) (hg : (w'.alloc (.cells #[o] 4)).grownBy w5 r) (hr : r = (Value.slice av l.length cv).ownBlock) :
    Has w5 g6 45 c6 ∧ Has w5 gx 45 cx ∧ DecIs w5 B6 v6 n6 ∧ Below b w w5 := by
  subst hr
  have hrow2 : BoolsIs (w'.alloc (.cells #[o] 4)) B (.slice av l.length cv) l := World.ownsRow.alloc hrow _
  refine ⟨(hg.block g6 (h6.alloc _).lt (fun e => hrow2.notNum (h6.alloc _) _ e.symm rfl)).trans (h6.alloc _), (hg.block gx (hx.alloc _).lt (fun e => hrow2.notNum (hx.alloc _) _ e.symm rfl)).trans (hx.alloc _), ?_, (hb.alloc hbw _).grown hg (by simp; omega) (fun q hq => ?_)⟩
  · refine World.ownsRow.kept (d6.alloc _) hg ?_
    rcases hv6 : v6.ownBlock with _ | k6
    · exact .inl rfl
    · refine .inr ?_
      intro e
      exact hrow2.notDec (d6.alloc _) _ e.symm hv6
  · have := (World.ownsRow.lt hrow2 q hq).1
    omega
set_option maxRecDepth 100000 in
set_option maxHeartbeats 4000000 in
theorem rBits_any (B c : Nat) (z : Int) (v : Value) (w : World) (hd : DecIs w B v z.natAbs) (hl : (lims 10 z.natAbs).length ≤ 1100) (hc : c ≤ 10000) :
    Calls Tryz.prog 56 #[.agg #[.bool (decide (z < 0)), v], .int .i64 (c : Int)] w fun e w' => (∃ v', e = .returned v' ∧ BoolsIs w' w.heap.size v' (bitsZ z c)) ∧ Below w.heap.size w w' := by
  obtain ⟨i0, hi, hz0, hz1, hz2⟩ := info_parts Tryz.info4
  obtain ⟨a1, c1, rfl⟩ := hd.slice
  obtain ⟨n1, hn1⟩ : ∃ n1, (lims 10 z.natAbs).length = n1 := ⟨_, rfl⟩
  rw [hn1] at hd hl ⊢
  obtain ⟨s1, hs1⟩ : ∃ s1, decide (z < 0) = s1 := ⟨_, rfl⟩
  have HL := Lib.hid hn1
  have HS := Lib.hid hs1
  rw [hs1]
  clear hn1 hs1
  obtain ⟨W0, hW0⟩ : ∃ W0, w.alloc (.cells #[.bool s1, .slice a1 n1 c1] 45) = W0 := ⟨_, rfl⟩
  have hG : NumAt W0 0 w.heap.size z := ⟨a1, n1, c1, by rw [← hW0, HS.out]; exact Has.new _ _ _, DecIs.mono (by rw [← hW0]; exact hd.alloc _) (Nat.zero_le _)⟩
  have hB0 : Below w.heap.size w W0 := by rw [← hW0]; exact (Below.refl _ _).alloc (Nat.le_refl _) _
  have hz00 : W0.heap.size = w.heap.size + 1 := by rw [← hW0]; simp
  have HW0 := Lib.hid hW0
  clear hd hW0
  go_enter Tryz.func56, Tryz.ntmps56
  go_upto_region 1 with fail
  rw [HW0.out]
  clear HW0
  go_wp2
  go_loopg [5, 9] c (fun gh v5 v9 wx => ∃ (i : Nat) (y : Int) (l : List Bool), v9 = .int .i64 (i : Int) ∧ i + gh = c ∧ NumAt wx 0 w.heap.size y ∧ l.length = i ∧ BoolsIs wx W0.heap.size v5 l ∧ l ++ bitsZ y gh = bitsZ z c ∧ y.natAbs ≤ z.natAbs ∧ Below w.heap.size w wx)
  case atStart => exact ⟨0, z, [], rfl, by omega, hG, rfl, World.ownsRow_nil _ _ _ _, rfl, Nat.le_refl _, hB0⟩
  case round =>
    obtain ⟨i, y, l, rfl, hi9, ⟨a, n, cc, hA, hD⟩, rfl, hrow, heq, hyz, hB⟩ := hrel
    obtain ⟨av, cv, rfl⟩ := hrow.slice
    cases gk with
    | zero =>
      obtain rfl : l.length = c := by omega
      have HR := Lib.hid (show l = bitsZ z l.length by rw [← heq]; exact (List.append_nil _).symm)
      clear heq hD hA hG hB0
      go_wp2
      go_ret
      exact ⟨⟨_, rfl, by rw [← HR.out]; exact hrow.mono (by omega)⟩, hB⟩
    | succ gh =>
      have hlt : (l.length : Int) < (c : Int) := by omega
      obtain ⟨q0, q1, q2, q3⟩ := cells_two hA
      go_wp2_with fail
      have HEQ := Lib.hid heq
      have HDv := Lib.hid (fun W (hW : Below wr.heap.size wr W) v (hv : DecIs W wr.heap.size v 2) => rDivided_any 0 wr.heap.size y.natAbs 2 _ v (decide (y < 0)) false W (hD.kept hW) hv (by decide) (Nat.le_trans (len_abs hyz (by rw [HL.out]; exact hl)) (by decide)) (Nat.le_trans ((lims_len_le ten_ge 2 1).2 (by decide)) (by decide)))
      unfold DivdRes at HDv
      rw [divQ_rest _ _ _ (by decide), divQ_is _ _ _ (by decide), sgI_self, show ((2 : Nat) : Int) = 2 from rfl] at HDv
      have hst := btPr_stays wr (decide (y < 0)) a n cc (y / 2) (y % 2)
      obtain ⟨Q, hQ⟩ : ∃ Q, y / 2 = Q := ⟨_, rfl⟩
      obtain ⟨R, hR⟩ : ∃ R, y % 2 = R := ⟨_, rfl⟩
      rw [hQ, hR] at HDv hst
      have HQ := Lib.hid hQ
      have HR := Lib.hid hR
      have HHL := Lib.hid HL.out
      clear hQ hR heq hlt
      refine wp_region_inv2 (Inv := fun listed x' w' => ∃ u, x' = { tmps := #[.agg #[.bool s1, .slice a1 n1 c1], .int .i64 (c : Int), .pointer (some ⟨w.heap.size, 0, none⟩), undef, .slice none 0 0, .slice av l.length cv, u 6, u 7, .int .i64 (c : Int), .int .i64 (l.length : Int), .bool true, u 11, u 12, u 13, u 14, u 15, u 16, u17, u18, u19, u20, u21, u22, u23, u24, u25, undef], defers := [] } ∧ RegTwo (Below wr.heap.size wr) 8 5 6 7 btS (btPr wr (decide (y < 0)) a n cc Q R) (fun L u w' => ∃ g6 g7, TwoDone wr.heap.size wr.heap.size wr 5 9 6 7 11 16 Q R g6 g7 L u w') (fun i => listed.getD i false) u w') (by kernel_rfl) (ord_of2 (by kernel_rfl)) ?h0 ?step ?fin
      case h0 => exact ⟨fun i => if i = 6 then u6 else if i = 7 then u7 else if i = 11 then u11 else if i = 12 then u12 else if i = 13 then u13 else if i = 14 then u14 else if i = 15 then u15 else u16, rfl, RegTwo.start (none_listed _) (Below.refl _ _).drew⟩
      case fin =>
        rintro listed x' w' ⟨u, rfl, F⟩ hall
        obtain ⟨g6, g7, T⟩ := F.fin (hall 8 (by decide))
        have e6 := T.e6
        have e7 := T.e7
        obtain ⟨a6, l6, c6, h6, d6⟩ := T.h6
        obtain ⟨a7, l7, c7, h7, d7⟩ := T.h7 (hall 9 (by decide))
        have HRow := Lib.hid (hrow.kept T.bel)
        have hA2 := hA.below T.bel
        have hB2 := hB.trans (T.bel.mono hB.size)
        have hlen7 := d7.len0
        have hzw := T.bel.size
        have hltA := hA2.lt
        have HGr := Lib.hid (fun w5 (o : Value) (b : Option Nat) (hg : (w'.alloc (.cells #[o] 4)).grownBy w5 b) (hb : b = (Value.slice av l.length cv).ownBlock) => bits_grown HRow.out h6 hA2 d6 hB2 (show w.heap.size ≤ W0.heap.size by omega) hB2.size hg hb)
        obtain ⟨r0, r1, r2, r3⟩ := cells_two h7
        rw [e6, e7]
        clear F hall e6 e7 T h7 d7 q0 q1 q2 q3 hrow hA hD hst hB
        rcases hlen7 with ⟨h70, hR0⟩ | ⟨h70, hR0⟩
        · subst h70
          have hRz : decide (y % 2 ≠ 0) = false := by rw [HR.out, decide_eq_false_iff_not]; omega
          have HRZ := Lib.hid hRz
          clear hR0 hRz
          skip
          go_wp2_with (at_builtin; refine wpList_append_own _ rfl _ _ 85 rfl W0.heap.size 4 i0 (.bool false) 1 1 Tryz.underlying85 hi hz0 hz1 hz2 rfl (by decide) (.slice av l.length cv) l.length _ rfl (HRow.out.alloc _) ⟨w'.heap.size, 0, none⟩ 1 1 [.bool false] rfl rfl (cell_one_new _ _ _) (by intro u hu; simp at hu; subst hu; rfl) (by unfold maxLen; omega) (by omega) (by simp; omega) ?_; intro v' w5 hown5 hgrow5 _; obtain ⟨r5, s5, t5, g6s⟩ := HGr.out _ _ _ hgrow5 rfl; obtain ⟨p0, p1, p2, p3⟩ := cells_two r5; obtain ⟨x0, x1, x2, x3⟩ := cells_two s5; obtain ⟨ar5, cr5, rfl⟩ := slice_of_own hown5)
          go_roundg gh
          case measure => omega
          case rel =>
            have hw5 : BoolsIs _ _ _ _ := BoolsIs.put2 (g := w.heap.size) (x := .bool (decide (Q < 0))) (y := .slice a6 l6 c6) (show BoolsIs w5 W0.heap.size (.slice ar5 (l.length + 1) cr5) (l ++ [false]) by unfold BoolsIs; rw [List.length_append, List.length_singleton, List.map_append]; exact hown5) s5
            refine ⟨l.length + 1, Q, l ++ [false], by go_num, by omega, ⟨a6, l6, c6, s5.put2 _ _, DecIs.mono (t5.far2 s5 _ _) (Nat.zero_le _)⟩, by rw [List.length_append, List.length_singleton], hw5, ?_, (by rw [← HQ.out]; exact Nat.le_trans (half_abs y) hyz), Below.two g6s (Nat.le_refl _) _ _⟩
            rw [← HEQ.out, List.append_assoc]
            rw [← HQ.out]
            show l ++ (false :: bitsZ (y / 2) gh) = l ++ (decide (y % 2 ≠ 0) :: bitsZ (y / 2) gh)
            rw [HRZ.out]
        · have h7I : (l7 : Int) > 0 := by omega
          have h7J : decide (0 < l7) = true := by simpa using h70
          have h7K : decide ((0 : Int) < (l7 : Int)) = true := by simpa using h70
          have hRz : decide (y % 2 ≠ 0) = true := by rw [HR.out, decide_eq_true_eq]; omega
          have HRZ := Lib.hid hRz
          clear hR0 hRz h70
          skip
          go_wp2_with (at_builtin; refine wpList_append_own _ rfl _ _ 85 rfl W0.heap.size 4 i0 (.bool false) 1 1 Tryz.underlying85 hi hz0 hz1 hz2 rfl (by decide) (.slice av l.length cv) l.length _ rfl (HRow.out.alloc _) ⟨w'.heap.size, 0, none⟩ 1 1 [.bool true] rfl rfl (cell_one_new _ _ _) (by intro u hu; simp at hu; subst hu; rfl) (by unfold maxLen; omega) (by omega) (by simp; omega) ?_; intro v' w5 hown5 hgrow5 _; obtain ⟨r5, s5, t5, g6s⟩ := HGr.out _ _ _ hgrow5 rfl; obtain ⟨p0, p1, p2, p3⟩ := cells_two r5; obtain ⟨x0, x1, x2, x3⟩ := cells_two s5; obtain ⟨ar5, cr5, rfl⟩ := slice_of_own hown5)
          go_roundg gh
          case measure => omega
          case rel =>
            have hw5 : BoolsIs _ _ _ _ := BoolsIs.put2 (g := w.heap.size) (x := .bool (decide (Q < 0))) (y := .slice a6 l6 c6) (show BoolsIs w5 W0.heap.size (.slice ar5 (l.length + 1) cr5) (l ++ [true]) by unfold BoolsIs; rw [List.length_append, List.length_singleton, List.map_append]; exact hown5) s5
            refine ⟨l.length + 1, Q, l ++ [true], by go_num, by omega, ⟨a6, l6, c6, s5.put2 _ _, DecIs.mono (t5.far2 s5 _ _) (Nat.zero_le _)⟩, by rw [List.length_append, List.length_singleton], hw5, ?_, (by rw [← HQ.out]; exact Nat.le_trans (half_abs y) hyz), Below.two g6s (Nat.le_refl _) _ _⟩
            rw [← HEQ.out, List.append_assoc]
            rw [← HQ.out]
            show l ++ (true :: bitsZ (y / 2) gh) = l ++ (decide (y % 2 ≠ 0) :: bitsZ (y / 2) gh)
            rw [HRZ.out]
      case step =>
        rintro listed x' w' i9 ⟨u, rfl, F⟩ hi8 hn hd
        have h11 : i9 = 0 ∨ i9 = 1 ∨ i9 = 2 ∨ i9 = 3 ∨ i9 = 4 ∨ i9 = 5 ∨ i9 = 6 ∨ i9 = 7 ∨ i9 = 8 ∨ i9 = 9 := by
          have : i9 < 10 := hi8
          omega
        clear q0 q1 q2 q3
        rcases h11 with rfl | rfl | rfl | rfl | rfl | rfl | rfl | rfl | rfl | rfl
        · have hln := F.not 0 (by decide) (by decide) hn
          have hI := F.inv hln
          obtain ⟨q0, q1, -⟩ := cells_two (hA.below hI)
          refine wpOp_by rfl rfl (fun K hK => ?_)
          go_simp
          exact hK _ _ ⟨_, by simp [upd, btS], F.put 0 hst (by decide) (by decide) (by decide) (by decide) (by decide) hln (Below.refl _ _) hI rfl ⟨fun h => absurd h (by decide), fun h => absurd h (by decide)⟩⟩
        · have hln := F.not 1 (by decide) (by decide) hn
          have hI := F.inv hln
          refine wpOp_by rfl rfl (fun K hK => ?_)
          go_simp
          refine (rWhole_any 2 (by decide) (by decide) _).mono ?_
          rintro e w3 ⟨⟨v, rfl, hv⟩, hb1⟩
          obtain ⟨a9, c9, rfl⟩ := hv.slice
          exact hK _ _ ⟨_, by simp [upd, btS], F.put 1 hst (by decide) (by decide) (by decide) (by decide) (by decide) hln hb1 (hI.trans (hb1.mono hI.size)) ⟨a9, _, c9, rfl, DecIs.mono hv hI.size⟩ ⟨fun h => absurd h (by decide), fun h => absurd h (by decide)⟩⟩
        · have hln := F.not 2 (by decide) (by decide) hn
          have hI := F.inv hln
          have e0 : u 12 = _ := F.each 0 (by decide) hln (hd _ rfl ⟨0, .data⟩ (by simp) rfl)
          obtain ⟨a9, l9, c9, e1, hv⟩ := F.each 1 (by decide) hln (hd _ rfl ⟨1, .data⟩ (by simp) rfl)
          have e1 : u 13 = _ := e1
          refine wpOp_by rfl rfl (fun K hK => ?_)
          go_simp
          refine (HDv.out _ hI _ hv).mono ?_
          rintro e w3 ⟨⟨v1, v2, rfl, hv1, hv2⟩, hb1⟩
          obtain ⟨a8, c8, rfl⟩ := hv1.slice
          obtain ⟨a7, c7, rfl⟩ := hv2.slice
          exact hK _ _ ⟨_, by simp [upd, btS, e0, e1], F.put 2 hst (by decide) (by decide) (by decide) (by decide) (by decide) hln hb1 (hI.trans (hb1.mono hI.size)) ⟨_, _, rfl, ⟨a8, _, c8, rfl, DecIs.mono hv1 hI.size⟩, ⟨a7, _, c7, rfl, DecIs.mono hv2 hI.size⟩⟩ ⟨fun h => absurd h (by decide), fun h => absurd h (by decide)⟩⟩
        · have hln := F.not 3 (by decide) (by decide) hn
          have hI := F.inv hln
          obtain ⟨v1, v2, e2, h1, h2⟩ := F.each 2 (by decide) hln (hd _ rfl ⟨2, .data⟩ (by simp) rfl)
          have e2 : u 14 = _ := e2
          refine wpOp_by rfl rfl (fun K hK => ?_)
          go_simp
          exact hK _ _ ⟨_, by simp [upd, btS, e2], F.put 3 hst (by decide) (by decide) (by decide) (by decide) (by decide) hln (Below.refl _ _) hI ⟨v1, v2, rfl, h1, h2⟩ ⟨fun h => absurd h (by decide), fun h => absurd h (by decide)⟩⟩
        · have hln := F.not 4 (by decide) (by decide) hn
          have hI := F.inv hln
          obtain ⟨v1, v2, e3, h1, h2⟩ := F.each 3 (by decide) hln (hd _ rfl ⟨3, .data⟩ (by simp) rfl)
          have e3 : u 11 = _ := e3
          refine wpOp_by rfl rfl (fun K hK => ?_)
          go_simp
          exact hK _ _ ⟨_, by simp [upd, btS, e3], F.put 4 hst (by decide) (by decide) (by decide) (by decide) (by decide) hln (Below.refl _ _) hI h1 ⟨fun h => absurd h (by decide), fun h => absurd h (by decide)⟩⟩
        · cases hm : listed.getD 8 false with
          | false =>
            have hln := hm
            have hI := F.inv hln
            obtain ⟨v1, v2, e3, h1, h2⟩ := F.each 3 (by decide) hln (hd _ rfl ⟨3, .data⟩ (by simp) rfl)
            have e3 : u 11 = _ := e3
            refine wpOp_by rfl rfl (fun K hK => ?_)
            go_simp
            exact hK _ _ ⟨_, by simp [upd, btS, e3], F.put 5 hst (by decide) (by decide) (by decide) (by decide) (by decide) hln (Below.refl _ _) hI h2 ⟨fun h => absurd h (by decide), fun h => absurd h (by decide)⟩⟩
          | true =>
            obtain ⟨g6, g7, T⟩ := F.fin hm
            obtain ⟨v1, v2, e3, T2⟩ := two_read (L' := fun j => (listed.setIfInBounds 5 true).getD j false) T (by decide) (by decide) (by decide) (set_other (by decide))
            refine wpOp_by rfl rfl (fun K hK => ?_)
            go_simp
            exact hK _ _ ⟨_, by simp [upd, e3], F.post 5 (Or.inr rfl) (by decide) hm ⟨g6, g7, T2⟩⟩
        · have hln := F.not 6 (by decide) (by decide) hn
          have hI := F.inv hln
          refine wpOp_by rfl rfl (fun K hK => ?_)
          go_simp
          exact hK _ _ ⟨_, by simp [upd, btS], F.put 6 hst (by decide) (by decide) (by decide) (by decide) (by decide) hln ((Below.refl _ _).alloc (Nat.le_refl _) _) (hI.alloc hI.size _) ⟨_, rfl, Has.new _ _ _, hI.size⟩ ⟨fun _ hq => by obtain ⟨g', e', hg', _⟩ := F.each 7 (by decide) hln hq; have hlt := hg'.lt; have e' : u 7 = _ := e'; show _ ≠ _; intro h; rw [show u (btS 7) = _ from e'] at h; simp at h <;> omega, fun h => absurd h (by decide)⟩⟩
        · have hln := F.not 7 (by decide) (by decide) hn
          have hI := F.inv hln
          refine wpOp_by rfl rfl (fun K hK => ?_)
          go_simp
          exact hK _ _ ⟨_, by simp [upd, btS], F.put 7 hst (by decide) (by decide) (by decide) (by decide) (by decide) hln ((Below.refl _ _).alloc (Nat.le_refl _) _) (hI.alloc hI.size _) ⟨_, rfl, Has.new _ _ _, hI.size⟩ ⟨fun h => absurd h (by decide), fun _ hq => by obtain ⟨g', e', hg', _⟩ := F.each 6 (by decide) hln hq; have hlt := hg'.lt; have e' : u 6 = _ := e'; show _ ≠ _; intro h; rw [show u (btS 6) = _ from e'] at h; simp at h <;> omega⟩⟩
        · have hln := F.not 8 (by decide) (by decide) hn
          have hI := F.inv hln
          obtain ⟨v1, v2, e3, n1q, n2r⟩ := F.each 3 (by decide) hln (hd _ rfl ⟨3, .phase⟩ (by simp) rfl)
          obtain ⟨aq, lq, cq, e4, dq⟩ := F.each 4 (by decide) hln (hd _ rfl ⟨4, .phase⟩ (by simp) rfl)
          have e4 : u 15 = _ := e4
          obtain ⟨g6, ep, hg6, hb6⟩ := F.each 6 (by decide) hln (hd _ rfl ⟨6, .phase⟩ (by simp) rfl)
          have ep : u 6 = _ := ep
          obtain ⟨g7, eq, hg7, hb7⟩ := F.each 7 (by decide) hln (hd _ rfl ⟨7, .phase⟩ (by simp) rfl)
          have hne := F.ext hln (hd _ rfl ⟨6, .phase⟩ (by simp) rfl) (hd _ rfl ⟨7, .phase⟩ (by simp) rfl)
          have e16 : listed.getD 5 false = true → NumV w' wr.heap.size (u 16) R := fun h => F.each 5 (by decide) hln h
          obtain ⟨q0, q1, q2, q3⟩ := cells_two hg6
          refine wpOp_by rfl rfl (fun K hK => ?_)
          go_simp
          refine hK _ _ ⟨u, by simp [ep, e4], F.last (by decide) hn (fun i hi hx => ?_) (fun hno hxx => ⟨g6, g7, two_first (L := fun j => listed.getD j false) ep eq hne hb6 hb7 ⟨v1, v2, e3, n2r⟩ e16 dq hg6 rfl hg7 hI hxx (hno 9 (by decide))⟩)⟩
          have : i = 0 ∨ i = 1 ∨ i = 2 ∨ i = 3 ∨ i = 4 ∨ i = 6 ∨ i = 7 := by omega
          rcases this with rfl | rfl | rfl | rfl | rfl | rfl | rfl
          · exact (hd _ rfl ⟨0, .phase⟩ (by simp) rfl)
          · exact (hd _ rfl ⟨1, .phase⟩ (by simp) rfl)
          · exact (hd _ rfl ⟨2, .phase⟩ (by simp) rfl)
          · exact (hd _ rfl ⟨3, .phase⟩ (by simp) rfl)
          · exact (hd _ rfl ⟨4, .phase⟩ (by simp) rfl)
          · exact (hd _ rfl ⟨6, .phase⟩ (by simp) rfl)
          · exact (hd _ rfl ⟨7, .phase⟩ (by simp) rfl)
        · have hm := (hd _ rfl ⟨8, .phase⟩ (by simp) rfl)
          obtain ⟨g6, g7, T⟩ := F.fin hm
          obtain ⟨a9, l9, c9, e16, hg7, T2⟩ := two_second (L' := fun j => (listed.setIfInBounds 9 true).getD j false) T (hd _ rfl ⟨5, .phase⟩ (by simp) rfl) (false_of hn) (set_self hn)
          have e7 : u 7 = _ := T.e7
          obtain ⟨q0, q1, q2, q3⟩ := cells_two hg7
          refine wpOp_by rfl rfl (fun K hK => ?_)
          go_simp
          exact hK _ _ ⟨u, by simp [e7, e16], F.post 9 (Or.inl (by decide)) (by decide) hm ⟨g6, g7, T2⟩⟩
end Go.Proofs.YtmnibfdenmeepaaGreatDoor
/- of of the reference. -/
namespace Go.Proofs.YtmnibfdenmeepaaGreatDoor
open Go.RowKit Go.Shelf Big

/-- What a reader knows of a slice of truths. -/
theorem BoolsIs.at {w : World} {B : Nat} {v : Value} {l : List Bool} (h : BoolsIs w B v l) (hl : 0 < l.length) :
    ∃ g c, v = .slice (some ⟨g, 0, none⟩) l.length c ∧ g < w.heap.size ∧ (∀ j (hj : j < l.length), w.cell? ⟨g, j, none⟩ = some (.bool l[j])) ∧ ∃ cs, Has w g 4 cs := by
  rcases h.2 with ⟨rfl, h0⟩ | ⟨g, cap, cur, rfl, hb, hg, hn, hc, hs, ht⟩
  · omega
  · refine ⟨g, cap, rfl, (Array.getElem?_eq_some_iff.1 hg).1, fun j hj => ?_, cur, hg⟩
    rw [World.ownsRow.cellAt h j (by omega), List.getElem?_map, List.getElem?_eq_getElem hj]
    rfl
theorem ofB_drop (s : Bool) (l : List Bool) (i : Nat) (hi : i < l.length) : ofB s (l.drop i) = 2 * ofB s (l.drop (i + 1)) + oneB l[i] := by
  rw [List.drop_eq_getElem_cons hi]
  rfl
theorem ofB_len (s : Bool) (l : List Bool) (i : Nat) (hl : l.length ≤ 3000) : (lims 10 (ofB s (l.drop i)).natAbs).length ≤ 100000 := by
  refine len_abs (ofB_abs s (l.drop i)) (pow_len2 _ ?_)
  rw [List.length_drop]
  omega
theorem ofB_len2 (s : Bool) (l : List Bool) (i : Nat) (hl : l.length ≤ 3000) : (lims 10 (2 * ofB s (l.drop i)).natAbs).length ≤ 100000 := by
  have h := ofB_abs s (l.drop i)
  refine len_abs (y := 2 ^ ((l.drop i).length + 1)) ?_ (pow_len2 _ ?_)
  · rw [Nat.pow_succ]
    omega
  · rw [List.length_drop]
    omega
def ofS : Nat → Nat := fun i => i + 27
def ofPr (W0 : World) (Y2 : Int) (a2 : Option Addr) (n2 c2 : Nat) (Y3 : Int) : Nat → Value → World → Prop
  | 0, v, _ => v = .agg #[.bool (decide (Y2 < 0)), .slice a2 n2 c2]
  | 1, v, w => ∃ a l c, v = .agg #[.bool false, .slice a l c] ∧ DecIs w W0.heap.size (.slice a l c) 1
  | _, v, w => NumV w W0.heap.size v Y3
theorem ofPr_stays (W0 : World) (Y2 : Int) (a2 : Option Addr) (n2 c2 : Nat) (Y3 : Int) : Stays 3 (ofPr W0 Y2 a2 n2 c2 Y3) := by
  intro i v w w' hi hb h
  match i, h with
  | 0, h => exact h
  | 1, h => obtain ⟨a, l, c, e, hd⟩ := h; exact ⟨a, l, c, e, hd.kept hb⟩
  | 2, h => exact NumV.kept h hb
  | n + 3, _ => omega
set_option maxRecDepth 100000 in
set_option maxHeartbeats 4000000 in
theorem rOf_any (B : Nat) (l : List Bool) (s : Bool) (v : Value) (w : World) (hb : BoolsIs w B v l) (hs : l.getLast? = some s) (hl : l.length ≤ 3000) :
    Calls Tryz.prog 57 #[v] w fun e w' => ZIs w.heap.size (ofB s l) w' e ∧ Below w.heap.size w w' := by
  have hpos : 0 < l.length := by
    rcases Nat.eq_zero_or_pos l.length with h | h
    · rw [List.eq_nil_of_length_eq_zero h] at hs; cases hs
    · exact h
  have hlast : ∀ h : l.length - 1 < l.length, l[l.length - 1] = s := fun h => by
    rw [List.getLast?_eq_getElem?, List.getElem?_eq_getElem h] at hs
    exact Option.some.inj hs
  obtain ⟨gb, cv, rfl, hgb, hcell, cs, hcs⟩ := hb.at hpos
  have HCell := Lib.hid (fun W (hW : Below w.heap.size w W) j (hj : j < l.length) => show W.cell? ⟨gb, j, none⟩ = some (.bool l[j]) from (hW.cell (p := ⟨gb, j, none⟩) hgb).trans (hcell j hj))
  have HLast := Lib.hid (hlast (by omega))
  clear hb hs hlast hcell hcs
  go_enter Tryz.func57, Tryz.ntmps57
  go_wp2_with fail
  obtain ⟨W0, hW0⟩ : ∃ W0, w.alloc (.cells #[.bool false, .slice none 0 0] 45) = W0 := ⟨_, rfl⟩
  rw [hW0]
  have hX0 : Has W0 w.heap.size 45 #[.bool false, .slice none 0 0] := by rw [← hW0]; exact Has.new _ _ _
  have hB0 : Below w.heap.size w W0 := by rw [← hW0]; exact (Below.refl _ _).alloc (Nat.le_refl _) _
  have hz0 : W0.heap.size = w.heap.size + 1 := by rw [← hW0]; simp
  clear hW0
  refine (rWhole_any 0 (by decide) (by decide) _).mono ?_
  rintro e w1 ⟨⟨v1, rfl, hv1⟩, hb1⟩
  rw [show decide ((0 : Int) < 0) = false from rfl]
  obtain ⟨a1, c1, rfl⟩ := hv1.slice
  generalize (lims 10 (0 : Int).natAbs).length = n1 at *
  have hX1 := hX0.below hb1
  have hB1 := hB0.trans (hb1.mono (show w.heap.size ≤ W0.heap.size by omega))
  have hz1 := hb1.size
  clear hb1 hX0 hB0
  obtain ⟨x0, x1, x2, x3⟩ := cells_two hX1
  have hin : ((l.length : Nat) : Int) - 1 = ((l.length - 1 : Nat) : Int) := by omega
  obtain ⟨W1, hW1⟩ : ∃ W1, w1.alloc (.cells #[.bool false, .slice a1 n1 c1] 45) = W1 := ⟨_, rfl⟩
  have HW1 := Lib.hid hW1
  have hG1 : NumAt W1 W0.heap.size w1.heap.size 0 := ⟨a1, n1, c1, by rw [← hW1]; exact Has.new _ _ _, by rw [← hW1]; exact hv1.alloc _⟩
  have hX2 : Has W1 w.heap.size 45 #[.bool false, .slice none 0 0] := by rw [← hW1]; exact hX1.alloc _
  have hB2 : Below w.heap.size w W1 := by rw [← hW1]; exact hB1.alloc (by omega) _
  have hzW1 : W1.heap.size = w1.heap.size + 1 := by rw [← hW1]; simp
  clear hv1 hX1 hB1 hW1 x0 x1 x2 x3
  go_upto_region 2 with fail
  rw [HW1.out]
  clear HW1
  have hcl : W1.cell? ⟨gb, l.length - 1, none⟩ = some (.bool s) := by rw [HCell.out W1 hB2 (l.length - 1) (by omega), HLast.out]
  have hlt0 : (0 : Int) ≤ ((l.length - 1 : Nat) : Int) := by omega
  have hlt1 : ((l.length - 1 : Nat) : Int) < (l.length : Int) := by omega
  go_upto_if 11 with fail
  generalize hg : w1.heap.size = g at *
  have HI := Lib.hid (And.intro hlt0 hlt1)
  go_cut [11] from 12 to 12 (fun _ wx => NumAt wx w.heap.size g (ofB s []) ∧ Has wx w.heap.size 45 #[.bool false, .slice none 0 0] ∧ Below w.heap.size w wx)
  case first =>
    cases s with
    | false =>
      go_wp2_with fail
      go_meet
      obtain ⟨a2, n2, c2, h1, h2⟩ := hG1
      exact ⟨⟨a2, n2, c2, h1, DecIs.mono h2 (by omega)⟩, hX2, hB2⟩
    | true =>
      obtain ⟨a2, n2, c2, h1, h2⟩ := hG1
      have HB2 := Lib.hid hB2
      have HX2 := Lib.hid hX2
      have HH1 := Lib.hid h1
      clear h2 hB2 hX2 h1
      go_wp2_with fail
      refine (rWhole_any (-1) (by decide) (by decide) _).mono ?_
      rintro e w2 ⟨⟨v2, rfl, hv2⟩, hb2⟩
      rw [show decide ((-1 : Int) < 0) = true from rfl]
      obtain ⟨a3, c3, rfl⟩ := hv2.slice
      generalize (lims 10 (-1 : Int).natAbs).length = n3 at *
      have h3 := HH1.out.below hb2
      obtain ⟨q0, q1, q2, q3⟩ := cells_two h3
      have HF := Lib.hid (show DecIs _ _ _ _ from DecIs.mono (hv2.far2 h3 (.bool true) (.slice a3 n3 c3)) (show w.heap.size ≤ W1.heap.size by omega))
      have HG3 := Lib.hid (h3.put2 (.bool true) (.slice a3 n3 c3))
      have HX3 := Lib.hid ((HX2.out.below hb2).far2 (show w.heap.size ≠ g by omega) (.bool true) (.slice a3 n3 c3))
      have HB3 := Lib.hid (Below.two (HB2.out.trans (hb2.mono (by omega))) (show w.heap.size ≤ g by omega) (.bool true) (.slice a3 n3 c3))
      clear hv2 hb2 h3
      go_wp2_with fail
      go_meet
      exact ⟨⟨a3, n3, c3, HG3.out, HF.out⟩, HX3.out, HB3.out⟩
  case rest =>
  obtain ⟨hN, hX, hB⟩ := hcut
  clear hG1 hX2 hB2 hcl
  rw [← List.drop_length (l := l)] at hN
  go_wp2
  go_loopg [4] l.length (fun gh v4 wx => v4 = .int .i64 ((gh : Int) - 1) ∧ gh ≤ l.length ∧ NumAt wx w.heap.size g (ofB s (l.drop gh)) ∧ Has wx w.heap.size 45 #[.bool false, .slice none 0 0] ∧ Below w.heap.size w wx)
  case atStart => exact ⟨by rw [hin], Nat.le_refl _, hN, hX, hB⟩
  case round =>
    obtain ⟨rfl, hgl, ⟨a, n, cc, hA, hD⟩, hX, hB⟩ := hrel
    obtain ⟨q0, q1, q2, q3⟩ := cells_two hA
    obtain ⟨x0, x1, x2, x3⟩ := cells_two hX
    have hgs := hA.lt
    cases gk with
    | zero =>
      have e0 : ofB s (l.drop 0) = ofB s l := rfl
      rw [e0] at hD hA q0
      have HF := Lib.hid (show ∀ x y, DecIs ((wr.setCell ⟨w.heap.size, 0, none⟩ x).setCell ⟨w.heap.size, 1, none⟩ y) w.heap.size (.slice a n cc) _ from fun x y => hD.far2 hX x y)
      have HB := Lib.hid hB
      obtain ⟨b, hbb⟩ : ∃ b, decide (ofB s l < 0) = b := ⟨_, rfl⟩
      have HBB := Lib.hid hbb
      rw [hbb] at q0
      clear hD hB hA hX hN hbb
      go_wp2_with fail
      exact bodyPost_ret (v := .agg #[.bool b, .slice a n cc]) (by simp [results, Tryz.results57, go_sem, World.cell?_setCell_same', x0, x1]) rfl ⟨⟨_, by rw [HBB.out], HF.out _ _⟩, Below.two HB.out (Nat.le_refl _) _ _⟩
    | succ i =>
      have hiI : ((i + 1 : Nat) : Int) - 1 = (i : Int) := by omega
      rw [hiI]
      have hi0 : (0 : Int) ≤ (i : Int) := by omega
      have hi1 : (i : Int) < (l.length : Int) := by omega
      have hge : (i : Int) ≥ 0 := by omega
      have HD := Lib.hid hD
      have HAg := Lib.hid hA
      have HXg := Lib.hid hX
      have HBg := Lib.hid hB
      have HDr := Lib.hid (ofB_drop s l i (by omega))
      have HPl := Lib.hid (rPlus_any w.heap.size w.heap.size _ _ _ _ (decide (ofB s (l.drop (i + 1)) < 0)) (decide (ofB s (l.drop (i + 1)) < 0)) wr hD hD (Nat.le_trans (ofB_len s l (i + 1) hl) (by decide)) (Nat.le_trans (ofB_len s l (i + 1) hl) (by decide)))
      rw [sgI_self, show ofB s (l.drop (i + 1)) + ofB s (l.drop (i + 1)) = 2 * ofB s (l.drop (i + 1)) by omega] at HPl
      have HL2 := Lib.hid (ofB_len2 s l (i + 1) hl)
      obtain ⟨Y, hY⟩ : ∃ Y, ofB s (l.drop (i + 1)) = Y := ⟨_, rfl⟩
      rw [hY] at HPl HDr q0 HL2
      rw [hY] at HD HAg
      clear hY hD hA hX hB hN
      go_wp2_with fail
      refine HPl.out.mono ?_
      rintro e w2 ⟨⟨v2, rfl, hv2⟩, hb2⟩
      obtain ⟨a2, c2, rfl⟩ := hv2.slice
      obtain ⟨n2, hn2⟩ : ∃ n2, (lims 10 (2 * Y).natAbs).length = n2 := ⟨_, rfl⟩
      rw [hn2] at hv2 ⊢
      have h2 := HAg.out.below hb2
      obtain ⟨p0, p1, p2, p3⟩ := cells_two h2
      obtain ⟨W3, hW3⟩ : ∃ W3, (w2.setCell ⟨g, 0, none⟩ (.bool (decide (2 * Y < 0)))).setCell ⟨g, 1, none⟩ (.slice a2 n2 c2) = W3 := ⟨_, rfl⟩
      have HW3 := Lib.hid hW3
      have hG3 : Has W3 g 45 #[.bool (decide (2 * Y < 0)), .slice a2 n2 c2] := by rw [← hW3]; exact h2.put2 _ _
      have hD3 : DecIs W3 w.heap.size (.slice a2 n2 c2) (2 * Y).natAbs := by rw [← hW3]; exact DecIs.mono (hv2.far2 h2 _ _) HBg.out.size
      have hX3 : Has W3 w.heap.size 45 #[.bool false, .slice none 0 0] := by rw [← hW3]; exact (HXg.out.below hb2).far2 (show w.heap.size ≠ g by omega) _ _
      have hB3 : Below w.heap.size w W3 := by rw [← hW3]; exact Below.two (HBg.out.trans (hb2.mono HBg.out.size)) (show w.heap.size ≤ g by omega) _ _
      have hgs3 := hG3.lt
      clear h2 hv2 hb2 hW3 q0 q1 q2 q3 x0 x1 x2 x3 hn2
      go_upto_region 8 with fail
      rw [HW3.out]
      clear HW3 p0 p1 p2 p3
      have hcl : W3.cell? ⟨gb, i, none⟩ = some (.bool l[i]) := HCell.out W3 hB3 i (by omega)
      cases hli : l[i] with
      | false =>
        rw [hli] at hcl HDr
        have HF := Lib.hid (show 2 * Y = ofB s (l.drop i) by rw [HDr.out]; unfold oneB; simp)
        clear hli
        go_wp2_with fail
        go_roundg i
        case measure => omega
        case rel => exact ⟨rfl, by omega, ⟨a2, n2, c2, by rw [← HF.out]; exact hG3, by rw [← HF.out]; exact hD3⟩, hX3, hB3⟩
      | true =>
        rw [hli] at hcl HDr
        have HF := Lib.hid (show 2 * Y + 1 = ofB s (l.drop i) by rw [HDr.out]; unfold oneB; simp)
        have HP1 := Lib.hid (fun W (hW : Below W3.heap.size W3 W) v (hv : DecIs W W3.heap.size v 1) => rPlus_any w.heap.size W3.heap.size (2 * Y).natAbs 1 _ v (decide (2 * Y < 0)) false W (hD3.kept hW) hv (Nat.le_trans HL2.out (by decide)) (Nat.le_trans ((lims_len_le ten_ge 1 1).2 (by decide)) (by decide)))
        rw [sgI_self, show sgI false 1 = 1 from rfl, HF.out] at HP1
        clear hli
        go_wp2_with fail
        obtain ⟨Y3, hY3⟩ : ∃ Y3, ofB s (l.drop i) = Y3 := ⟨_, rfl⟩
        have HY3 := Lib.hid hY3
        rw [hY3] at HP1
        clear hY3 HF hcl
        have hst := ofPr_stays W3 (2 * Y) a2 n2 c2 Y3
        refine wp_region_inv (Inv := fun listed x' w' => ∃ u, x' = { tmps := #[.slice (some ⟨gb, 0, none⟩) l.length cv, undef, .pointer (some ⟨w.heap.size, 0, none⟩), .pointer (some ⟨g, 0, none⟩), .int .i64 (i : Int), .agg #[.bool false, .slice a1 n1 c1], .slice (some ⟨gb, 0, none⟩) l.length cv, .slice (some ⟨gb, 0, none⟩) l.length cv, .int .i64 (l.length : Int), .int .i64 ((l.length - 1 : Nat) : Int), .pointer (some ⟨gb, l.length - 1, none⟩), u11, u12, .slice (some ⟨gb, 0, none⟩) l.length cv, .int .i64 (l.length : Int), .int .i64 ((l.length - 1 : Nat) : Int), .int .i64 (i : Int), .bool true, u18, u19, .agg #[.bool (decide (Y < 0)), .slice a n cc], .agg #[.bool (decide (Y < 0)), .slice a n cc], .agg #[.bool (decide (2 * Y < 0)), .slice a2 n2 c2], .slice (some ⟨gb, 0, none⟩) l.length cv, .int .i64 (i : Int), .pointer (some ⟨gb, i, none⟩), .bool true, u 27, u 28, u 29, undef], defers := [] } ∧ RegInv (Below W3.heap.size W3) 3 ofS (ofPr W3 (2 * Y) a2 n2 c2 Y3) (fun _ _ w' => NumAt w' w.heap.size g Y3 ∧ Has w' w.heap.size 45 #[.bool false, .slice none 0 0] ∧ Below w.heap.size w w') (fun i => listed.getD i false) u w') (by kernel_rfl) (ord_of (by kernel_rfl)) ?h0 ?step ?fin
        case h0 => exact ⟨fun i => if i = 27 then u27 else if i = 28 then u28 else u29, rfl, RegInv.start (none_listed _) (Below.refl _ _).drew⟩
        case fin =>
          rintro listed x' w' ⟨u, rfl, F⟩ hall
          obtain ⟨f1, f2, f3⟩ := F.fin (hall 3 (by decide))
          have HF1 := Lib.hid f1
          have HF2 := Lib.hid f2
          have HF3 := Lib.hid f3
          clear F f1 f2 f3
          go_wp2_with fail
          go_roundg i
          case measure => omega
          case rel => exact ⟨rfl, by omega, by rw [HY3.out]; exact HF1.out, HF2.out, HF3.out⟩
        case step =>
          rintro listed x' w' i9 ⟨u, rfl, F⟩ hi9 hn hd
          have h6 : i9 = 0 ∨ i9 = 1 ∨ i9 = 2 ∨ i9 = 3 := by
            have : i9 < 4 := hi9
            omega
          rcases h6 with rfl | rfl | rfl | rfl
          · have hI := F.inv (F.not 0 (by decide) hn)
            obtain ⟨q0, q1, -⟩ := cells_two (hG3.below hI)
            refine wpOp_by rfl rfl (fun K hK => ?_)
            go_simp
            exact hK _ _ ⟨_, by simp [upd, ofS], F.put 0 hst (by decide) (by unfold ofS; omega) hn (Below.refl _ _) hI rfl⟩
          · have hI := F.inv (F.not 1 (by decide) hn)
            refine wpOp_by rfl rfl (fun K hK => ?_)
            go_simp
            refine (rWhole_any 1 (by decide) (by decide) _).mono ?_
            rintro e w4 ⟨⟨v, rfl, hv⟩, hb1⟩
            obtain ⟨a9, c9, rfl⟩ := hv.slice
            exact hK _ _ ⟨_, by simp [upd, ofS], F.put 1 hst (by decide) (by unfold ofS; omega) hn hb1 (hI.trans (hb1.mono hI.size)) ⟨a9, _, c9, rfl, DecIs.mono hv hI.size⟩⟩
          · have hI := F.inv (F.not 2 (by decide) hn)
            have e0 : u 27 = _ := F.got 0 (by decide) 2 hn (by decide) (hd _ rfl ⟨0, .data⟩ (by simp) rfl)
            obtain ⟨a9, l9, c9, e1, hv⟩ := F.got 1 (by decide) 2 hn (by decide) (hd _ rfl ⟨1, .data⟩ (by simp) rfl)
            have e1 : u 28 = _ := e1
            refine wpOp_by rfl rfl (fun K hK => ?_)
            go_simp
            refine (HP1.out _ hI _ hv).mono ?_
            rintro e w4 ⟨⟨v, rfl, hv2⟩, hb1⟩
            obtain ⟨a8, c8, rfl⟩ := hv2.slice
            exact hK _ _ ⟨_, by simp [upd, ofS, e0, e1], F.put 2 hst (by decide) (by unfold ofS; omega) hn hb1 (hI.trans (hb1.mono hI.size)) ⟨a8, _, c8, rfl, DecIs.mono hv2 hI.size⟩⟩
          · have hI := F.inv (F.not 3 (by decide) hn)
            obtain ⟨a2, l2, c2, e2, d2⟩ := F.got 2 (by decide) 3 hn (by decide) (hd _ rfl ⟨2, .data⟩ (by simp) rfl)
            have e2 : u 29 = _ := e2
            have hRw := hG3.below hI
            obtain ⟨q0, q1, q2, q3⟩ := cells_two hRw
            refine wpOp_by rfl rfl (fun K hK => ?_)
            go_simp
            refine hK _ _ ⟨u, by simp [e2], F.last hn (fun i hi => ?_) (fun _ => ⟨⟨a2, l2, c2, hRw.put2 _ _, DecIs.mono (d2.far2 hRw _ _) hB3.size⟩, (hX3.below hI).far2 (by omega) _ _, Below.two (hB3.trans (hI.mono hB3.size)) (by omega) _ _⟩)⟩
            have : i = 0 ∨ i = 1 ∨ i = 2 := by omega
            rcases this with rfl | rfl | rfl
            · exact hd _ rfl ⟨0, .phase⟩ (by simp) rfl
            · exact hd _ rfl ⟨1, .phase⟩ (by simp) rfl
            · exact hd _ rfl ⟨2, .phase⟩ (by simp) rfl
end Go.Proofs.YtmnibfdenmeepaaGreatDoor
/- A region that draws its order: what has come up is closed under what it asks. -/
namespace Go.Proofs.YtmnibfdenmeepaaGreatDoor
open Go.RowKit Go.Shelf Big

/-- What has come up is closed under what binds it. -/
def ClosedB (ops : Array Oper) (listed : Array Bool) : Prop := ∀ (j : Nat) (o : Oper), ops[j]? = some o → listed.getD j false = true → ∀ e ∈ o.after, Region.binds .any e = true → listed.getD e.on false = true
theorem set_keeps {listed : Array Bool} {i j : Nat} (h : listed.getD j false = true) : (listed.setIfInBounds i true).getD j false = true := by
  by_cases e : i = j
  · subst e
    have hlt : i < listed.size := by
      rcases Nat.lt_or_ge i listed.size with h1 | h1
      · exact h1
      · simp [Array.getD_eq_getD_getElem?, Array.getElem?_eq_none h1] at h
    simp [Array.getD_eq_getD_getElem?, hlt]
  · simp only [Array.getD_eq_getD_getElem?] at h ⊢
    rwa [Array.getElem?_setIfInBounds_ne e]
theorem wp_region_inv3 {P : Program} {ops : Array Oper} {Q : Exit → Act → World → Prop} {Inv : Array Bool → Act → World → Prop} {id : Nat} {a : Act} {w : World} (hm : P.follows .mixedOrders = true)
    (hord : ∀ (i : Nat) (o : Oper), ops[i]? = some o → ∀ e ∈ o.after, Region.binds .any e = true → e.on < i) (h0 : Inv (Array.replicate ops.size false) a w.drew)
    (step : ∀ (listed : Array Bool) (a : Act) (w : World) (i : Nat), ClosedB ops listed → Inv listed a w → i < ops.size → listed.getD i true = false → (∀ (o : Oper), ops[i]? = some o → ∀ e ∈ o.after, Region.binds .any e = true → listed.getD e.on false = true) → wpOp P ops Q i (fun a' w' => Inv (listed.setIfInBounds i true) a' w') a w)
    (fin : ∀ listed a w, Inv listed a w → (∀ i, i < ops.size → listed.getD i false = true) → Q .normal a w) : (Code.region id ops true).wp P Q a w := by
  refine wp_region_inv2 (Inv := fun listed a w => ClosedB ops listed ∧ Inv listed a w) hm hord ⟨fun j _ _ h => ?_, h0⟩ (fun listed a w i hI hi hn hd => ?_) (fun listed a w hI hall => fin listed a w hI.2 hall)
  · rw [none_listed] at h; cases h
  · refine wpOp_mono (fun a' w' hI' => ⟨fun j o ho hj e he hb => ?_, hI'⟩) (step listed a w i hI.1 hI.2 hi hn hd)
    rcases set_true hj with h | h
    · subst h
      exact set_keeps (hd o ho e he hb)
    · exact set_keeps (hI.1 j o ho h e he hb)
end Go.Proofs.YtmnibfdenmeepaaGreatDoor
/- bitwise of the reference. -/
namespace Go.Proofs.YtmnibfdenmeepaaGreatDoor
open Go.RowKit Go.Shelf Big

/-- The operation of a kind on bits, and on numbers. -/
def kG (kd : Int) (s t : Bool) : Bool := if kd = 0 then s && t else if kd = 1 then s || t else s ^^ t
def opR (kd : Int) (x y : Int) : Int := bitB (kG kd) (4 * max (lims 10 x.natAbs).length (lims 10 y.natAbs).length + 2) x y
theorem dec_600 {n : Nat} (h : tooL n = false) : (lims 10 n).length ≤ 600 := by
  have h1 : ¬ lim600 ≤ n := of_decide_eq_false h
  exact (lims_len_le ten_ge n k600).2 (by unfold lim600 at h1; omega)
def rbS : Nat → Nat := fun i => if i = 6 then 12 else if i = 7 then 13 else i + 40
def rbPr (vx vy : Value) (cnt : Nat) (x y : Int) : Nat → Value → World → Prop
  | 0, v, _ => v = vx
  | 1, v, _ => v = .int .i64 (cnt : Int)
  | 2, v, w => ∃ a c, v = .slice a cnt c ∧ BoolsIs w 0 (.slice a cnt c) (bitsZ x cnt)
  | 3, v, _ => v = vy
  | 4, v, _ => v = .int .i64 (cnt : Int)
  | 5, v, w => ∃ a c, v = .slice a cnt c ∧ BoolsIs w 0 (.slice a cnt c) (bitsZ y cnt)
  | 6, v, w => ∃ a c, v = .slice a cnt c ∧ BoolsIs w 0 (.slice a cnt c) (bitsZ x cnt)
  | _, v, w => ∃ a c, v = .slice a cnt c ∧ BoolsIs w 0 (.slice a cnt c) (bitsZ y cnt)
theorem rbPr_stays (vx vy : Value) (cnt : Nat) (x y : Int) : Stays 8 (rbPr vx vy cnt x y) := by
  intro i v w w' hi hb h
  match i, h with
  | 0, h => exact h
  | 1, h => exact h
  | 2, h => obtain ⟨a, c, e, hd⟩ := h; exact ⟨a, c, e, hd.kept hb⟩
  | 3, h => exact h
  | 4, h => exact h
  | 5, h => obtain ⟨a, c, e, hd⟩ := h; exact ⟨a, c, e, hd.kept hb⟩
  | 6, h => obtain ⟨a, c, e, hd⟩ := h; exact ⟨a, c, e, hd.kept hb⟩
  | 7, h => obtain ⟨a, c, e, hd⟩ := h; exact ⟨a, c, e, hd.kept hb⟩
  | n + 8, _ => omega
def rxS : Nat → Nat := fun i => i + 52
def rxPr (W0 : World) (vo vl vm : Value) (i gL gM : Nat) (bl bm bb : Bool) : Nat → Value → World → Prop
  | 0, v, _ => v = vo
  | 1, v, _ => v = vl
  | 2, v, _ => v = .int .i64 (i : Int)
  | 3, v, _ => v = .pointer (some ⟨gL, i, none⟩)
  | 4, v, _ => v = .bool bl
  | 5, v, _ => v = vm
  | 6, v, _ => v = .int .i64 (i : Int)
  | 7, v, _ => v = .pointer (some ⟨gM, i, none⟩)
  | 8, v, _ => v = .bool bm
  | 9, v, _ => v = .bool bb
  | _, v, w => ∃ g, v = .slice (some ⟨g, 0, none⟩) 1 1 ∧ Has w g 4 #[.bool bb] ∧ W0.heap.size ≤ g
theorem rxPr_stays (W0 : World) (vo vl vm : Value) (i gL gM : Nat) (bl bm bb : Bool) : Stays 11 (rxPr W0 vo vl vm i gL gM bl bm bb) := by
  intro j v w w' hi hb h
  match j, h with
  | 0, h => exact h
  | 1, h => exact h
  | 2, h => exact h
  | 3, h => exact h
  | 4, h => exact h
  | 5, h => exact h
  | 6, h => exact h
  | 7, h => exact h
  | 8, h => exact h
  | 9, h => exact h
  | 10, h => obtain ⟨g, e, hg, hl⟩ := h; exact ⟨g, e, hg.below hb, hl⟩
  | n + 11, _ => omega
set_option maxRecDepth 100000 in
set_option maxHeartbeats 4000000 in
theorem rBitwise_any (kd : Int) (hkd : kd = 0 ∨ kd = 1 ∨ kd = 2) (a b : ByteArray) (w : World) (ha : a.size ≤ k900) (hb : b.size ≤ k900) :
    Calls Tryz.prog 30 #[.string a, .string b, .int .i64 kd] w fun e w' => e = retS (opS (opR kd) a.data.toList b.data.toList) ∧ Below w.heap.size w w' := by
  have HB2 := Lib.hid (rBoth_any a b w (Nat.le_trans ha (by decide)) (Nat.le_trans hb (by decide)))
  have HNZ1 := Lib.hid (fun B W s v z (h : NP B a.data.toList W s v) (hz : numOf a.data.toList = some z) => h.nz hz (by rw [← Lib.size_eq]; exact ha))
  have HNZ2 := Lib.hid (fun B W s v z (h : NP B b.data.toList W s v) (hz : numOf b.data.toList = some z) => h.nz hz (by rw [← Lib.size_eq]; exact hb))
  have HK := Lib.hid hkd
  obtain ⟨j0, hj, hj0, hj1, hj2⟩ := info_parts Tryz.info4
  clear ha hb hkd
  go_enter Tryz.func30, Tryz.ntmps30
  go_wp2_with fail
  refine HB2.out.mono ?_
  rintro e w1 ⟨⟨s1, a1, n1, c1, s2, a2, n2, c2, rfl, hnp⟩, hb1⟩
  cases hok : (numOf a.data.toList).isSome && (numOf b.data.toList).isSome with
  | false =>
    have HR := Lib.hid (op_none (opR kd) hok)
    have HB1 := Lib.hid (fun o o' => (hb1.alloc hb1.size o).alloc (by simp; have := hb1.size; omega) o')
    clear hnp hok hb1
    simp only [Bool.false_eq_true, if_false]
    go_wp2
    go_ret2
    exact ⟨by rw [HR.out]; rfl, HB1.out _ _⟩
  | true =>
    obtain ⟨x, y, hx, hy⟩ := op_some hok
    obtain ⟨hp1, hp2⟩ := hnp hok
    obtain ⟨⟨rfl, hd1⟩, hl1⟩ := HNZ1.out _ _ _ _ _ hp1 hx
    obtain ⟨⟨rfl, hd2⟩, hl2⟩ := HNZ2.out _ _ _ _ _ hp2 hy
    have HOP := Lib.hid (show opS (opR kd) a.data.toList b.data.toList = if tooL x.natAbs || tooL y.natAbs then ([], 4) else told (opR kd x y) by unfold opS; rw [hx, hy])
    clear hnp hok hp1 hp2 hx hy
    simp only [if_true]
    have hz1 := hb1.size
    obtain ⟨W0, hW0⟩ : ∃ W0, (w1.alloc (.cells #[.bool (decide (x < 0)), .slice a1 n1 c1] 45)).alloc (.cells #[.bool (decide (y < 0)), .slice a2 n2 c2] 45) = W0 := ⟨_, rfl⟩
    have hD1 : DecIs W0 w.heap.size (.slice a1 n1 c1) x.natAbs := by rw [← hW0]; exact (hd1.alloc _).alloc _
    have hD2 : DecIs W0 w.heap.size (.slice a2 n2 c2) y.natAbs := by rw [← hW0]; exact (hd2.alloc _).alloc _
    have hX : Has W0 w1.heap.size 45 #[.bool (decide (x < 0)), .slice a1 n1 c1] := by rw [← hW0]; exact (Has.new w1 _ _).alloc _
    have hY : Has W0 (w1.heap.size + 1) 45 #[.bool (decide (y < 0)), .slice a2 n2 c2] := by rw [← hW0]; exact Has.new' (n := w1.heap.size + 1) (by simp) _ _
    have hz0 : W0.heap.size = w1.heap.size + 2 := by rw [← hW0]; simp
    have hBB : Below w.heap.size w W0 := by rw [← hW0]; exact (hb1.alloc hz1 _).alloc (by simp; omega) _
    have HBt1 := Lib.hid (fun c (hc : c ≤ 10000) W (hW : Below W0.heap.size W0 W) => rBits_any w.heap.size c x _ W (hD1.kept hW) hl1 hc)
    have HBt2 := Lib.hid (fun c (hc : c ≤ 10000) W (hW : Below W0.heap.size W0 W) => rBits_any w.heap.size c y _ W (hD2.kept hW) hl2 hc)
    have hA0 : Below W0.heap.size W0 (W0.alloc (.cells #[.bool (decide (x < 0)), .slice a1 n1 c1, .bool (decide (y < 0)), .slice a2 n2 c2] 45)) := (Below.refl _ _).alloc (Nat.le_refl _) _
    have HSh := Lib.hid (rShort_any W0.heap.size 2 2 (tl2 x y) _ (others_two (Has.new W0 45 #[.bool (decide (x < 0)), .slice a1 n1 c1, .bool (decide (y < 0)), .slice a2 n2 c2]) (hD1.kept hA0) (hD2.kept hA0)) (by omega))
    rw [tl2_any] at HSh
    have HLx := Lib.hid hD1.slice
    have HLy := Lib.hid hD2.slice
    have HX := Lib.hid hX
    have HY := Lib.hid hY
    have HA0 := Lib.hid hA0
    have HBB := Lib.hid hBB
    obtain ⟨x0, x1, -⟩ := cells_two hX
    obtain ⟨y0, y1, -⟩ := cells_two hY
    clear hd1 hd2 hb1 hD1 hD2 hl1 hl2 hX hY hA0 hBB
    obtain ⟨t, ht⟩ : ∃ t, (tooL x.natAbs || tooL y.natAbs) = t := ⟨_, rfl⟩
    have HT := Lib.hid ht
    rw [ht] at HSh HOP
    clear ht
    rw [hz0] at HSh
    go_wp2_with fail
    cases t with
    | true =>
      have HR := Lib.hid (show opS (opR kd) a.data.toList b.data.toList = ([], 4) from HOP.out)
      refine HSh.out.mono ?_
      rintro e w3 ⟨rfl, hb3⟩
      have HB3 := Lib.hid (HBB.out.trans ((Below.behind HA0.out hb3).mono (show w.heap.size ≤ W0.heap.size by omega)))
      clear hb3
      go_wp2
      go_ret2
      exact ⟨by rw [HR.out]; rfl, HB3.out⟩
    | false =>
      have HR := Lib.hid (show opS (opR kd) a.data.toList b.data.toList = told (opR kd x y) from HOP.out)
      refine HSh.out.mono ?_
      rintro e w3 ⟨rfl, hb3⟩
      have hb4 := Below.behind HA0.out hb3
      have hX4 := HX.out.below hb4
      have hY4 := HY.out.below hb4
      obtain ⟨p0, p1, -⟩ := cells_two hX4
      obtain ⟨r0, r1, -⟩ := cells_two hY4
      have hz4 := hb4.size
      have hTT := HT.out
      rw [Bool.or_eq_false_iff] at hTT
      have hn1 : n1 = (lims 10 x.natAbs).length := by obtain ⟨_, _, h⟩ := HLx.out; injection h
      have hn2 : n2 = (lims 10 y.natAbs).length := by obtain ⟨_, _, h⟩ := HLy.out; injection h
      have hk1 : n1 ≤ 600 := by rw [hn1]; exact dec_600 hTT.1
      have hk2 : n2 ≤ 600 := by rw [hn2]; exact dec_600 hTT.2
      obtain ⟨cnt, hcnt⟩ : ∃ cnt, 4 * max n1 n2 + 2 = cnt := ⟨_, rfl⟩
      have hcI : 4 * max (n1 : Int) (n2 : Int) + 2 = (cnt : Int) := by omega
      have HC := Lib.hid (And.intro hn1 (And.intro hn2 hcnt))
      have HB4 := Lib.hid hb4
      clear hb3 hb4 hTT hn1 hn2 x0 x1 y0 y1
      go_wp2_with fail
      obtain ⟨mx, hmx⟩ : ∃ mx, max (n1 : Int) (n2 : Int) = mx := ⟨_, rfl⟩
      rw [hmx]
      have hcn : cnt ≤ 2402 := by omega
      have hst := rbPr_stays (.agg #[.bool (decide (x < 0)), .slice a1 n1 c1]) (.agg #[.bool (decide (y < 0)), .slice a2 n2 c2]) cnt x y
      refine wp_region_inv (Inv := fun listed x' w' => ∃ u, x' = { tmps := #[.string a, .string b, .int .i64 kd, undef, undef, undef, .string ⟨#[]⟩, .int .i64 0, .pointer (some ⟨w1.heap.size, 0, none⟩), .pointer (some ⟨w1.heap.size + 1, 0, none⟩), .int .i64 0, .int .i64 (cnt : Int), u 12, u 13, undef, undef, .tuple #[.agg #[.bool (decide (x < 0)), .slice a1 n1 c1], .agg #[.bool (decide (y < 0)), .slice a2 n2 c2], .int .i64 0], .string a, .string b, .tuple #[.agg #[.bool (decide (x < 0)), .slice a1 n1 c1], .agg #[.bool (decide (y < 0)), .slice a2 n2 c2], .int .i64 0], .agg #[.bool (decide (x < 0)), .slice a1 n1 c1], .agg #[.bool (decide (y < 0)), .slice a2 n2 c2], .int .i64 0, .int .i64 0, .bool false, undef, .agg #[.bool (decide (x < 0)), .slice a1 n1 c1], .agg #[.bool (decide (y < 0)), .slice a2 n2 c2], .slice (some ⟨w1.heap.size + 2, 0, none⟩) 2 2, .bool true, .bool false, .pointer (some ⟨w1.heap.size, 1, none⟩), .slice a1 n1 c1, .int .i64 (n1 : Int), .pointer (some ⟨w1.heap.size + 1, 1, none⟩), .slice a2 n2 c2, .int .i64 (n2 : Int), .int .i64 mx, .int .i64 (4 * mx), .int .i64 (cnt : Int), u 40, u 41, u 42, u 43, u 44, u 45, undef, undef, undef, undef, undef, undef, undef, undef, undef, undef, undef, undef, undef, undef, undef, undef, undef, undef, undef, undef, undef, undef, undef, undef, undef, undef, undef, undef, undef, undef, undef, undef, undef, undef, undef, undef, undef, undef, undef, undef, undef, undef, undef, undef, undef, undef, undef, undef, undef, undef, undef, undef, undef, undef], defers := [] } ∧ RegRow w3 8 false rbS (rbPr (.agg #[.bool (decide (x < 0)), .slice a1 n1 c1]) (.agg #[.bool (decide (y < 0)), .slice a2 n2 c2]) cnt x y) (fun _ _ => True) (fun i => listed.getD i false) u w') (by kernel_rfl) (ord_of (by kernel_rfl)) ?h0 ?step ?fin
      case h0 => exact ⟨fun _ => undef, rfl, RegRow.start (none_listed _)⟩
      case step =>
        rintro listed x' w' i ⟨u, rfl, F⟩ hi hn hd
        have h11 : i = 0 ∨ i = 1 ∨ i = 2 ∨ i = 3 ∨ i = 4 ∨ i = 5 ∨ i = 6 ∨ i = 7 := by
          have : i < 8 := hi
          omega
        clear p0 p1 r0 r1
        rcases h11 with rfl | rfl | rfl | rfl | rfl | rfl | rfl | rfl
        · obtain ⟨q0, q1, -⟩ := cells_two (hX4.below F.below)
          refine wpOp_by rfl rfl (fun K hK => ?_)
          go_simp
          exact hK _ _ ⟨_, by simp [upd, rbS], F.put 0 hst (by decide) (by decide) hn (Below.refl _ _) rfl⟩
        · refine wpOp_by rfl rfl (fun K hK => ?_)
          go_simp
          exact hK _ _ ⟨_, by simp [upd, rbS], F.put 1 hst (by decide) (by decide) hn (Below.refl _ _) rfl⟩
        · have e0 : u 40 = _ := F.got 0 (by decide) 2 hn (by decide) (hd _ rfl ⟨0, .data⟩ (by simp) rfl)
          have e1 : u 41 = _ := F.got 1 (by decide) 2 hn (by decide) (hd _ rfl ⟨1, .data⟩ (by simp) rfl)
          refine wpOp_by rfl rfl (fun K hK => ?_)
          go_simp
          refine (HBt1.out cnt (by omega) _ (HB4.out.trans (F.below.mono hz4))).mono ?_
          rintro e w5 ⟨⟨v, rfl, hv⟩, hb1⟩
          obtain ⟨a9, c9, rfl⟩ := hv.slice
          rw [bitsZ_len] at hv ⊢
          exact hK _ _ ⟨_, by simp [upd, rbS, e0, e1], F.put 2 hst (by decide) (by decide) hn hb1 ⟨a9, c9, rfl, BoolsIs.mono hv (Nat.zero_le _)⟩⟩
        · obtain ⟨q0, q1, -⟩ := cells_two (hY4.below F.below)
          refine wpOp_by rfl rfl (fun K hK => ?_)
          go_simp
          exact hK _ _ ⟨_, by simp [upd, rbS], F.put 3 hst (by decide) (by decide) hn (Below.refl _ _) rfl⟩
        · refine wpOp_by rfl rfl (fun K hK => ?_)
          go_simp
          exact hK _ _ ⟨_, by simp [upd, rbS], F.put 4 hst (by decide) (by decide) hn (Below.refl _ _) rfl⟩
        · have e3 : u 43 = _ := F.got 3 (by decide) 5 hn (by decide) (hd _ rfl ⟨3, .data⟩ (by simp) rfl)
          have e4 : u 44 = _ := F.got 4 (by decide) 5 hn (by decide) (hd _ rfl ⟨4, .data⟩ (by simp) rfl)
          refine wpOp_by rfl rfl (fun K hK => ?_)
          go_simp
          refine (HBt2.out cnt (by omega) _ (HB4.out.trans (F.below.mono hz4))).mono ?_
          rintro e w5 ⟨⟨v, rfl, hv⟩, hb1⟩
          obtain ⟨a9, c9, rfl⟩ := hv.slice
          rw [bitsZ_len] at hv ⊢
          exact hK _ _ ⟨_, by simp [upd, rbS, e3, e4], F.put 5 hst (by decide) (by decide) hn hb1 ⟨a9, c9, rfl, BoolsIs.mono hv (Nat.zero_le _)⟩⟩
        · obtain ⟨a9, c9, e2, hv⟩ := F.got 2 (by decide) 6 hn (by decide) (hd _ rfl ⟨2, .data⟩ (by simp) rfl)
          have e2 : u 42 = _ := e2
          refine wpOp_by rfl rfl (fun K hK => ?_)
          go_simp
          exact hK _ _ ⟨_, by simp [upd, rbS, e2], F.put 6 hst (by decide) (by decide) hn (Below.refl _ _) ⟨a9, c9, rfl, hv⟩⟩
        · obtain ⟨a9, c9, e5, hv⟩ := F.got 5 (by decide) 7 hn (by decide) (hd _ rfl ⟨5, .data⟩ (by simp) rfl)
          have e5 : u 45 = _ := e5
          refine wpOp_by rfl rfl (fun K hK => ?_)
          go_simp
          exact hK _ _ ⟨_, by simp [upd, rbS, e5], F.put 7 hst (by decide) (by decide) hn (Below.refl _ _) ⟨a9, c9, rfl, hv⟩⟩
      case fin =>
        rintro listed x' w' ⟨u, rfl, F⟩ hall
        obtain ⟨aL, cL, e12, hL⟩ : ∃ aL cL, u 12 = .slice aL cnt cL ∧ BoolsIs w' 0 (.slice aL cnt cL) (bitsZ x cnt) := F.each 6 (by decide) (fun h => by cases h) (hall 6 (by decide))
        obtain ⟨aM, cM, e13, hM⟩ : ∃ aM cM, u 13 = .slice aM cnt cM ∧ BoolsIs w' 0 (.slice aM cnt cM) (bitsZ y cnt) := F.each 7 (by decide) (fun h => by cases h) (hall 7 (by decide))
        have hbF := HBB.out.trans ((HB4.out.trans (F.below.mono hz4)).mono (show w.heap.size ≤ W0.heap.size by omega))
        rw [e12, e13]
        have hcp : 0 < cnt := by omega
        have lL := bitsZ_len cnt x
        have lM := bitsZ_len cnt y
        obtain ⟨gL, cL2, eL, hgL, hcL, -⟩ := hL.at (by omega)
        obtain ⟨gM, cM2, eM, hgM, hcM, -⟩ := hM.at (by omega)
        rw [lL] at eL
        rw [lM] at eM
        cases eL
        cases eM
        have HLc := Lib.hid (fun W (hW : Below w'.heap.size w' W) j (hj : j < cnt) => show W.cell? ⟨gL, j, none⟩ = some (.bool ((bitsZ x cnt)[j]'(by rw [bitsZ_len]; exact hj))) from (hW.cell (p := ⟨gL, j, none⟩) hgL).trans (hcL j (by omega)))
        have HMc := Lib.hid (fun W (hW : Below w'.heap.size w' W) j (hj : j < cnt) => show W.cell? ⟨gM, j, none⟩ = some (.bool ((bitsZ y cnt)[j]'(by rw [bitsZ_len]; exact hj))) from (hW.cell (p := ⟨gM, j, none⟩) hgM).trans (hcM j (by omega)))
        have HZl := Lib.hid (show (List.zipWith (kG kd) (bitsZ x cnt) (bitsZ y cnt)).length = cnt by rw [List.length_zipWith, lL, lM, Nat.min_self])
        have HBF := Lib.hid hbF
        clear F hall e12 e13 p0 p1 r0 r1 hL hM hcL hcM hst hbF hX4 hY4 hmx hcI
        generalize (.agg #[.bool (decide (x < 0)), .slice a1 n1 c1] : Value) = vx at *
        generalize (.agg #[.bool (decide (y < 0)), .slice a2 n2 c2] : Value) = vy at *
        go_wp2
        go_loopg [14, 48] cnt (fun gh v14 v48 wx => ∃ i : Nat, v48 = .int .i64 (i : Int) ∧ i + gh = cnt ∧ BoolsIs wx w'.heap.size v14 ((List.zipWith (kG kd) (bitsZ x cnt) (bitsZ y cnt)).take i) ∧ Below w'.heap.size w' wx)
        case atStart => exact ⟨0, rfl, by omega, World.ownsRow_nil _ _ _ _, Below.refl _ _⟩
        case round =>
          obtain ⟨i, rfl, hig, hrow, hB⟩ := hrel
          cases gk with
          | zero =>
            obtain rfl : i = cnt := by omega
            rw [List.take_of_length_le (by rw [HZl.out]; exact Nat.le_refl _)] at hrow
            have hzl : (List.zipWith (kG kd) (bitsZ x i) (bitsZ y i)).getLast? = some (kG kd (decide (x < 0)) (decide (y < 0))) := by
              have h := zip_last (kG kd) (x := x) (y := y) (L := max n1 n2) (by rw [← HC.out.1]; exact Nat.le_max_left _ _) (by rw [← HC.out.2.1]; exact Nat.le_max_right _ _)
              rw [HC.out.2.2] at h
              exact h
            have HO := Lib.hid (rOf_any _ _ _ _ _ hrow hzl (by rw [HZl.out]; omega))
            rw [ofB_bits] at HO
            have hop : opR kd x y = bitB (kG kd) i x y := by unfold opR; rw [← HC.out.1, ← HC.out.2.1, HC.out.2.2]
            rw [← hop] at HO
            have HBw := Lib.hid (Below.trans HBF.out (hB.mono HBF.out.size))
            obtain ⟨av, cv, hav⟩ := hrow.slice
            rw [HZl.out] at hav
            subst hav
            obtain ⟨Z, hZ⟩ : ∃ Z, opR kd x y = Z := ⟨_, rfl⟩
            have HZZ := Lib.hid hZ
            rw [hZ] at HO
            clear hrow hB hzl hop hZ
            go_wp2_with fail
            refine HO.out.mono ?_
            rintro e w5 ⟨⟨v5, rfl, hv5⟩, hb5⟩
            have HTo := Lib.hid (rTold_none _ Z.natAbs (decide (Z < 0)) v5 w5 hv5)
            rw [toldS_sg, sgI_self, ← HZZ.out, ← HR.out] at HTo
            obtain ⟨p, hp⟩ : ∃ p, opS (opR kd) a.data.toList b.data.toList = p := ⟨_, rfl⟩
            rw [hp] at HTo
            have HP := Lib.hid hp
            unfold retS at HTo
            obtain ⟨a8, c8, rfl⟩ := hv5.slice
            have HB5 := Lib.hid (Below.behind HBw.out hb5)
            rw [HZZ.out] at HTo
            clear hp hv5 hb5
            go_wp2_with fail
            refine HTo.out.mono ?_
            rintro e w6 ⟨rfl, hb6⟩
            have HB6 := Lib.hid (Below.behind HB5.out hb6)
            clear hb6
            go_wp2
            go_ret2
            exact ⟨by rw [HP.out]; rfl, HB6.out⟩
          | succ gh =>
            have hi1 : (i : Int) < (cnt : Int) := by omega
            have hi0 : (0 : Int) ≤ (i : Int) := by omega
            have cl := HLc.out wr hB i (by omega)
            have cm := HMc.out wr hB i (by omega)
            obtain ⟨bl, hbl⟩ : ∃ bl, (bitsZ x cnt)[i]'(by rw [bitsZ_len]; omega) = bl := ⟨_, rfl⟩
            obtain ⟨bm, hbm⟩ : ∃ bm, (bitsZ y cnt)[i]'(by rw [bitsZ_len]; omega) = bm := ⟨_, rfl⟩
            rw [hbl] at cl
            rw [hbm] at cm
            have hZi : (List.zipWith (kG kd) (bitsZ x cnt) (bitsZ y cnt)).take (i + 1) = (List.zipWith (kG kd) (bitsZ x cnt) (bitsZ y cnt)).take i ++ [kG kd bl bm] := by
              rw [List.take_succ_eq_append_getElem (by rw [HZl.out]; omega), List.getElem_zipWith, hbl, hbm]
            obtain ⟨av, cv, hav⟩ := hrow.slice
            have hlt : ((List.zipWith (kG kd) (bitsZ x cnt) (bitsZ y cnt)).take i).length = i := by rw [List.length_take, HZl.out]; omega
            rw [hlt] at hav
            subst hav
            have HRow := Lib.hid (show wr.ownsRow w'.heap.size 4 1 (.slice av i cv) i (((List.zipWith (kG kd) (bitsZ x cnt) (bitsZ y cnt)).take i).map Value.bool) by have h := hrow; unfold BoolsIs at h; rw [hlt] at h; exact h)
            have HNx := Lib.hid (fun w5 v5 (h : w5.ownsRow w'.heap.size 4 1 v5 (i + 1) (((List.zipWith (kG kd) (bitsZ x cnt) (bitsZ y cnt)).take i).map Value.bool ++ [.bool (kG kd bl bm)])) => show BoolsIs w5 w'.heap.size v5 ((List.zipWith (kG kd) (bitsZ x cnt) (bitsZ y cnt)).take (i + 1)) by
              unfold BoolsIs
              rw [hZi, List.length_append, hlt, List.length_singleton, List.map_append]
              exact h)
            have HBw := Lib.hid hB
            have hwz := hB.size
            clear hrow hB hZi hlt
            obtain ⟨bb, hbb⟩ : ∃ bb, kG kd bl bm = bb := ⟨_, rfl⟩
            rw [hbb] at HNx
            have HBBB := Lib.hid hbb
            rcases HK.out with rfl | rfl | rfl
            · cases bl with
              | false =>
                obtain rfl : false = bb := hbb
                try clear hbb
                go_wp2_with (at_builtin; refine wpList_append_own _ rfl _ _ 85 rfl w'.heap.size 4 j0 (.bool false) 1 1 Tryz.underlying85 hj hj0 hj1 hj2 rfl (by decide) (.slice av i cv) i _ rfl (HRow.out.alloc _) ⟨wr.heap.size, 0, none⟩ 1 1 [.bool false] rfl rfl (cell_one_new _ _ _) (by intro u hu; simp at hu; subst hu; rfl) (by unfold maxLen; omega) (by omega) (by simp; omega) ?_; intro v' w5 hown5 hgrow5 _; obtain ⟨ar5, cr5, rfl⟩ := slice_of_own hown5)
                go_roundg gh
                case measure => omega
                case rel => exact ⟨i + 1, by go_num, by omega, HNx.out _ _ hown5, (HBw.out.alloc (by omega) _).grown hgrow5 (by simp; omega) (fun q hq => (World.ownsRow.lt HRow.out q hq).1)⟩
              | true =>
                obtain rfl : bm = bb := by rw [← hbb]; cases bm <;> rfl
                try clear hbb
                go_wp2_with (at_builtin; refine wpList_append_own _ rfl _ _ 85 rfl w'.heap.size 4 j0 (.bool false) 1 1 Tryz.underlying85 hj hj0 hj1 hj2 rfl (by decide) (.slice av i cv) i _ rfl (HRow.out.alloc _) ⟨wr.heap.size, 0, none⟩ 1 1 [.bool bm] rfl rfl (cell_one_new _ _ _) (by intro u hu; simp at hu; subst hu; rfl) (by unfold maxLen; omega) (by omega) (by simp; omega) ?_; intro v' w5 hown5 hgrow5 _; obtain ⟨ar5, cr5, rfl⟩ := slice_of_own hown5)
                go_roundg gh
                case measure => omega
                case rel => exact ⟨i + 1, by go_num, by omega, HNx.out _ _ hown5, (HBw.out.alloc (by omega) _).grown hgrow5 (by simp; omega) (fun q hq => (World.ownsRow.lt HRow.out q hq).1)⟩
            · cases bl with
              | false =>
                obtain rfl : bm = bb := by rw [← hbb]; cases bm <;> rfl
                try clear hbb
                go_wp2_with (at_builtin; refine wpList_append_own _ rfl _ _ 85 rfl w'.heap.size 4 j0 (.bool false) 1 1 Tryz.underlying85 hj hj0 hj1 hj2 rfl (by decide) (.slice av i cv) i _ rfl (HRow.out.alloc _) ⟨wr.heap.size, 0, none⟩ 1 1 [.bool bm] rfl rfl (cell_one_new _ _ _) (by intro u hu; simp at hu; subst hu; rfl) (by unfold maxLen; omega) (by omega) (by simp; omega) ?_; intro v' w5 hown5 hgrow5 _; obtain ⟨ar5, cr5, rfl⟩ := slice_of_own hown5)
                go_roundg gh
                case measure => omega
                case rel => exact ⟨i + 1, by go_num, by omega, HNx.out _ _ hown5, (HBw.out.alloc (by omega) _).grown hgrow5 (by simp; omega) (fun q hq => (World.ownsRow.lt HRow.out q hq).1)⟩
              | true =>
                obtain rfl : true = bb := hbb
                try clear hbb
                go_wp2_with (at_builtin; refine wpList_append_own _ rfl _ _ 85 rfl w'.heap.size 4 j0 (.bool false) 1 1 Tryz.underlying85 hj hj0 hj1 hj2 rfl (by decide) (.slice av i cv) i _ rfl (HRow.out.alloc _) ⟨wr.heap.size, 0, none⟩ 1 1 [.bool true] rfl rfl (cell_one_new _ _ _) (by intro u hu; simp at hu; subst hu; rfl) (by unfold maxLen; omega) (by omega) (by simp; omega) ?_; intro v' w5 hown5 hgrow5 _; obtain ⟨ar5, cr5, rfl⟩ := slice_of_own hown5)
                go_roundg gh
                case measure => omega
                case rel => exact ⟨i + 1, by go_num, by omega, HNx.out _ _ hown5, (HBw.out.alloc (by omega) _).grown hgrow5 (by simp; omega) (fun q hq => (World.ownsRow.lt HRow.out q hq).1)⟩
            · have hst := rxPr_stays wr (.slice av i cv) (.slice (some ⟨gL, 0, none⟩) cnt cL) (.slice (some ⟨gM, 0, none⟩) cnt cM) i gL gM bl bm bb
              have hbbX : (bl != bm) = bb := by rw [← hbb]; cases bl <;> cases bm <;> rfl
              have hbbY : (bl == bm) = !bb := by rw [← hbb]; cases bl <;> cases bm <;> rfl
              clear hbb cl cm
              go_wp2_with fail
              refine wp_region_inv3 (Inv := fun listed x' w7 => ∃ t : Nat → Value, x' = { tmps := #[.string a, .string b, .int .i64 2, undef, undef, undef, .string ⟨#[]⟩, .int .i64 0, .pointer (some ⟨w1.heap.size, 0, none⟩), .pointer (some ⟨w1.heap.size + 1, 0, none⟩), .int .i64 0, .int .i64 (cnt : Int), .slice (some ⟨gL, 0, none⟩) cnt cL, .slice (some ⟨gM, 0, none⟩) cnt cM, t 14, .int .i64 (i : Int), .tuple #[vx, vy, .int .i64 0], .string a, .string b, .tuple #[vx, vy, .int .i64 0], vx, vy, .int .i64 0, .int .i64 0, .bool false, undef, vx, vy, .slice (some ⟨w1.heap.size + 2, 0, none⟩) 2 2, .bool true, .bool false, .pointer (some ⟨w1.heap.size, 1, none⟩), .slice a1 n1 c1, .int .i64 (n1 : Int), .pointer (some ⟨w1.heap.size + 1, 1, none⟩), .slice a2 n2 c2, .int .i64 (n2 : Int), .int .i64 mx, .int .i64 (4 * mx), .int .i64 (cnt : Int), u 40, u 41, u 42, u 43, u 44, u 45, .slice (some ⟨gL, 0, none⟩) cnt cL, .int .i64 (cnt : Int), .int .i64 (i : Int), .bool true, .int .i64 (i : Int), .int .i64 2, t 52, t 53, t 54, t 55, t 56, t 57, t 58, t 59, t 60, t 61, t 62, t 63, .bool false, .bool false, u66, u67, u68, u69, u70, u71, u72, u73, u74, u75, u76, u77, u78, .bool false, .bool false, u81, u82, u83, u84, u85, u86, u87, u88, u89, u90, u91, u92, u93, u94, undef, undef, undef, undef, undef], defers := [] } ∧ RegInv (Below wr.heap.size wr) 11 rxS (rxPr wr (.slice av i cv) (.slice (some ⟨gL, 0, none⟩) cnt cL) (.slice (some ⟨gM, 0, none⟩) cnt cM) i gL gM bl bm bb) (fun L t w7 => ∃ ar cr, t 63 = .slice ar (i + 1) cr ∧ BoolsIs w7 w'.heap.size (.slice ar (i + 1) cr) ((List.zipWith (kG 2) (bitsZ x cnt) (bitsZ y cnt)).take (i + 1)) ∧ Below w'.heap.size w' w7 ∧ (L 12 = true → t 14 = .slice ar (i + 1) cr)) (fun i => listed.getD i false) t w7 ∧ (listed.getD 11 false = false → t 14 = .slice av i cv)) (by kernel_rfl) (ord_of2 (by kernel_rfl)) ?h0 ?step ?fin
              case h0 => exact ⟨fun j => if j = 14 then .slice av i cv else if j = 52 then u52 else if j = 53 then u53 else if j = 54 then u54 else if j = 55 then u55 else if j = 56 then u56 else if j = 57 then u57 else if j = 58 then u58 else if j = 59 then u59 else if j = 60 then u60 else if j = 61 then u61 else if j = 62 then u62 else u63, rfl, RegInv.start (none_listed _) (Below.refl _ _).drew, fun _ => rfl⟩
              case fin =>
                rintro listed x' w7 ⟨t, rfl, F, -⟩ hall
                obtain ⟨ar, cr, -, h2, h3, h4⟩ := F.fin (hall 11 (by decide))
                rw [h4 (hall 12 (by decide))]
                have H2 := Lib.hid h2
                have H3 := Lib.hid h3
                clear F h2 h3 h4 hall
                go_wp2
                go_roundg gh
                case measure => omega
                case rel => exact ⟨i + 1, by go_num, by omega, H2.out, H3.out⟩
              case step =>
                rintro listed x' w7 i9 hc ⟨t, rfl, F, h14⟩ hi9 hn hd
                have h11 : i9 = 0 ∨ i9 = 1 ∨ i9 = 2 ∨ i9 = 3 ∨ i9 = 4 ∨ i9 = 5 ∨ i9 = 6 ∨ i9 = 7 ∨ i9 = 8 ∨ i9 = 9 ∨ i9 = 10 ∨ i9 = 11 ∨ i9 = 12 := by
                  have : i9 < 13 := hi9
                  omega
                rcases h11 with rfl | rfl | rfl | rfl | rfl | rfl | rfl | rfl | rfl | rfl | rfl | rfl | rfl
                · have hI := F.inv (F.not 0 (by decide) hn)
                  have e14 := h14 (F.not 0 (by decide) hn)
                  refine wpOp_by rfl rfl (fun K hK => ?_)
                  go_simp
                  exact hK _ _ ⟨_, by simp [upd, rxS, e14], F.put 0 hst (by decide) (by unfold rxS; omega) hn (Below.refl _ _) hI rfl, fun _ => by rw [upd_ne (by decide)]; exact h14 (F.not 0 (by decide) hn)⟩
                · have hI := F.inv (F.not 1 (by decide) hn)
                  refine wpOp_by rfl rfl (fun K hK => ?_)
                  go_simp
                  exact hK _ _ ⟨_, by simp [upd, rxS], F.put 1 hst (by decide) (by unfold rxS; omega) hn (Below.refl _ _) hI rfl, fun _ => by rw [upd_ne (by decide)]; exact h14 (F.not 1 (by decide) hn)⟩
                · have hI := F.inv (F.not 2 (by decide) hn)
                  refine wpOp_by rfl rfl (fun K hK => ?_)
                  go_simp
                  exact hK _ _ ⟨_, by simp [upd, rxS], F.put 2 hst (by decide) (by unfold rxS; omega) hn (Below.refl _ _) hI rfl, fun _ => by rw [upd_ne (by decide)]; exact h14 (F.not 2 (by decide) hn)⟩
                · have hI := F.inv (F.not 3 (by decide) hn)
                  have e1 : t 53 = _ := F.got 1 (by decide) 3 hn (by decide) (hd _ rfl ⟨1, .data⟩ (by simp) rfl)
                  have e2 : t 54 = _ := F.got 2 (by decide) 3 hn (by decide) (hd _ rfl ⟨2, .data⟩ (by simp) rfl)
                  refine wpOp_by rfl rfl (fun K hK => ?_)
                  go_simp
                  exact hK _ _ ⟨_, by simp [upd, rxS, e1, e2], F.put 3 hst (by decide) (by unfold rxS; omega) hn (Below.refl _ _) hI rfl, fun _ => by rw [upd_ne (by decide)]; exact h14 (F.not 3 (by decide) hn)⟩
                · have hI := F.inv (F.not 4 (by decide) hn)
                  have cl := HLc.out w7 (HBw.out.trans (hI.mono hwz)) i (by omega)
                  rw [hbl] at cl
                  have e3 : t 55 = _ := F.got 3 (by decide) 4 hn (by decide) (hd _ rfl ⟨3, .data⟩ (by simp) rfl)
                  refine wpOp_by rfl rfl (fun K hK => ?_)
                  go_simp
                  exact hK _ _ ⟨_, by simp [upd, rxS, e3], F.put 4 hst (by decide) (by unfold rxS; omega) hn (Below.refl _ _) hI rfl, fun _ => by rw [upd_ne (by decide)]; exact h14 (F.not 4 (by decide) hn)⟩
                · have hI := F.inv (F.not 5 (by decide) hn)
                  refine wpOp_by rfl rfl (fun K hK => ?_)
                  go_simp
                  exact hK _ _ ⟨_, by simp [upd, rxS], F.put 5 hst (by decide) (by unfold rxS; omega) hn (Below.refl _ _) hI rfl, fun _ => by rw [upd_ne (by decide)]; exact h14 (F.not 5 (by decide) hn)⟩
                · have hI := F.inv (F.not 6 (by decide) hn)
                  refine wpOp_by rfl rfl (fun K hK => ?_)
                  go_simp
                  exact hK _ _ ⟨_, by simp [upd, rxS], F.put 6 hst (by decide) (by unfold rxS; omega) hn (Below.refl _ _) hI rfl, fun _ => by rw [upd_ne (by decide)]; exact h14 (F.not 6 (by decide) hn)⟩
                · have hI := F.inv (F.not 7 (by decide) hn)
                  have e5 : t 57 = _ := F.got 5 (by decide) 7 hn (by decide) (hd _ rfl ⟨5, .data⟩ (by simp) rfl)
                  have e6 : t 58 = _ := F.got 6 (by decide) 7 hn (by decide) (hd _ rfl ⟨6, .data⟩ (by simp) rfl)
                  refine wpOp_by rfl rfl (fun K hK => ?_)
                  go_simp
                  exact hK _ _ ⟨_, by simp [upd, rxS, e5, e6], F.put 7 hst (by decide) (by unfold rxS; omega) hn (Below.refl _ _) hI rfl, fun _ => by rw [upd_ne (by decide)]; exact h14 (F.not 7 (by decide) hn)⟩
                · have hI := F.inv (F.not 8 (by decide) hn)
                  have cm := HMc.out w7 (HBw.out.trans (hI.mono hwz)) i (by omega)
                  rw [hbm] at cm
                  have e7 : t 59 = _ := F.got 7 (by decide) 8 hn (by decide) (hd _ rfl ⟨7, .data⟩ (by simp) rfl)
                  refine wpOp_by rfl rfl (fun K hK => ?_)
                  go_simp
                  exact hK _ _ ⟨_, by simp [upd, rxS, e7], F.put 8 hst (by decide) (by unfold rxS; omega) hn (Below.refl _ _) hI rfl, fun _ => by rw [upd_ne (by decide)]; exact h14 (F.not 8 (by decide) hn)⟩
                · have hI := F.inv (F.not 9 (by decide) hn)
                  have e4 : t 56 = _ := F.got 4 (by decide) 9 hn (by decide) (hd _ rfl ⟨4, .data⟩ (by simp) rfl)
                  have e8 : t 60 = _ := F.got 8 (by decide) 9 hn (by decide) (hd _ rfl ⟨8, .data⟩ (by simp) rfl)
                  refine wpOp_by rfl rfl (fun K hK => ?_)
                  go_simp
                  exact hK _ _ ⟨_, by simp [upd, rxS, e4, e8], F.put 9 hst (by decide) (by unfold rxS; omega) hn (Below.refl _ _) hI rfl, fun _ => by rw [upd_ne (by decide)]; exact h14 (F.not 9 (by decide) hn)⟩
                · have hI := F.inv (F.not 10 (by decide) hn)
                  have e9 : t 61 = _ := F.got 9 (by decide) 10 hn (by decide) (hd _ rfl ⟨9, .data⟩ (by simp) rfl)
                  refine wpOp_by rfl rfl (fun K hK => ?_)
                  go_simp
                  exact hK _ _ ⟨_, by simp [upd, rxS, e9], F.put 10 hst (by decide) (by unfold rxS; omega) hn ((Below.refl _ _).alloc (Nat.le_refl _) _) (hI.alloc hI.size _) ⟨_, rfl, Has.new _ _ _, hI.size⟩, fun _ => by rw [upd_ne (by decide)]; exact h14 (F.not 10 (by decide) hn)⟩
                · have hI := F.inv (F.not 11 (by decide) hn)
                  have h10 := hd _ rfl ⟨10, .data⟩ (by simp) rfl
                  have h0 := hd _ rfl ⟨0, .data⟩ (by simp) rfl
                  have h9 := hc 10 _ rfl h10 ⟨9, .data⟩ (by simp) rfl
                  have h8 := hc 9 _ rfl h9 ⟨8, .data⟩ (by simp) rfl
                  have h4 := hc 9 _ rfl h9 ⟨4, .data⟩ (by simp) rfl
                  have h7 := hc 8 _ rfl h8 ⟨7, .data⟩ (by simp) rfl
                  have h3 := hc 4 _ rfl h4 ⟨3, .data⟩ (by simp) rfl
                  have h5 := hc 7 _ rfl h7 ⟨5, .data⟩ (by simp) rfl
                  have h6 := hc 7 _ rfl h7 ⟨6, .data⟩ (by simp) rfl
                  have h1 := hc 3 _ rfl h3 ⟨1, .data⟩ (by simp) rfl
                  have h2 := hc 3 _ rfl h3 ⟨2, .data⟩ (by simp) rfl
                  have e0 : t 52 = _ := F.got 0 (by decide) 11 hn (by decide) h0
                  obtain ⟨gn, e10, hgn, hgz⟩ := F.got 10 (by decide) 11 hn (by decide) h10
                  have e10 : t 62 = _ := e10
                  refine wpOp_by rfl rfl (fun K hK => ?_)
                  refine wp_append_own _ (.tmp 52) (.tmp 62) 85 rfl w'.heap.size 4 j0 (.bool false) 1 1 Tryz.underlying85 hj hj0 hj1 hj2 rfl (by decide) (.slice av i cv) i _ e0 (own_below HRow.out (hI.mono (Nat.le_refl _))) ⟨gn, 0, none⟩ 1 1 [.bool bb] e10 rfl (fun j u h => ?_) (by intro u hu; simp at hu; subst hu; rfl) (by unfold maxLen; omega) (by omega) (by have := hI.size; omega) (fun v5 w5 hown5 hgrow5 _ => ?_)
                  · match j, h with
                    | 0, h => cases h; exact Has.cell hgn 0
                    | j + 1, h => simp at h
                  · obtain ⟨ar5, cr5, rfl⟩ := slice_of_own hown5
                    refine hK _ _ ⟨upd t 63 (.slice ar5 (i + 1) cr5), by simp [upd, go_sem], F.last hn (fun i9 hi9 => ?_) (fun hno => ⟨ar5, cr5, upd_eq, HNx.out _ _ hown5, (HBw.out.trans (hI.mono hwz)).grown hgrow5 (by have := hI.size; omega) (fun q hq => (World.ownsRow.lt (own_below HRow.out hI) q hq).1), fun h => absurd ((hno 12 (by decide)).symm.trans h) (by decide)⟩), fun h => absurd ((set_self hn).symm.trans h) (by decide)⟩
                    have : i9 = 0 ∨ i9 = 1 ∨ i9 = 2 ∨ i9 = 3 ∨ i9 = 4 ∨ i9 = 5 ∨ i9 = 6 ∨ i9 = 7 ∨ i9 = 8 ∨ i9 = 9 ∨ i9 = 10 := by omega
                    rcases this with rfl | rfl | rfl | rfl | rfl | rfl | rfl | rfl | rfl | rfl | rfl
                    · exact h0
                    · exact h1
                    · exact h2
                    · exact h3
                    · exact h4
                    · exact h5
                    · exact h6
                    · exact h7
                    · exact h8
                    · exact h9
                    · exact h10
                · have h11 := hd _ rfl ⟨11, .data⟩ (by simp) rfl
                  obtain ⟨ar5, cr5, e63, hr5, hb5, -⟩ := F.fin h11
                  refine wpOp_by rfl rfl (fun K hK => ?_)
                  go_simp
                  exact hK _ _ ⟨upd t 14 (.slice ar5 (i + 1) cr5), by simp [upd, e63], F.post 12 (by decide) h11 ⟨ar5, cr5, by rw [upd_ne (by decide)]; exact e63, hr5, hb5, fun _ => upd_eq⟩, fun h => by rw [set_other (by decide), h11] at h; cases h⟩
end Go.Proofs.YtmnibfdenmeepaaGreatDoor
