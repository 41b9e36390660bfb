/- The texts ByAny Gcd TwoB RSign RDiv DivZ DivAny RDivAny RMul RGcd, one behind the other. -/
import Derived.Test.YtmnibfdenmeepaaDoorMgBigTimes15
import Derived.Laws.AppendOwnNone
/- nat.by of the program, for all numbers. -/
namespace Go.Proofs.YtmnibfdenmeepaaDoor
open Go.RowKit Go.Shelf Big

/-- A divisor shifted until its highest bit is set. -/
theorem kn_norm {k n1 top bl : Nat} (htop : k / 4294967296 ^ n1 = top) (h1 : top < 2 ^ bl) (h2 : 2 ^ (bl - 1) ≤ top) (h0 : 0 < bl) (hb : bl ≤ 32) :
    k * 2 ^ (32 - bl) < 4294967296 ^ (n1 + 1) ∧ 2147483648 * 4294967296 ^ n1 ≤ k * 2 ^ (32 - bl) ∧ 4294967296 ^ n1 ≤ k := by
  have hP : 0 < 4294967296 ^ n1 := Nat.pow_pos (by decide)
  have d1 := Nat.div_add_mod k (4294967296 ^ n1)
  have d2 := Nat.mod_lt k hP
  rw [htop] at d1
  rw [Nat.pow_succ]
  generalize 4294967296 ^ n1 = X at *
  have e1 : X * (top + 1) ≤ X * 2 ^ bl := Nat.mul_le_mul_left X h1
  have e2 : X * 2 ^ (bl - 1) ≤ X * top := Nat.mul_le_mul_left X h2
  rw [Nat.mul_add, Nat.mul_one] at e1
  have p1 : 2 ^ bl * 2 ^ (32 - bl) = 4294967296 := by rw [← Nat.pow_add, show bl + (32 - bl) = 32 by omega]
  have p2 : 2 ^ (bl - 1) * 2 ^ (32 - bl) = 2147483648 := by rw [← Nat.pow_add, show bl - 1 + (32 - bl) = 31 by omega]
  have p3 : 0 < 2 ^ (32 - bl) := Nat.pow_pos (by decide)
  have p4 : 0 < 2 ^ (bl - 1) := Nat.pow_pos (by decide)
  refine ⟨?_, ?_, ?_⟩
  · have h3 : k * 2 ^ (32 - bl) < X * 2 ^ bl * 2 ^ (32 - bl) := Nat.mul_lt_mul_of_pos_right (by omega) p3
    rw [Nat.mul_assoc X, p1] at h3
    exact h3
  · have h3 : X * 2 ^ (bl - 1) * 2 ^ (32 - bl) ≤ k * 2 ^ (32 - bl) := Nat.mul_le_mul_right _ (by omega)
    rw [Nat.mul_assoc X, p2, Nat.mul_comm X] at h3
    exact h3
  · have h3 : X * 1 ≤ X * 2 ^ (bl - 1) := Nat.mul_le_mul_left X p4
    omega
theorem kn_len {x n1 : Nat} (h1 : x < 4294967296 ^ (n1 + 1)) (h2 : 4294967296 ^ n1 ≤ x) : (lims 4294967296 x).length = n1 + 1 := by
  have a := (Big.lims_len_le (B := 4294967296) (by decide) x (n1 + 1)).2 h1
  have b : ¬ (lims 4294967296 x).length ≤ n1 := fun h => by
    have := (Big.lims_len_le (B := 4294967296) (by decide) x n1).1 h
    omega
  omega
theorem kn_high {x n1 : Nat} (h1 : x < 4294967296 ^ (n1 + 1)) (h2 : 2147483648 * 4294967296 ^ n1 ≤ x) : 2147483648 ≤ x / 4294967296 ^ n1 % 4294967296 := by
  have hP : 0 < 4294967296 ^ n1 := Nat.pow_pos (by decide)
  have a : 2147483648 ≤ x / 4294967296 ^ n1 := (Nat.le_div_iff_mul_le hP).2 h2
  have b : x / 4294967296 ^ n1 < 4294967296 := by
    rw [Nat.div_lt_iff_lt_mul hP]
    rw [Nat.pow_succ, Nat.mul_comm] at h1
    exact h1
  rw [Nat.mod_eq_of_lt b]
  exact a
theorem kn_dividend {m la s : Nat} (h : (lims 4294967296 m).length = la) (h0 : 0 < la) (hs : s ≤ 32) : la ≤ (lims 4294967296 (m * 2 ^ s)).length ∧ (lims 4294967296 (m * 2 ^ s)).length ≤ la + 1 := by
  have p3 : 0 < 2 ^ s := Nat.pow_pos (by decide)
  have p4 : 2 ^ s ≤ 2 ^ 32 := Nat.pow_le_pow_right (by decide) hs
  constructor
  · refine Nat.le_of_not_lt (fun h1 => ?_)
    have h2 := (Big.lims_len_le (B := 4294967296) (by decide) (m * 2 ^ s) (la - 1)).1 (by omega)
    have h3 : m * 1 ≤ m * 2 ^ s := Nat.mul_le_mul_left m p3
    have h4 := (Big.lims_len_le (B := 4294967296) (by decide) m (la - 1)).2 (by omega)
    omega
  · refine (Big.lims_len_le (B := 4294967296) (by decide) (m * 2 ^ s) (la + 1)).2 ?_
    have h2 := (Big.lims_len_le (B := 4294967296) (by decide) m la).1 (by omega)
    rw [Nat.pow_succ]
    have h3 : m * 2 ^ s ≤ m * 2 ^ 32 := Nat.mul_le_mul_left m p4
    have h4 : m * 2 ^ 32 < 4294967296 ^ la * 4294967296 := Nat.mul_lt_mul_of_pos_right h2 (by decide)
    omega
theorem split_mid (us : List Nat) (j n : Nat) (_h : j + n ≤ us.length) : us.take j ++ (us.drop j).take n ++ us.drop (j + n) = us := by
  rw [List.append_assoc, ← List.drop_drop, List.take_append_drop, List.take_append_drop]
set_option maxRecDepth 100000 in
set_option maxHeartbeats 1000000 in
theorem by_less (B1 B2 m k : Nat) (va vb : Value) (w : World) (ha : NatIs w B1 va m) (hb : NatIs w B2 vb k) (hla : (lims 4294967296 m).length ≤ 100000) (hlk : (lims 4294967296 k).length ≤ 100000) (hkm : m < k) :
    Calls Tryd.prog 112 #[va, vb] w fun e w' => (∃ a1 n1 c1 a2 n2 c2, e = .returned (.tuple #[.slice a1 n1 c1, .slice a2 n2 c2]) ∧ NatIs w' w.heap.size (.slice a1 n1 c1) (m / k) ∧ NatIs w' w.heap.size (.slice a2 n2 c2) (m % k)) ∧ Below w.heap.size w w' := by
  obtain ⟨i0, hi, hz0, hz1, hz2⟩ := info_parts Tryd.info75
  have HC := Lib.hid (compare_any B1 B2 m k va vb w ha hb hla hlk)
  have HA := Lib.hid (fun w' (h : Below w.heap.size w w') => ha.kept h)
  have hc : cmp m k = -1 := by unfold cmp; rw [if_pos hkm]
  rw [hc] at HC
  obtain ⟨av, ca, rfl⟩ := ha.slice
  obtain ⟨bv, cb, rfl⟩ := hb.slice
  rw [Nat.div_eq_of_lt hkm, Nat.mod_eq_of_lt hkm]
  have HLA := Lib.hid hla
  obtain ⟨lv, hlv⟩ : ∃ lv, (lims 4294967296 m).length = lv := ⟨_, rfl⟩
  rw [hlv] at HC HA hla ⊢
  generalize (lims 4294967296 k).length = lk at *
  have HLV := Lib.hid hlv
  have h0 : ∀ W, NatIs W w.heap.size (.slice none 0 0) 0 := fun W => by unfold NatIs; rw [lims_zero]; exact World.ownsRow_nil _ _ _ _
  have H0 := Lib.hid h0
  have hl0 : (lims 4294967296 m).length = 0 ↔ m = 0 := by rw [List.length_eq_zero_iff, lims_nil w32_ge]
  have HL0 := Lib.hid hl0
  clear ha hb hc hl0 h0 hlv
  by_cases hm : m = 0
  · subst hm
    obtain rfl : lv = 0 := by rw [← HLV.out, lims_zero]; rfl
    go_enter Tryd.func112, Tryd.ntmps112
    go_wp2_with fail
    refine HC.out.mono ?_
    rintro e w1 ⟨rfl, hb1⟩
    have HB1 := Lib.hid hb1
    have hz := hb1.size
    have hown := (HA.out w1 hb1)
    rcases hown.2 with ⟨e, h9⟩ | ⟨ga, cap, cur, e, _⟩
    · cases e
      clear hown hb1
      go_wp2_with (at_builtin; refine wpList_append_own_none rfl _ _ 44 rfl w.heap.size 75 i0 1 Tryd.underlying44 hi (.slice none 0 0) 0 [] rfl (World.ownsRow_nil _ _ _ _) rfl ?_)
      go_ret2
      exact ⟨⟨_, _, _, _, _, _, rfl, H0.out _, H0.out _⟩, HB1.out⟩
    · obtain rfl : av = some ⟨ga, 0, none⟩ := by injection e
      clear hown e hb1
      go_wp2_with (at_builtin; refine wpList_append_own _ rfl _ _ 44 rfl w.heap.size 75 i0 (.int .u32 0) 1 4 Tryd.underlying44 hi hz0 hz1 hz2 rfl (by decide) (.slice none 0 0) 0 [] rfl (World.ownsRow_nil _ _ _ _) ⟨ga, 0, none⟩ 0 ca [] rfl rfl (fun j u hu => by simp at hu) (by intro u hu; simp at hu) (by decide) (by omega) hz ?_; intro v' w2 hown2 hgrow _; obtain ⟨a9, c9, rfl⟩ := slice_of_own hown2)
      have HN2 := Lib.hid (show NatIs w2 w.heap.size (.slice a9 0 c9) 0 by
        unfold NatIs
        rw [lims_zero]
        simpa using hown2)
      have HB2 := Lib.hid (HB1.out.grown hgrow hz (fun k e => by simp [Value.ownBlock] at e))
      clear hown2 hgrow
      go_ret2
      exact ⟨⟨_, _, _, _, _, _, rfl, H0.out _, HN2.out⟩, HB2.out⟩
  · have hlp : 0 < lv := by
      have := HL0.out
      rw [HLV.out] at this
      omega
    go_enter Tryd.func112, Tryd.ntmps112
    go_wp2_with fail
    refine HC.out.mono ?_
    rintro e w1 ⟨rfl, hb1⟩
    have HB1 := Lib.hid hb1
    have hz := hb1.size
    have hown := HA.out w1 hb1
    rcases hown.2 with ⟨e, h9⟩ | ⟨ga, cap, cur, e, _⟩
    · rw [HLV.out] at h9; omega
    · obtain rfl : av = some ⟨ga, 0, none⟩ := by injection e
      have HCE := Lib.hid (fun j u (hu : ((lims 4294967296 m).map u32v)[j]? = some u) => show w1.cell? ((⟨ga, 0, none⟩ : Addr).add j) = some u from World.ownsRow.cells hown (g := ga) rfl j u hu)
      have HL2 := Lib.hid (show ((lims 4294967296 m).map u32v).length = lv * 1 by rw [List.length_map, HLV.out, Nat.mul_one])
      clear hown e hb1
      go_wp2_with (at_builtin; refine wpList_append_own _ rfl _ _ 44 rfl w.heap.size 75 i0 (.int .u32 0) 1 4 Tryd.underlying44 hi hz0 hz1 hz2 rfl (by decide) (.slice none 0 0) 0 [] rfl (World.ownsRow_nil _ _ _ _) ⟨ga, 0, none⟩ lv ca ((lims 4294967296 m).map u32v) rfl HL2.out HCE.out (by intro u hu; simp only [List.mem_map] at hu; obtain ⟨d, _, rfl⟩ := hu; rfl) (by unfold maxLen; omega) (by omega) hz ?_; intro v' w2 hown2 hgrow _; obtain ⟨a9, c9, rfl⟩ := slice_of_own hown2)
      have HN2 := Lib.hid (show NatIs w2 w.heap.size (.slice a9 lv c9) m by
        unfold NatIs
        rw [HLV.out]
        simpa using hown2)
      have HB2 := Lib.hid (HB1.out.grown hgrow hz (fun k e => by simp [Value.ownBlock] at e))
      clear hown2 hgrow
      go_ret2
      exact ⟨⟨_, _, _, _, _, _, rfl, H0.out _, HN2.out⟩, HB2.out⟩
theorem RowIs.cap {w : World} {B g cap : Nat} {ds : List Nat} (h : RowIs w B g cap ds) : ds.length ≤ cap := by
  rcases h.2 with ⟨e, _⟩ | ⟨g', cap', cur, e, hb, hg, hn, hc, hz, hx⟩
  · cases e
  · cases e; exact hn
theorem own_mono2 {w w' : World} {B b g cap : Nat} {ds : List Nat} (h : RowIs w B g cap ds) (hb : Below b w w') (hg : g < b) : RowIs w' B g cap ds := by
  refine ⟨h.1, ?_⟩
  rcases h.2 with hn | ⟨g', cap', cur, e, h1, h2, h3⟩
  · exact .inl hn
  · refine .inr ⟨g', cap', cur, e, h1, ?_, h3⟩
    cases e
    exact (hb.block g hg).trans h2
theorem by_other {listed : Array Bool} {i j : Nat} (h : j ≠ i) : (listed.setIfInBounds i true).getD j false = listed.getD j false := by
  simp only [Array.getD_eq_getD_getElem?]
  rw [Array.getElem?_setIfInBounds_ne (by omega)]
theorem by_self {listed : Array Bool} {i : Nat} (h : listed.getD i true = false) : (listed.setIfInBounds i true).getD i false = true := by
  have hlt : i < listed.size := by
    rcases Nat.lt_or_ge i listed.size with h1 | h1
    · exact h1
    · simp [Array.getD, Nat.not_lt.2 h1] at h
  simp [Array.getD_eq_getD_getElem?, hlt]
theorem RowIs.takeRow {w : World} {B g cap k : Nat} {ds : List Nat} (h : RowIs w B g cap ds) (hk : k ≤ ds.length) : w.ownsRow B 75 1 (.slice (some ⟨g, 0, none⟩) k cap) (ds.take k).length ((ds.take k).map u32v) := by
  have hl : (ds.take k).length = k := by rw [List.length_take]; omega
  rw [hl]
  rcases h.2 with ⟨e, _⟩ | ⟨g', cap', cur, e, hb, hg, hn, hc, hz, hx⟩
  · cases e
  · cases e
    refine ⟨by rw [List.length_map, hl]; omega, .inr ⟨g, cap, cur, rfl, hb, hg, by omega, hc, hz, ?_⟩⟩
    have : cur.toList.take (k * 1) = (cur.toList.take (ds.length * 1)).take k := by rw [List.take_take]; congr 1; omega
    rw [this, hx, List.map_take]
def byS : Nat → Nat := fun i => if i = 8 then 4 else if i = 9 then 5 else i + 84
def byPr (B : Nat) (vq vu : Value) (n gu cu s Dq R2 Rr : Nat) : Nat → Value → World → Prop
  | 0, v, _ => v = vq
  | 1, v, w => ∃ a l c, v = .slice a l c ∧ NatIs w B (.slice a l c) Dq
  | 2, v, _ => v = vu
  | 3, v, _ => v = .int .i64 (n : Int)
  | 4, v, _ => v = .slice (some ⟨gu, 0, none⟩) n cu
  | 5, v, w => ∃ a l c, v = .slice a l c ∧ NatIs w B (.slice a l c) R2
  | 6, v, _ => v = .int .u64 (s : Int)
  | 7, v, w => ∃ a l c, v = .slice a l c ∧ NatIs w B (.slice a l c) Rr
  | 8, v, w => ∃ a l c, v = .slice a l c ∧ NatIs w B (.slice a l c) Dq
  | _, v, w => ∃ a l c, v = .slice a l c ∧ NatIs w B (.slice a l c) Rr
theorem byPr_stays (B : Nat) (vq vu : Value) (n gu cu s Dq R2 Rr : Nat) : Stays 10 (byPr B vq vu n gu cu s Dq R2 Rr) := by
  intro i v w w' hi hb h
  match i, h with
  | 0, h => exact h
  | 1, h => obtain ⟨a, l, c, e, hd⟩ := h; exact ⟨a, l, c, e, hd.kept hb⟩
  | 2, h => exact h
  | 3, h => exact h
  | 4, h => exact h
  | 5, h => obtain ⟨a, l, c, e, hd⟩ := h; exact ⟨a, l, c, e, hd.kept hb⟩
  | 6, h => exact h
  | 7, h => obtain ⟨a, l, c, e, hd⟩ := h; exact ⟨a, l, c, e, hd.kept hb⟩
  | 8, h => obtain ⟨a, l, c, e, hd⟩ := h; exact ⟨a, l, c, e, hd.kept hb⟩
  | 9, h => obtain ⟨a, l, c, e, hd⟩ := h; exact ⟨a, l, c, e, hd.kept hb⟩
  | n + 10, _ => omega
set_option maxRecDepth 100000 in
set_option maxHeartbeats 4000000 in
theorem by_long (B1 B2 m k : Nat) (va vb : Value) (w : World) (ha : NatIs w B1 va m) (hb : NatIs w B2 vb k) (hla : (lims 4294967296 m).length ≤ 100000) (hk : 4294967296 ≤ k) (hkm : k ≤ m) :
    Calls Tryd.prog 112 #[va, vb] w fun e w' => (∃ a1 n1 c1 a2 n2 c2, e = .returned (.tuple #[.slice a1 n1 c1, .slice a2 n2 c2]) ∧ NatIs w' w.heap.size (.slice a1 n1 c1) (m / k) ∧ NatIs w' w.heap.size (.slice a2 n2 c2) (m % k)) ∧ Below w.heap.size w w' := by
  obtain ⟨i0, hi, hz0, hzz1, hz2⟩ := info_parts Tryd.info75
  have hlk : (lims 4294967296 k).length ≤ (lims 4294967296 m).length := (lims_len_le w32_ge k _).2 (Nat.lt_of_le_of_lt hkm ((lims_len_le w32_ge m _).1 (Nat.le_refl _)))
  have hn2 : ¬ (lims 4294967296 k).length ≤ 1 := fun h => by
    have := (lims_len_le w32_ge k 1).1 h
    omega
  have HC := Lib.hid (compare_any B1 B2 m k va vb w ha hb (by omega) (by omega))
  obtain ⟨C, hC⟩ : ∃ C, cmp m k = C := ⟨_, rfl⟩
  have hc0 : (0 : Int) ≤ C := by
    rw [← hC]
    unfold cmp
    split
    · omega
    · split <;> omega
  rw [hC] at HC
  obtain ⟨av, ca, rfl⟩ := ha.slice
  obtain ⟨bo, cb, rfl, rb⟩ := hb.reads (by omega)
  obtain ⟨n, hn⟩ : ∃ n, (lims 4294967296 k).length = n := ⟨_, rfl⟩
  obtain ⟨la, hlaE⟩ : ∃ la, (lims 4294967296 m).length = la := ⟨_, rfl⟩
  obtain ⟨p, hp⟩ : ∃ p, n = p + 2 := ⟨n - 2, by omega⟩
  obtain ⟨n1, hn1⟩ : ∃ n1, p + 1 = n1 := ⟨_, rfl⟩
  obtain ⟨gb, rfl, hgb, hcb⟩ := rb.2.1 n1 (by omega)
  have hkn : k < 4294967296 ^ (n1 + 1) := (lims_len_le w32_ge k (n1 + 1)).1 (by omega)
  obtain ⟨top, htop⟩ : ∃ top, k / 4294967296 ^ n1 = top := ⟨_, rfl⟩
  have htl : top < 4294967296 := by
    rw [← htop, Nat.div_lt_iff_lt_mul (Nat.pow_pos (by decide)), Nat.mul_comm]
    rwa [Nat.pow_succ] at hkn
  rw [htop, Nat.mod_eq_of_lt htl] at hcb
  have ht0 : 0 < top := by
    rw [← htop]
    refine Nat.div_pos ?_ (Nat.pow_pos (by decide))
    refine Nat.le_of_not_lt (fun h => ?_)
    have := (lims_len_le w32_ge k n1).2 h
    omega
  obtain ⟨b1, b2, b3, b4⟩ := bitLen_is top htl ht0
  have HLz := Lib.hid (fun W => Tryd.bits_LeadingZeros32 (top : Int) W (by omega) (by omega))
  rw [Int.toNat_natCast] at HLz
  obtain ⟨bl, hbl⟩ : ∃ bl, Lib.bitLen top = bl := ⟨_, rfl⟩
  rw [hbl] at HLz b1 b2 b3 b4
  obtain ⟨q1, q2, q3⟩ := kn_norm htop b1 b2 b3 b4
  obtain ⟨s, hs⟩ : ∃ s, 32 - bl = s := ⟨_, rfl⟩
  rw [hs] at q1 q2
  have hsI : (32 : Int) - (bl : Int) = (s : Int) := by omega
  have hs32 : s ≤ 32 := by omega
  have hdv := kn_dividend (s := s) hlaE (by omega) hs32
  have HSh1 := Lib.hid (fun W (h : Below w.heap.size w W) => shl_any B2 k s _ W (hb.kept h) (by omega) (by omega))
  have HSh2 := Lib.hid (fun W (h : Below w.heap.size w W) => shl_any B1 m s _ W (ha.kept h) (by omega) (by omega))
  have HCb := Lib.hid (fun W (h : Below w.heap.size w W) => show W.cell? ⟨gb, n1, none⟩ = some (.int .u32 (top : Int)) from (h.cell (p := ⟨gb, n1, none⟩) hgb).trans hcb)
  have HQ := Lib.hid (And.intro q1 (And.intro q2 q3))
  have HD := Lib.hid hdv
  have HLA := Lib.hid hlaE
  have HKM := Lib.hid (And.intro hk hkm)
  rw [hn] at hlk HC HSh1 ⊢
  rw [hlaE] at hla hlk HC HSh2 ⊢
  obtain ⟨Dq, hDq⟩ : ∃ Dq, m / k = Dq := ⟨_, rfl⟩
  obtain ⟨Rr, hRr⟩ : ∃ Rr, m % k = Rr := ⟨_, rfl⟩
  rw [hDq, hRr]
  have HDR := Lib.hid (And.intro hDq hRr)
  clear hDq hRr
  have hnI : (n : Int) - 1 = (n1 : Int) := by omega
  have hnE : ((n : Int) == 1) = false := by simp; omega
  have hnE2 : ¬ (n : Int) = 1 := by omega
  have hnI2 : (n1 : Int) < (n : Int) := by omega
  have hnI3 : (0 : Int) ≤ (n1 : Int) := by omega
  have HP := Lib.hid (And.intro hp hn1)
  clear rb hcb htop ht0 b1 b2 b3 b4 hbl q1 q2 q3 hs hdv hlaE hk hkm hkn hn2 ha hb hC hn hp hn1
  go_enter Tryd.func112, Tryd.ntmps112
  go_wp2_with fail
  refine HC.out.mono ?_
  rintro e w1 ⟨rfl, hb1⟩
  have hcb1 := HCb.out w1 hb1
  have HB1 := Lib.hid hb1
  go_wp2_with (go_at_call 130; refine (HLz.out _).mono ?_; rintro e w' ⟨rfl, rfl⟩)
  refine (HSh1.out _ HB1.out).mono ?_
  rintro e w2 ⟨⟨v2, rfl, hv2⟩, hb2⟩
  rename_i w1
  have hz1 := HB1.out.size
  have hz2' := hb2.size
  have HB2 := Lib.hid (Below.behind HB1.out hb2)
  have hlv : (lims 4294967296 (k * 2 ^ s)).length = n := by
    have hn1P := HP.out.2
    have hpP := HP.out.1
    rw [kn_len (n1 := n1) HQ.out.1 (Nat.le_trans (by omega) HQ.out.2.1)]
    omega
  have hr2 := hv2
  unfold NatIs at hr2
  rw [hlv] at hr2
  rcases hr2.2 with ⟨rfl, h9⟩ | ⟨gv, capv, curv, rfl, hgv1, hgv2, _⟩
  · omega
  have hgvlt : gv < w2.heap.size := (Array.getElem?_eq_some_iff.1 hgv2).1
  have HV2 := Lib.hid (show RowIs w2 w.heap.size gv capv (lims 4294967296 (k * 2 ^ s)) from RowIs.mono (show RowIs w2 _ gv capv (lims 4294967296 (k * 2 ^ s)) from by unfold RowIs; rw [hlv]; exact hr2) hz1)
  clear hv2 hr2 hgv1 hgv2 hb2 hcb1
  go_wp2_with fail
  refine (HSh2.out _ HB2.out).mono ?_
  rintro e w3 ⟨⟨v3, rfl, hv3⟩, hb3⟩
  have hz3 := hb3.size
  have HB3 := Lib.hid (Below.behind HB2.out hb3)
  have HV3 := Lib.hid (show RowIs w3 w.heap.size gv capv (lims 4294967296 (k * 2 ^ s)) from own_below HV2.out hb3)
  have hr3 := hv3
  obtain ⟨au3, cu3, rfl⟩ := hv3.slice
  obtain ⟨v3, hv3v⟩ : ∃ v3, Value.slice au3 (lims 4294967296 (m * 2 ^ s)).length cu3 = v3 := ⟨_, rfl⟩
  rw [hv3v]
  have hr3' : w3.ownsRow w2.heap.size 75 1 v3 (lims 4294967296 (m * 2 ^ s)).length ((lims 4294967296 (m * 2 ^ s)).map u32v) := by rw [← hv3v]; exact hr3
  have HV3v := Lib.hid hv3v
  clear hr3 hv3v
  have HV := Lib.hid hlv
  clear hv3 hb3 hlv
  go_upto_block 0 with fail
  go_cut [10] from 48 to 55 (fun v10 wx => ∃ (ds : List Nat) (gu cu : Nat), v10 = .slice (some ⟨gu, 0, none⟩) (la + 1) cu ∧ ds.length = la + 1 ∧ Small ds ∧ ev 4294967296 ds = m * 2 ^ s ∧ RowIs wx w2.heap.size gu cu ds ∧ Below w2.heap.size w3 wx)
  case first =>
    go_wp2_with fail
    go_loopg [10] (la + 1 - (lims 4294967296 (m * 2 ^ s)).length) (fun gh v10 wx => ∃ (ds : List Nat) (au : Option Addr) (cu : Nat), v10 = .slice au ds.length cu ∧ ds.length + gh = la + 1 ∧ la ≤ ds.length ∧ Small ds ∧ ev 4294967296 ds = m * 2 ^ s ∧ wx.ownsRow w2.heap.size 75 1 v10 ds.length (ds.map u32v) ∧ Below w2.heap.size w3 wx)
    case atStart => exact ⟨lims 4294967296 (m * 2 ^ s), au3, cu3, HV3v.out.symm, by have := HD.out.2; omega, HD.out.1, lims_lt w32_ge _, ev_lims w32_ge _, hr3', Below.refl _ _⟩
    case round =>
      obtain ⟨ds, au, cu, rfl, hdg, hdl, hds, hde, hrow, hB⟩ := hrel
      obtain ⟨ld, hld⟩ : ∃ ld, ds.length = ld := ⟨_, rfl⟩
      rw [hld] at hdg hdl hrow ⊢
      have HLD := Lib.hid hld
      have HDE := Lib.hid (And.intro hds hde)
      clear hld hds hde
      cases gk with
      | zero =>
        have h1 : ¬ (ld : Int) ≤ (la : Int) := by omega
        rcases hrow.2 with ⟨e, h9⟩ | ⟨gu, capu, curu, e, hgu, _⟩
        · omega
        · cases e
          have HRow := Lib.hid (show RowIs wr w2.heap.size gu cu ds from by unfold RowIs; rw [HLD.out]; exact hrow)
          have HB4 := Lib.hid hB
          have HL4 := Lib.hid (show ld = la + 1 by omega)
          clear hrow hB
          go_wp2_with fail
          go_meet
          exact ⟨ds, gu, cu, by rw [HL4.out], by rw [HLD.out, HL4.out], HDE.out.1, HDE.out.2, HRow.out, HB4.out⟩
      | succ gh =>
        have h1 : (ld : Int) ≤ (la : Int) := by omega
        have hzr := hB.size
        have HRow := Lib.hid hrow
        have HB4 := Lib.hid hB
        clear hrow hB
        go_wp2_with (at_builtin; refine wpList_append_own _ rfl _ _ 44 rfl w2.heap.size 75 i0 (.int .u32 0) 1 4 Tryd.underlying44 hi hz0 hzz1 hz2 rfl (by decide) (.slice au ld cu) ld _ rfl (HRow.out.alloc _) ⟨wr.heap.size, 0, none⟩ 1 1 [.int .u32 0] rfl rfl (cell_one_new _ _ _) (by intro u hu; simp at hu; subst hu; rfl) (by unfold maxLen; omega) (by omega) (by simp; omega) ?_; intro v' w5 hown5 hgrow5 _; obtain ⟨ar5, cr5, rfl⟩ := slice_of_own hown5)
        go_roundg gh
        case measure => omega
        case rel =>
          have hln : (ds ++ [0]).length = ld + 1 := by rw [List.length_append, List.length_singleton, HLD.out]
          refine ⟨ds ++ [0], ar5, cr5, by rw [hln], by rw [hln]; omega, by rw [hln]; omega, ?_, ?_, ?_, (HB4.out.alloc (by omega) _).grown hgrow5 (by simp; omega) (fun q hq => (World.ownsRow.lt HRow.out q hq).1)⟩
          · intro d hd
            rcases List.mem_append.1 hd with h | h
            · exact HDE.out.1 d h
            · rw [List.mem_singleton] at h; omega
          · rw [ev_append, HDE.out.2]; simp [ev]
          · rw [hln, List.map_append]; exact hown5
  case rest =>
  obtain ⟨ds, gu, cu, rfl, hdl, hds, hde, hR, hB4⟩ := hcut
  clear hr3'
  obtain ⟨V, hVe⟩ : ∃ V, k * 2 ^ s = V := ⟨_, rfl⟩
  have hVC2 : RowIs wc w.heap.size gv capv (lims 4294967296 (k * 2 ^ s)) := own_mono2 HV3.out hB4 hgvlt
  have hvl := HV.out
  have hvs : Small (lims 4294967296 (k * 2 ^ s)) := lims_lt w32_ge _
  have hve : ev 4294967296 (lims 4294967296 (k * 2 ^ s)) = k * 2 ^ s := ev_lims w32_ge _
  have hvt : ∀ l : List Nat, l = lims 4294967296 (k * 2 ^ s) → ∀ h : n1 < l.length, 2147483648 ≤ l[n1] := by
    intro l hl h
    subst hl
    rw [lims_get]
    exact kn_high HQ.out.1 HQ.out.2.1
  rw [hVe] at hVC2 hvl hvs hve hvt
  obtain ⟨vs, hvsE⟩ : ∃ vs, lims 4294967296 V = vs := ⟨_, rfl⟩
  have hvt2 := hvt vs hvsE.symm
  clear hvt
  rw [hvsE] at hVC2 hvl hvs hve
  have hVn : V < 4294967296 ^ n := by
    have h := Big.ev_lt (B := 4294967296) hvs
    rw [hve, hvl] at h
    exact h
  have hgne : gv ≠ gu := by
    have h1 : w2.heap.size ≤ gu := (World.ownsRow.lt hR gu rfl).1
    omega
  have hcu : la + 1 ≤ cu := by rw [← hdl]; exact RowIs.cap hR
  have hzc := hB4.size
  have hguc : gu < wc.heap.size := (World.ownsRow.lt hR gu rfl).2
  have hgvc : gv < wc.heap.size := by omega
  obtain ⟨L1, hL1⟩ : ∃ L1, la + 1 = L1 := ⟨_, rfl⟩
  rw [hL1] at hdl hcu ⊢
  obtain ⟨K, hK⟩ : ∃ K, L1 - n = K := ⟨_, rfl⟩
  have hKI : (L1 : Int) - (n : Int) = (K : Int) := by omega
  have hLK : L1 = n + K := by omega
  have hst : KnInv (m * 2 ^ s) V n K K ds (List.replicate K 0) := by
    refine KnInv.start (by omega) hds (by simp) (small_zeros _) hde ?_
    rw [← hVe]
    refine kn_head (n := n1) ?_ HQ.out.2.2
    have h := (lims_len_le w32_ge m la).1 (by rw [HLA.out]; exact Nat.le_refl _)
    have hp2 := HP.out
    rw [show n1 + K = la by omega]
    exact h
  have hRC : RowIs wc w.heap.size gu cu ds := RowIs.mono hR (by omega)
  have hBC : Below w.heap.size w wc := HB3.out.trans (hB4.mono (by omega))
  have hmk : ∀ W, (Instr.makeSlice 44 (.int .i64 (K : Int)) (.int .i64 (K : Int))).run Tryd.prog W = .ok (.slice (some ⟨W.heap.size, 0, none⟩) K K) (W.alloc (.cells (noughts K) 75)) := make_any _ _ K K rfl rfl (by omega) (by omega)
  obtain ⟨WQ, hWQ⟩ : ∃ WQ, wc.alloc (.cells (noughts K) 75) = WQ := ⟨_, rfl⟩
  have hq0 : RowIs WQ w.heap.size wc.heap.size K (List.replicate K 0) := by rw [← hWQ]; exact RowIs.made wc w.heap.size K (by omega) (by omega)
  have hu0 : RowIs WQ w.heap.size gu cu ds := by rw [← hWQ]; exact World.ownsRow.alloc hRC _
  have hv0 : RowIs WQ w.heap.size gv capv vs := by rw [← hWQ]; exact World.ownsRow.alloc hVC2 _
  have hb0 : Below w.heap.size w WQ := by rw [← hWQ]; exact hBC.alloc (by omega) _
  have HWQ := Lib.hid hWQ
  have HVV := Lib.hid (And.intro hvl (And.intro hvs (And.intro hve hVn)))
  have HVT := Lib.hid hvt2
  have HK := Lib.hid (And.intro hK hLK)
  have HVE := Lib.hid hVe
  clear hR hB4 hVC2 hRC hBC hWQ hvt2 hvl hvs hve hVn hVe hvsE hK hLK hde hds
  go_wp2_with fail
  clear hmk
  rw [HWQ.out]
  generalize hgq : wc.heap.size = gq at *
  go_loopg [12] K (fun gh v12 wx => ∃ us qs : List Nat, v12 = .int .i64 ((gh : Int) - 1) ∧ KnInv (m * 2 ^ s) V n K gh us qs ∧ RowIs wx w.heap.size gu cu us ∧ RowIs wx w.heap.size gq K qs ∧ RowIs wx w.heap.size gv capv vs ∧ Below w.heap.size w wx)
  case atStart => exact ⟨ds, _, rfl, hst, hu0, hq0, hv0, hb0⟩
  case round =>
    obtain ⟨us, qs, rfl, hKn, hU, hQ, hV, hB⟩ := hrel
    cases gk with
    | zero =>
      have hneg : ¬ ((0 : Nat) : Int) - 1 ≥ 0 := by omega
      go_wp2_with fail
      obtain ⟨f0, hf0⟩ : ∃ f0, decide (C < 0) = f0 := ⟨_, rfl⟩
      rw [hf0]
      clear hf0
      have hVs := HVV.out
      obtain ⟨d1, d2⟩ := hKn.done
      have hz := hB.size
      have hul := hKn.lu
      have hql := hKn.lq
      rw [← HVE.out, (kn_shift m k s).1, HDR.out.1] at d1
      obtain ⟨R2, hR2⟩ : ∃ R2, m * 2 ^ s % V = R2 := ⟨_, rfl⟩
      rw [hR2] at d2
      have hsh : R2 / 2 ^ s = Rr := by rw [← hR2, ← HVE.out, (kn_shift m k s).2, HDR.out.2]
      have hRl : (lims 4294967296 R2).length ≤ 100000 := by
        refine Nat.le_trans ((lims_len_le w32_ge R2 n).2 ?_) (show n ≤ 100000 by omega)
        rw [← hR2]
        have hVp : 0 < V := by
          rcases Nat.eq_zero_or_pos V with h | h
          · have := HQ.out.2.1
            have hP : 0 < 4294967296 ^ n1 := Nat.pow_pos (by decide)
            have h2 := HVE.out
            omega
          · exact h
        exact Nat.lt_trans (Nat.mod_lt _ hVp) hVs.2.2.2
      have HCq := Lib.hid (fun W (hW : Below wr.heap.size wr W) => by
        have h := cut_any w.heap.size (.slice (some ⟨gq, 0, none⟩) K K) qs W (by have h := (own_below hQ hW : RowIs W w.heap.size gq K qs); unfold RowIs at h; rw [hql] at h ⊢; exact h) hKn.sq (by omega)
        rw [d1] at h
        exact h)
      have HCu := Lib.hid (fun W (hW : Below wr.heap.size wr W) => by
        have h := cut_any w.heap.size (.slice (some ⟨gu, 0, none⟩) n cu) (us.take n) W (RowIs.takeRow (own_below hU hW : RowIs W w.heap.size gu cu us) (by omega)) (fun d hd => hKn.su d (List.mem_of_mem_take hd)) (by rw [List.length_take]; omega)
        rw [d2] at h
        exact h)
      have HRi := Lib.hid (fun v W (hv : NatIs W w.heap.size v R2) => by
        have h := shr_any w.heap.size R2 s v W hv hRl (by omega)
        rw [hsh] at h
        exact h)
      have hncu : n ≤ cu := by omega
      have hst := byPr_stays w.heap.size (.slice (some ⟨gq, 0, none⟩) K K) (.slice (some ⟨gu, 0, none⟩) L1 cu) n gu cu s Dq R2 Rr
      clear hKn hU hQ hV d1 d2 hR2 hsh hRl hVs hul hql
      refine wp_region_inv3 (Inv := fun listed x' w' => ∃ u, x' = { tmps := #[.slice av la ca, .slice (some ⟨gb, 0, none⟩) n cb, undef, undef, u 4, u 5, undef, undef, .int .u64 (s : Int), .slice (some ⟨gv, 0, none⟩) n capv, .slice (some ⟨gu, 0, none⟩) L1 cu, .int .i64 (n : Int), .int .i64 (-1), .slice av la ca, .slice (some ⟨gb, 0, none⟩) n cb, .int .i64 C, .bool f0, undef, undef, .slice (some ⟨gb, 0, none⟩) n cb, .int .i64 (n : Int), .bool false, undef, undef, undef, undef, undef, undef, undef, undef, undef, undef, undef, undef, .slice (some ⟨gb, 0, none⟩) n cb, .slice (some ⟨gb, 0, none⟩) n cb, .int .i64 (n : Int), .int .i64 (n1 : Int), .pointer (some ⟨gb, n1, none⟩), .int .u32 (top : Int), .int .i64 (s : Int), .int .u64 (s : Int), .slice (some ⟨gb, 0, none⟩) n cb, .int .u64 (s : Int), .slice (some ⟨gv, 0, none⟩) n capv, .slice av la ca, .int .u64 (s : Int), v3, u48, u49, u50, u51, u52, u53, u54, u55, .slice (some ⟨gv, 0, none⟩) n capv, .int .i64 (n : Int), .slice (some ⟨gu, 0, none⟩) L1 cu, .int .i64 (L1 : Int), .int .i64 (n : Int), .int .i64 (K : Int), .slice (some ⟨gq, 0, none⟩) K K, .slice (some ⟨gu, 0, none⟩) L1 cu, .int .i64 (L1 : Int), .int .i64 (n : Int), .int .i64 (K : Int), .int .i64 ((K : Int) - 1), .int .i64 (-1), .bool false, u70, u71, u72, u73, u74, u75, u76, u77, u78, u79, u80, u81, u82, u83, u 84, u 85, u 86, u 87, u 88, u 89, u 90, u 91], defers := [] } ∧ RegRow wr 10 false byS (byPr w.heap.size (.slice (some ⟨gq, 0, none⟩) K K) (.slice (some ⟨gu, 0, none⟩) L1 cu) n gu cu s Dq R2 Rr) (fun _ _ => True) (fun i => listed.getD i false) u w' ∧ (listed.getD 8 false = false → u 4 = .slice (some ⟨gq, 0, none⟩) K K)) (by kernel_rfl) (ord_of2 (by kernel_rfl)) ?h0 ?step ?fin
      case h0 => exact ⟨fun i => if i = 4 then .slice (some ⟨gq, 0, none⟩) K K else if i = 5 then .slice none 0 0 else undef, rfl, RegRow.start (none_listed _), fun _ => rfl⟩
      case fin =>
        rintro listed x' w' ⟨u, rfl, F, -⟩ hall
        obtain ⟨a1, l1, c1, e4, hn4⟩ : ∃ a l c, u 4 = .slice a l c ∧ NatIs w' w.heap.size (.slice a l c) Dq := F.each 8 (by decide) (fun h => by cases h) (hall 8 (by decide))
        obtain ⟨a2, l2, c2, e5, hn5⟩ : ∃ a l c, u 5 = .slice a l c ∧ NatIs w' w.heap.size (.slice a l c) Rr := F.each 9 (by decide) (fun h => by cases h) (hall 9 (by decide))
        have hbF := hB.trans (F.below.mono (show w.heap.size ≤ wr.heap.size by omega))
        rw [e4, e5]
        have H4 := Lib.hid hn4
        have H5 := Lib.hid hn5
        have HBF := Lib.hid hbF
        clear F hall e4 e5 hn4 hn5 hbF hB
        go_wp2_with fail
        go_ret2
        exact ⟨⟨_, _, _, _, _, _, rfl, H4.out, H5.out⟩, HBF.out⟩
      case step =>
        rintro listed x' w' i hcl ⟨u, rfl, F, h48⟩ hi hn hd
        have h11 : i = 0 ∨ i = 1 ∨ i = 2 ∨ i = 3 ∨ i = 4 ∨ i = 5 ∨ i = 6 ∨ i = 7 ∨ i = 8 ∨ i = 9 := by
          have : i < 10 := hi
          omega
        rcases h11 with rfl | rfl | rfl | rfl | rfl | rfl | rfl | rfl | rfl | rfl
        · have e48 := h48 (by
            cases h8 : listed.getD 8 false with
            | false => rfl
            | true =>
              have h0 := hcl 8 _ rfl h8 ⟨0, .phase⟩ (by simp) rfl
              have h00 := false_of hn
              exact absurd (h00.symm.trans h0) (by decide))
          refine wpOp_by rfl rfl (fun K hK => ?_)
          go_simp
          exact hK _ _ ⟨_, by simp [upd, byS, e48], F.put 0 hst (by decide) (by decide) hn (Below.refl _ _) rfl, fun h => by rw [by_other (by decide)] at h; rw [upd_ne (by decide)]; exact h48 h⟩
        · have e0 : u 84 = _ := F.got 0 (by decide) 1 hn (by decide) (hd _ rfl ⟨0, .data⟩ (by simp) rfl)
          refine wpOp_by rfl rfl (fun K hK => ?_)
          go_simp
          refine (HCq.out _ F.below).mono ?_
          rintro e w2' ⟨⟨v', rfl, hnat⟩, rfl⟩
          obtain ⟨a9, c9, rfl⟩ := hnat.slice
          exact hK _ _ ⟨_, by simp [upd, byS, e0], F.put 1 hst (by decide) (by decide) hn (Below.refl _ _) ⟨a9, _, c9, rfl, hnat⟩, fun h => by rw [by_other (by decide)] at h; rw [upd_ne (by decide)]; exact h48 h⟩
        · refine wpOp_by rfl rfl (fun K hK => ?_)
          go_simp
          exact hK _ _ ⟨_, by simp [upd, byS], F.put 2 hst (by decide) (by decide) hn (Below.refl _ _) rfl, fun h => by rw [by_other (by decide)] at h; rw [upd_ne (by decide)]; exact h48 h⟩
        · refine wpOp_by rfl rfl (fun K hK => ?_)
          go_simp
          exact hK _ _ ⟨_, by simp [upd, byS], F.put 3 hst (by decide) (by decide) hn (Below.refl _ _) rfl, fun h => by rw [by_other (by decide)] at h; rw [upd_ne (by decide)]; exact h48 h⟩
        · have e2 : u 86 = _ := F.got 2 (by decide) 4 hn (by decide) (hd _ rfl ⟨2, .data⟩ (by simp) rfl)
          have e3 : u 87 = _ := F.got 3 (by decide) 4 hn (by decide) (hd _ rfl ⟨3, .data⟩ (by simp) rfl)
          refine wpOp_by rfl rfl (fun K hK => ?_)
          go_simp
          exact hK _ _ ⟨_, by simp [upd, byS, e2, e3], F.put 4 hst (by decide) (by decide) hn (Below.refl _ _) rfl, fun h => by rw [by_other (by decide)] at h; rw [upd_ne (by decide)]; exact h48 h⟩
        · have e4 : u 88 = _ := F.got 4 (by decide) 5 hn (by decide) (hd _ rfl ⟨4, .data⟩ (by simp) rfl)
          refine wpOp_by rfl rfl (fun K hK => ?_)
          go_simp
          refine (HCu.out _ F.below).mono ?_
          rintro e w2' ⟨⟨v', rfl, hnat⟩, rfl⟩
          obtain ⟨a9, c9, rfl⟩ := hnat.slice
          exact hK _ _ ⟨_, by simp [upd, byS, e4], F.put 5 hst (by decide) (by decide) hn (Below.refl _ _) ⟨a9, _, c9, rfl, hnat⟩, fun h => by rw [by_other (by decide)] at h; rw [upd_ne (by decide)]; exact h48 h⟩
        · refine wpOp_by rfl rfl (fun K hK => ?_)
          go_simp
          exact hK _ _ ⟨_, by simp [upd, byS], F.put 6 hst (by decide) (by decide) hn (Below.refl _ _) rfl, fun h => by rw [by_other (by decide)] at h; rw [upd_ne (by decide)]; exact h48 h⟩
        · obtain ⟨a9, l9, c9, e5, hv⟩ := F.got 5 (by decide) 7 hn (by decide) (hd _ rfl ⟨5, .data⟩ (by simp) rfl)
          have e5 : u 89 = _ := e5
          have e6 : u 90 = _ := F.got 6 (by decide) 7 hn (by decide) (hd _ rfl ⟨6, .data⟩ (by simp) rfl)
          refine wpOp_by rfl rfl (fun K hK => ?_)
          go_simp
          refine (HRi.out _ _ hv).mono ?_
          rintro e w2' ⟨⟨v', rfl, hnat⟩, hb1⟩
          obtain ⟨a8, c8, rfl⟩ := hnat.slice
          exact hK _ _ ⟨_, by simp [upd, byS, e5, e6], F.put 7 hst (by decide) (by decide) hn hb1 ⟨a8, _, c8, rfl, NatIs.mono hnat (by have := F.below.size; omega)⟩, fun h => by rw [by_other (by decide)] at h; rw [upd_ne (by decide)]; exact h48 h⟩
        · obtain ⟨a9, l9, c9, e1, hv⟩ := F.got 1 (by decide) 8 hn (by decide) (hd _ rfl ⟨1, .data⟩ (by simp) rfl)
          have e1 : u 85 = _ := e1
          refine wpOp_by rfl rfl (fun K hK => ?_)
          go_simp
          exact hK _ _ ⟨_, by simp [upd, byS, e1], F.put 8 hst (by decide) (by decide) hn (Below.refl _ _) ⟨a9, l9, c9, rfl, hv⟩, fun h => absurd ((by_self hn).symm.trans h) (by decide)⟩
        · obtain ⟨a9, l9, c9, e7, hv⟩ := F.got 7 (by decide) 9 hn (by decide) (hd _ rfl ⟨7, .data⟩ (by simp) rfl)
          have e7 : u 91 = _ := e7
          refine wpOp_by rfl rfl (fun K hK => ?_)
          go_simp
          exact hK _ _ ⟨_, by simp [upd, byS, e7], F.put 9 hst (by decide) (by decide) hn (Below.refl _ _) ⟨a9, l9, c9, rfl, hv⟩, fun h => by rw [by_other (by decide)] at h; rw [upd_ne (by decide)]; exact h48 h⟩
    | succ j =>
      have hj1 : ((j + 1 : Nat) : Int) - 1 = (j : Int) := by omega
      rw [hj1]
      have hjK : j < K := by have := hKn.le; omega
      obtain ⟨j2, hj2⟩ : ∃ j2, j + n = j2 := ⟨_, rfl⟩
      obtain ⟨j3, hj3⟩ : ∃ j3, j2 + 1 = j3 := ⟨_, rfl⟩
      have hjI2 : (j : Int) + (n : Int) = (j2 : Int) := by omega
      have hjI3 : (j2 : Int) + 1 = (j3 : Int) := by omega
      have hjc1 : j3 ≤ L1 := by have := HK.out.2; omega
      have hjc2 : j3 ≤ cu := by omega
      have hjc3 : j ≤ j3 := by omega
      have hjge : (j : Int) ≥ 0 := by omega
      have hul := hKn.lu
      have hql := hKn.lq
      have hVs := HVV.out
      have hPP := HP.out
      have hS : Calls Tryd.prog 131 #[.slice (some ⟨gu, j, none⟩) (j3 - j) (cu - j), .slice (some ⟨gv, 0, none⟩) n capv] wr fun e w' => StepIs w.heap.size gu cu (n + 1) (ev 4294967296 ((us.drop j).take (n + 1))) (ev 4294967296 vs) (us.take j) (us.drop (j + n + 1)) wr w' e := by
        have h := step_any w.heap.size gu cu j p (cu - j) w.heap.size gv capv (us.take j) ((us.drop j).take (n + 1)) (us.drop (j + n + 1)) vs wr (by rw [show j + n + 1 = j + (n + 1) by omega, split_mid us j (n + 1) (by omega)]; exact hU) (by rw [List.length_take]; omega) (by rw [List.length_take, List.length_drop]; omega) (fun d hd => hKn.su d (List.mem_of_mem_drop (List.mem_of_mem_take hd))) hV (by omega) hVs.2.1 hgne (by omega) (by omega)
          (by have h := HVT.out (by omega); have e : n1 = p + 1 := hPP.2.symm; subst e; exact h) (by rw [hVs.2.2.1]; exact hKn.fits)
        rw [show p + 3 = j3 - j by omega, ← hPP.1] at h
        rw [show n + 1 = j3 - j by omega] at h ⊢
        exact h
      have HS := Lib.hid hS
      have HKn := Lib.hid hKn
      have HQr := Lib.hid (And.intro hQ (And.intro hV hB))
      have hgqu : gq ≠ gu := by omega
      have hgqv : gv ≠ gq := by omega
      have hjI0 : (0 : Int) ≤ (j : Int) := by omega
      have hjIK : (j : Int) < (K : Int) := by omega
      have HB0 := Lib.hid (show w.heap.size ≤ gq ∧ w.heap.size ≤ gu from ⟨by omega, (World.ownsRow.lt hU gu rfl).1⟩)
      clear hS hU hQ hV hB hKn hPP
      go_wp2_with fail
      refine HS.out.mono ?_
      rintro e w5 ⟨rfl, ⟨xs, hxl, hxs, hxe, hxr⟩, hgr⟩
      rw [hVs.2.2.1] at hxe ⊢
      have hKs := HKn.out.step (xs := xs) hVs.2.2.2 hxl hxs hxe
      obtain ⟨q, hqE⟩ : ∃ q, ev 4294967296 ((us.drop j).take (n + 1)) / V = q := ⟨_, rfl⟩
      rw [hqE] at hKs ⊢
      have hQ5 := RowIs.kept HQr.out.1 hgr hgqu
      have hV5 := RowIs.kept HQr.out.2.1 hgr hgne
      have hB5 := HQr.out.2.2.grown hgr (HQr.out.2.2.size) (fun k9 e9 => by injection e9 with e9; have := HB0.out.2; omega)
      have hc5 := hQ5.cell j (by omega)
      have hf5 := hQ5.free j
      generalize qs[j]'(by omega) = o5 at hc5
      have hP5 := grown_put (grownBy_refl w5 (some gq)) j (.int .u32 (q : Int))
      have HQ6 := Lib.hid (hQ5.put j q)
      have HU6 := Lib.hid (RowIs.kept hxr hP5 (Ne.symm hgqu))
      have HV6 := Lib.hid (RowIs.kept hV5 hP5 hgqv)
      have HB6 := Lib.hid (hB5.setCell (p := ⟨gq, j, none⟩) HB0.out.1 (.int .u32 (q : Int)))
      have HKs := Lib.hid hKs
      clear hxl hxs hxe hxr hgr hKs hqE hQ5 hV5 hB5 hP5 hVs
      go_wp2_with fail
      go_roundg j
      case measure => omega
      case rel => exact ⟨_, _, rfl, HKs.out, HU6.out, HQ6.out, HV6.out, HB6.out⟩
/-- by, for all numbers. -/
theorem by_any {m k : Nat} (hla : (lims 4294967296 m).length ≤ 100000) (hlk : (lims 4294967296 k).length ≤ 100000) (h0 : 0 < k) : ByIs m k := fun B1 B2 va vb w ha hb => by
  by_cases h1 : m < k
  · exact by_less B1 B2 m k va vb w ha hb (by omega) (by omega) h1
  · by_cases h2 : k < 4294967296
    · exact by_one B1 B2 m k va vb w ha hb (by omega) h0 h2 (by omega)
    · exact by_long B1 B2 m k va vb w ha hb hla (by omega) (by omega)
end Go.Proofs.YtmnibfdenmeepaaDoor
/- number.gcd of the program. -/
namespace Go.Proofs.YtmnibfdenmeepaaDoor
open Go.RowKit Go.Shelf Big

theorem len_le32 {a b K : Nat} (h : a ≤ b) (hb : (lims 4294967296 b).length ≤ K) : (lims 4294967296 a).length ≤ K :=
  (lims_len_le w32_ge a K).2 (Nat.lt_of_le_of_lt h ((lims_len_le w32_ge b K).1 hb))
theorem NatIs.len0 {w : World} {B l c n : Nat} {a : Option Addr} (h : NatIs w B (.slice a l c) n) : (l = 0 ∧ n = 0) ∨ (0 < l ∧ 0 < n) := by
  obtain ⟨_, _, hav⟩ := h.slice
  injection hav with _ hl _
  have : (lims 4294967296 n).length = 0 ↔ n = 0 := by rw [List.length_eq_zero_iff, lims_nil w32_ge]
  omega
theorem NatIs.notBig {w : World} {B n g : Nat} {v : Value} {cs : Array Value} (h : NatIs w B v n) (hx : Has w g 46 cs) : ∀ b, v.ownBlock = some b → b ≠ g := by
  intro b hb e
  subst e
  rcases h.2 with ⟨rfl, _⟩ | ⟨g', cap, cur, rfl, h2, h3, _⟩
  · cases hb
  · have : g' = b := by
      have h : some g' = some b := hb
      injection h
    subst this
    have h4 : some (Obj.cells cur 75) = some (Obj.cells cs 46) := h3.symm.trans hx
    injection h4 with h5
    injection h5 with _ h6
    exact absurd h6 (by decide)
set_option maxRecDepth 100000 in
set_option maxHeartbeats 4000000 in
theorem gcd_any (B1 B2 m k : Nat) (va vb : Value) (s t l1 o1 l2 o2 : Bool) (w : World) (ha : NatIs w B1 va m) (hb : NatIs w B2 vb k) (hla : (lims 4294967296 m).length ≤ 100000) (hlb : (lims 4294967296 k).length ≤ 100000) :
    Calls Tryd.prog 81 #[.agg #[.bool s, va, .bool l1, .bool o1], .agg #[.bool t, vb, .bool l2, .bool o2]] w fun e w' => NumIs 0 false (Nat.gcd m k) w' e ∧ Below w.heap.size w w' := by
  obtain ⟨av, ca, rfl⟩ := ha.slice
  obtain ⟨bv, cb, rfl⟩ := hb.slice
  obtain ⟨lv, hlv⟩ : ∃ lv, (lims 4294967296 m).length = lv := ⟨_, rfl⟩
  obtain ⟨lu, hlu⟩ : ∃ lu, (lims 4294967296 k).length = lu := ⟨_, rfl⟩
  rw [hlv] at ha ⊢
  rw [hlu] at hb ⊢
  obtain ⟨W0, hW0⟩ : ∃ W0, ((w.alloc (.cells #[.bool s, .slice av lv ca, .bool l1, .bool o1] 46)).alloc (.cells #[.bool t, .slice bv lu cb, .bool l2, .bool o2] 46)).alloc (.cells #[.bool false, .slice none 0 0, .bool false, .bool false] 46) = W0 := ⟨_, rfl⟩
  have hz0 : W0.heap.size = w.heap.size + 3 := by rw [← hW0]; simp
  have hA : NatIs W0 0 (.slice av lv ca) m := by rw [← hW0]; exact NatIs.mono (((ha.alloc _).alloc _).alloc _) (Nat.zero_le _)
  have hB : NatIs W0 0 (.slice bv lu cb) k := by rw [← hW0]; exact NatIs.mono (((hb.alloc _).alloc _).alloc _) (Nat.zero_le _)
  have hX : Has W0 w.heap.size 46 #[.bool s, .slice av lv ca, .bool l1, .bool o1] := by rw [← hW0]; exact ((Has.new w _ _).alloc _).alloc _
  have hY : Has W0 (w.heap.size + 1) 46 #[.bool t, .slice bv lu cb, .bool l2, .bool o2] := by rw [← hW0]; exact (Has.new' (n := w.heap.size + 1) (by simp) _ _).alloc _
  have hR : Has W0 (w.heap.size + 2) 46 #[.bool false, .slice none 0 0, .bool false, .bool false] := by rw [← hW0]; exact Has.new' (n := w.heap.size + 2) (by simp) _ _
  have hBB : Below w.heap.size w W0 := by rw [← hW0]; exact (((Below.refl _ w).alloc (Nat.le_refl _) _).alloc (by simp) _).alloc (by simp; omega) _
  have HW := Lib.hid hW0
  have HAB := Lib.hid (And.intro hA hB)
  have HL := Lib.hid (And.intro hla hlb)
  obtain ⟨gg, hgg⟩ : ∃ gg, Nat.gcd m k = gg := ⟨_, rfl⟩
  rw [hgg]
  clear hlv hlu ha hb hW0 hla hlb hA hB
  go_enter Tryd.func81, Tryd.ntmps81
  go_upto_region 1 with fail
  rw [HW.out]
  clear HW
  have c1 := Has.cell hX 1
  have c2 := Has.cell hY 1
  go_quiet (fail)
  obtain ⟨W1, hW1⟩ : ∃ W1, W0.drewN nq = W1 := ⟨_, rfl⟩
  rw [hW1]
  have hA1 : NatIs W1 0 (.slice av lv ca) m := by rw [← hW1]; exact own_below HAB.out.1 (below_drewN (Below.refl _ _) _)
  have hB1 : NatIs W1 0 (.slice bv lu cb) k := by rw [← hW1]; exact own_below HAB.out.2 (below_drewN (Below.refl _ _) _)
  have hR1 : Has W1 (w.heap.size + 2) 46 #[.bool false, .slice none 0 0, .bool false, .bool false] := by rw [← hW1]; exact hR
  have hBB1 : Below w.heap.size w W1 := by rw [← hW1]; exact below_drewN hBB _
  have hz1 : W1.heap.size = w.heap.size + 3 := by rw [← hW1]; exact hz0
  clear hW1 c1 c2 hX hY hR hBB hz0
  clear nq
  go_wp2
  go_loopg [5, 6] k (fun gh v5 v6 wx => ∃ (a : Nat) (x : Option Addr) (lx cx : Nat) (y : Option Addr) (ly cy : Nat), v5 = .slice x lx cx ∧ v6 = .slice y ly cy ∧ NatIs wx 0 (.slice x lx cx) a ∧ NatIs wx 0 (.slice y ly cy) gh ∧ Nat.gcd a gh = gg ∧ (lims 4294967296 a).length ≤ 100000 ∧ (lims 4294967296 gh).length ≤ 100000 ∧ Has wx (w.heap.size + 2) 46 #[.bool false, .slice none 0 0, .bool false, .bool false] ∧ Below w.heap.size w wx ∧ w.heap.size + 3 ≤ wx.heap.size)
  case atStart => exact ⟨m, av, lv, ca, bv, lu, cb, rfl, rfl, hA1, hB1, hgg, HL.out.1, HL.out.2, hR1, hBB1, by omega⟩
  case round =>
    obtain ⟨a, x, lx, cx, y, ly, cy, rfl, rfl, hA, hB, hgc, hl1, hl2, hR, hBl, hzr⟩ := hrel
    have h0 := NatIs.len0 hB
    rcases h0 with ⟨rfl, h0⟩ | ⟨h0, h1⟩
    · have HA := Lib.hid (show NatIs wr 0 (.slice x lx cx) gg by rw [← hgc, h0, Nat.gcd_zero_right]; exact hA)
      obtain ⟨r0, r1, r2, r3, f0, f1, f2, f3⟩ := hR.four
      have HR := Lib.hid hR
      have HBl := Lib.hid hBl
      clear hA hB hgc hl1 hl2 hR hBl h0 hA1 hB1 hR1 hBB1
      have HF := Lib.hid (fun (a1 a2 a3 a4 : Value) => show NatIs ((((wr.setCell ⟨w.heap.size + 2, 0, none⟩ a1).setCell ⟨w.heap.size + 2, 1, none⟩ a2).setCell ⟨w.heap.size + 2, 2, none⟩ a3).setCell ⟨w.heap.size + 2, 3, none⟩ a4) 0 (.slice x lx cx) gg from NatIs.apart4 HA.out (NatIs.notBig HA.out HR.out) _ _ _ _)
      clear HA
      go_wp2_with fail
      exact bodyPost_ret (v := .agg #[.bool false, .slice x lx cx, .bool false, .bool false]) (by simp [results, Tryd.results81, go_sem, World.cell?_setCell_same', r0, r1, r2, r3]) rfl ⟨⟨_, rfl, HF.out _ _ _ _⟩, Below.four HBl.out (by omega) _ _ _ _⟩
    · have hlp : (ly : Int) > 0 := by omega
      have HBy := Lib.hid (by_any hl1 hl2 h1 0 0 _ _ wr hA hB)
      have HN := Lib.hid (And.intro hgc (And.intro hl1 (And.intro hl2 h1)))
      have HB := Lib.hid (fun W (h : Below wr.heap.size wr W) => hB.kept h)
      have HR := Lib.hid hR
      have HBl := Lib.hid hBl
      clear hA hB hgc hl1 hl2 hR hBl hA1 hB1 hR1 hBB1
      go_wp2_with fail
      refine HBy.out.mono ?_
      rintro e w2 ⟨⟨a1, n1, c1, a2, n2, c2, rfl, hq, hr⟩, hb2⟩
      have hz2 := hb2.size
      have HY := Lib.hid (HB.out w2 hb2)
      have HM := Lib.hid (NatIs.mono hr (Nat.zero_le _))
      have HR2 := Lib.hid (HR.out.below hb2)
      have HB2 := Lib.hid (HBl.out.trans (hb2.mono (by omega)))
      have hlt : a % gk < gk := Nat.mod_lt _ h1
      clear hq hr hb2
      go_wp2_with fail
      go_roundg (a % gk)
      case measure => exact hlt
      case rel =>
        refine ⟨gk, y, ly, cy, a2, n2, c2, rfl, rfl, HY.out, HM.out, ?_, HN.out.2.2.1, len_le32 (Nat.le_of_lt hlt) HN.out.2.2.1, HR2.out, HB2.out, by omega⟩
        rw [Nat.gcd_comm, ← Nat.gcd_rec, Nat.gcd_comm]
        exact HN.out.1
end Go.Proofs.YtmnibfdenmeepaaDoor
/- two of the program, where a result may be an argument's own; Gcd. -/
namespace Go.Proofs.YtmnibfdenmeepaaDoor
open Go.RowKit Go.Shelf Big

/-- A function value that reckons f, its result laid anywhere. -/
def DoesB (K : FuncId) (f : Int → Int → Int) : Prop :=
  (∀ args w, (callFunc K args).run Tryd.prog w = .ok (.enter K args) w) ∧
  ∀ (B1 B2 m k : Nat) (va vb : Value) (s t l1 o1 l2 o2 : Bool) (w : World), NatIs w B1 va m → NatIs w B2 vb k → (lims 4294967296 m).length ≤ 100000 → (lims 4294967296 k).length ≤ 100000 →
    Calls Tryd.prog K #[.agg #[.bool s, va, .bool l1, .bool o1], .agg #[.bool t, vb, .bool l2, .bool o2]] w fun e w' => (∃ r n B, NumIs B r n w' e ∧ sgI r n = f (sgI s m) (sgI t k)) ∧ Below w.heap.size w w'
set_option maxRecDepth 100000 in
set_option maxHeartbeats 2000000 in
theorem two_base (K : FuncId) (f : Int → Int → Int) (hK : DoesB K f) (hf : Tame f) (a b : ByteArray) (w : World) (ha : a.size ≤ 1000) (hb : b.size ≤ 1000) :
    Calls Tryd.prog 58 #[.string a, .string b, .func (.func K) #[] #[]] w fun e w' => e = retS (opS f a.data.toList b.data.toList) ∧ Below w.heap.size w w' := by
  obtain ⟨hE, hC⟩ := hK
  have HC := Lib.hid hC
  clear hC
  go_enter Tryd.func58, Tryd.ntmps58
  go_wp2_with fail
  refine (parseTwo_any a b w ha hb).mono ?_
  rintro e w1 ⟨⟨s1, a1, n1, c1, g1, o1, t1, s2, a2, n2, c2, g2, o2, t2, rfl, hf1, hf2⟩, hb1⟩
  have hz1 := hb1.size
  have HF1 := Lib.hid hf1
  have HF2 := Lib.hid hf2
  clear hf1 hf2
  have hno : (t1 && t2) = false → retS (opS f a.data.toList b.data.toList) = .returned (.tuple #[.string ⟨#[]⟩, .int .i64 2]) := by
    intro h
    unfold opS
    rcases HF1.out with ⟨rfl, z, hz, _⟩ | ⟨rfl, hz⟩
    · rcases HF2.out with ⟨rfl, z2, hz2, _⟩ | ⟨rfl, hz2⟩
      · simp at h
      · rw [hz, hz2]; rfl
    · rw [hz]; rfl
  have HNO := Lib.hid hno
  clear hno
  have hbel : ∀ x y, Below w.heap.size w ((w1.alloc x).alloc y) := fun x y => (hb1.alloc hz1 x).alloc (by simp; omega) y
  have HBE := Lib.hid hbel
  clear hbel
  cases t1 <;> cases t2
  case true.true =>
    obtain ⟨z1, hz1', hs1, hg1, hn1⟩ : ∃ z : Int, numOf a.data.toList = some z ∧ s1 = decide (z < 0) ∧ g1 = tooL z.natAbs ∧ NatIs w1 w.heap.size (.slice a1 n1 c1) z.natAbs := by
      rcases HF1.out with ⟨_, h⟩ | ⟨h, _⟩
      · exact h
      · cases h
    obtain ⟨z2, hz2', hs2, hg2, hn2⟩ : ∃ z : Int, numOf b.data.toList = some z ∧ s2 = decide (z < 0) ∧ g2 = tooL z.natAbs ∧ NatIs w1 w.heap.size (.slice a2 n2 c2) z.natAbs := by
      rcases HF2.out with ⟨_, h⟩ | ⟨h, _⟩
      · exact h
      · cases h
    have HOP := Lib.hid (show opS f a.data.toList b.data.toList = if tooL z1.natAbs || tooL z2.natAbs then ([], 4) else told (f z1 z2) by unfold opS; rw [hz1', hz2'])
    have HS := Lib.hid (And.intro hs1 hs2)
    have HG := Lib.hid (And.intro hg1 hg2)
    have HN1 := Lib.hid (fun x y => (hn1.alloc x).alloc y)
    have HN2 := Lib.hid (fun x y => (hn2.alloc x).alloc y)
    clear hz1' hz2' hs1 hs2 hg1 hg2 hn1 hn2 HNO HF1 HF2
    cases g1 <;> cases g2
    case false.false =>
      have hl1 := short_of HG.out.1.symm
      have hl2 := short_of HG.out.2.symm
      have HT := Lib.hid (hf z1 z2 HG.out.1.symm HG.out.2.symm)
      go_wp2_with fail
      refine (HC.out w.heap.size w.heap.size z1.natAbs z2.natAbs _ _ _ _ _ _ _ _ _ (HN1.out _ _) (HN2.out _ _) hl1 hl2).mono ?_
      rintro e w2 ⟨⟨r, n, B9, ⟨v, rfl, hn⟩, hsg⟩, hb2⟩
      rw [HS.out.1, HS.out.2, sg_z, sg_z] at hsg
      have hz2 := hb2.size
      have hnl : (lims 4294967296 n).length ≤ 100000 := by
        have h := HT.out
        rwa [← hsg, sg_abs] at h
      have HSG := Lib.hid hsg
      obtain ⟨v9, c9, rfl⟩ := hn.slice
      clear hsg
      go_wp2_with fail
      refine (text_any _ n _ _ _ _ _ hn hnl).mono ?_
      rintro e w3 ⟨ht, hb3⟩
      have htd := ht.told
      rw [HSG.out] at htd
      have HOP2 := Lib.hid (show opS f a.data.toList b.data.toList = told (f z1 z2) by rw [HOP.out, ← HG.out.1, ← HG.out.2]; rfl)
      clear ht
      unfold retS at htd
      subst htd
      go_wp2
      go_ret2
      exact ⟨by rw [HOP2.out]; rfl, ((HBE.out _ _).trans (hb2.mono (by simp; omega))).trans (hb3.mono (by simp at hz2; omega))⟩
    all_goals
      have HOP2 := Lib.hid (show opS f a.data.toList b.data.toList = ([], 4) by rw [HOP.out, ← HG.out.1, ← HG.out.2]; rfl)
      go_wp2
      go_ret2
      exact ⟨by rw [HOP2.out]; rfl, HBE.out _ _⟩
  all_goals
    go_wp2
    go_ret2
    exact ⟨(HNO.out rfl).symm, HBE.out _ _⟩

/-- The greatest common divisor. -/
def gcdZ (x y : Int) : Int := (Nat.gcd x.natAbs y.natAbs : Int)
theorem does_gcd : DoesB 81 gcdZ := ⟨enters_of Tryd.func81 (by kernel_rfl) rfl, fun B1 B2 m k va vb s t l1 o1 l2 o2 w ha hb hl1 hl2 => (gcd_any B1 B2 m k va vb s t l1 o1 l2 o2 w ha hb hl1 hl2).mono fun e w' ⟨h, hb⟩ => ⟨⟨false, Nat.gcd m k, 0, h, by unfold gcdZ; rw [sg_abs, sg_abs]; rfl⟩, hb⟩⟩
theorem tame_gcd : Tame gcdZ := fun x y h1 h2 => by
  unfold gcdZ
  rw [Int.natAbs_natCast]
  rcases Nat.eq_zero_or_pos x.natAbs with h | h
  · rw [h, Nat.gcd_zero_left]; exact short_of h2
  · exact len_le32 (Nat.gcd_le_left _ h) (short_of h1)
theorem Gcd_any (a b : ByteArray) (w : World) (ha : a.size ≤ 1000) (hb : b.size ≤ 1000) :
    Calls Tryd.prog 28 #[.string a, .string b] w fun e w' => e = retS (opS gcdZ a.data.toList b.data.toList) ∧ Below w.heap.size w w' := by
  have ht := two_base _ _ does_gcd tame_gcd a b w ha hb
  generalize opS gcdZ a.data.toList b.data.toList = p at ht ⊢
  obtain ⟨l, c⟩ := p
  unfold retS at ht ⊢
  go_enter Tryd.func28, Tryd.ntmps28
  go_wp2_with (go_at_call 58; refine ht.mono ?_; rintro e w1 ⟨rfl, hb1⟩)
  go_ret2
  exact ⟨rfl, hb1⟩
end Go.Proofs.YtmnibfdenmeepaaDoor
/- Sign of the reference. -/
namespace Go.Proofs.YtmnibfdenmeepaaDoor
open Go.RowKit Go.Shelf Big

theorem sgn_none {l : List UInt8} (h : numOf l = none) : cmpS l [48] = (0, 2) := by unfold cmpS; rw [h]
theorem sgn_is {l : List UInt8} {z : Int} (h : numOf l = some z) : cmpS l [48] = if tooL z.natAbs then (0, 4) else (ordZ z 0, 0) := by
  unfold cmpS
  rw [h, show numOf [48] = some 0 by decide]
  show (if tooL z.natAbs || tooL (0 : Int).natAbs then _ else _) = _
  rw [show tooL (0 : Int).natAbs = false from tool_small (by decide), Bool.or_false]
def sgS : Nat → Nat := fun i => if i = 3 then 2 else if i = 4 then 3 else i + 16
def sgPr (W0 : World) (s1 : Bool) (a1 : Option Addr) (n1 c1 : Nat) (O : Int) : Nat → Value → World → Prop
  | 0, v, _ => v = .agg #[.bool s1, .slice a1 n1 c1]
  | 1, v, w => ∃ a l c, v = .agg #[.bool false, .slice a l c] ∧ DecIs w W0.heap.size (.slice a l c) 0
  | 2, v, _ => v = .int .i64 O
  | 3, v, _ => v = .int .i64 O
  | _, v, _ => v = .int .i64 0
theorem sgPr_stays (W0 : World) (s1 : Bool) (a1 : Option Addr) (n1 c1 : Nat) (O : Int) : Stays 5 (sgPr W0 s1 a1 n1 c1 O) := by
  intro i v w w' hi hb h
  match i, h with
  | 0, h => exact h
  | 1, h => obtain ⟨a, l, c, e, hd⟩ := h; exact ⟨a, l, c, e, hd.kept hb⟩
  | 2, h => exact h
  | 3, h => exact h
  | 4, h => exact h
  | n + 5, _ => omega
set_option maxRecDepth 100000 in
set_option maxHeartbeats 4000000 in
theorem rSign_any (a : ByteArray) (w : World) (ha : a.size ≤ k900) :
    Calls Tryd.prog 39 #[.string a] w fun e w' => e = retC (cmpS a.data.toList [48]) ∧ Below w.heap.size w w' := by
  have HN := Lib.hid (rOne_any a w (Nat.le_trans ha (by decide)))
  have HNZ := Lib.hid (fun B W s v z (h : NP B a.data.toList W s v) (hz : numOf a.data.toList = some z) => h.nz hz (by rw [← Lib.size_eq]; exact ha))
  clear ha
  go_enter Tryd.func39, Tryd.ntmps39
  go_wp2_with fail
  refine HN.out.mono ?_
  rintro e w1 ⟨⟨s1, a1, n1, c1, rfl, hnp⟩, hb1⟩
  have HB1 := Lib.hid (fun o => hb1.alloc hb1.size o)
  cases hO : numOf a.data.toList with
  | none =>
    rw [hO] at hnp
    have HR := Lib.hid (sgn_none hO)
    rw [show oneC (none : Option Int).isSome = 2 from rfl]
    clear hb1 hO hnp
    go_wp2
    go_ret2
    exact ⟨by rw [HR.out]; rfl, HB1.out _⟩
  | some z =>
    obtain ⟨⟨rfl, hd⟩, hl1⟩ := HNZ.out _ _ _ _ _ (hnp (by rw [hO]; rfl)) hO
    rw [show oneC (some z).isSome = 0 from rfl]
    have HI := Lib.hid (sgn_is hO)
    clear hnp hO HNZ HN
    obtain ⟨W1, hW1⟩ : ∃ W1, w1.alloc (.cells #[.bool (decide (z < 0)), .slice a1 n1 c1] 51) = W1 := ⟨_, rfl⟩
    have hG : Has W1 w1.heap.size 51 #[.bool (decide (z < 0)), .slice a1 n1 c1] := by rw [← hW1]; exact Has.new _ _ _
    have hD : DecIs W1 w.heap.size (.slice a1 n1 c1) z.natAbs := by rw [← hW1]; exact hd.alloc _
    have hB : Below w.heap.size w W1 := by rw [← hW1]; exact HB1.out _
    have hzW : w1.heap.size < W1.heap.size := by rw [← hW1]; simp
    have hz1 := hb1.size
    obtain ⟨s1, hs1⟩ : ∃ s1, decide (z < 0) = s1 := ⟨_, rfl⟩
    have HS := Lib.hid hs1
    rw [hs1] at hG hW1 ⊢
    have HW1 := Lib.hid hW1
    clear hd hs1 hb1 HB1 hW1
    have HLg := Lib.hid (rLong_any w.heap.size z.natAbs s1 _ W1 hD)
    go_upto_region 4 with fail
    rw [HW1.out]
    clear HW1
    generalize w1.heap.size = g at *
    obtain ⟨q0, q1, q2, q3⟩ := cells_two hG
    cases ht : tooL z.natAbs with
    | true =>
      have HR := Lib.hid (show cmpS a.data.toList [48] = (0, 4) by rw [HI.out, ht]; rfl)
      rw [ht] at HLg
      clear hD ht
      go_wp2_with fail
      refine HLg.out.mono ?_
      rintro e w2 ⟨rfl, hb2⟩
      have HB2 := Lib.hid (hB.trans (hb2.mono (by omega)))
      clear hb2
      go_wp2
      go_ret2
      exact ⟨by rw [HR.out]; rfl, HB2.out⟩
    | false =>
      have HR := Lib.hid (show cmpS a.data.toList [48] = (ordZ z 0, 0) by rw [HI.out, ht]; rfl)
      rw [ht] at HLg
      clear ht
      go_wp2_with fail
      refine HLg.out.mono ?_
      rintro e w2 ⟨rfl, hb2⟩
      have hB2 := hB.trans (hb2.mono (by omega))
      have hG2 := hG.below hb2
      have hD2 := hD.kept hb2
      have hz2 := hb2.size
      clear hb2 hG hD hB HLg q0 q1 q2 q3
      have HOr := Lib.hid (fun W (hW : Below w2.heap.size w2 W) v (hv : DecIs W w2.heap.size v 0) => rOrder_any w.heap.size w2.heap.size z.natAbs 0 _ v s1 false W (hD2.kept hW) hv (by omega) (by rw [lims_zero]; simp))
      rw [show sgI s1 z.natAbs = z by rw [← HS.out]; exact sg_z z, show sgI false 0 = 0 from rfl] at HOr
      obtain ⟨O, hOO⟩ : ∃ O, ordZ z 0 = O := ⟨_, rfl⟩
      rw [hOO] at HOr HR
      clear hOO
      go_wp2_with fail
      have hst := sgPr_stays w2 s1 a1 n1 c1 O
      refine wp_region_inv (Inv := fun listed x' w' => ∃ u, x' = { tmps := #[.string a, undef, u 2, u 3, .pointer (some ⟨g, 0, none⟩), .int .i64 0, .tuple #[.agg #[.bool s1, .slice a1 n1 c1], .int .i64 0], .string a, .tuple #[.agg #[.bool s1, .slice a1 n1 c1], .int .i64 0], .agg #[.bool s1, .slice a1 n1 c1], .int .i64 0, .int .i64 0, .bool false, undef, .agg #[.bool s1, .slice a1 n1 c1], .bool false, u 16, u 17, u 18], defers := [] } ∧ RegRow w2 5 false sgS (sgPr w2 s1 a1 n1 c1 O) (fun _ _ => True) (fun i => listed.getD i false) u w') (by kernel_rfl) (ord_of (by kernel_rfl)) ?h0 ?step ?fin
      case h0 => exact ⟨fun i => if i = 2 then .int .i64 0 else if i = 3 then .int .i64 0 else undef, rfl, RegRow.start (none_listed _)⟩
      case fin =>
        rintro listed x' w' ⟨u, rfl, F⟩ hall
        have e4 : u 2 = _ := F.each 3 (by decide) (fun h => by cases h) (hall 3 (by decide))
        have e5 : u 3 = _ := F.each 4 (by decide) (fun h => by cases h) (hall 4 (by decide))
        have hbF := hB2.trans (F.below.mono (show w.heap.size ≤ w2.heap.size by omega))
        rw [e4, e5]
        clear F hall e4 e5 hB2
        go_wp2
        go_ret2
        exact ⟨by rw [HR.out]; rfl, hbF⟩
      case step =>
        rintro listed x' w' i ⟨u, rfl, F⟩ hi hn hd
        have h11 : i = 0 ∨ i = 1 ∨ i = 2 ∨ i = 3 ∨ i = 4 := by
          have : i < 5 := hi
          omega
        rcases h11 with rfl | rfl | rfl | rfl | rfl
        · obtain ⟨q0, q1, -⟩ := cells_two (hG2.below F.below)
          refine wpOp_by rfl rfl (fun K hK => ?_)
          go_simp
          exact hK _ _ ⟨_, by simp [upd, sgS], F.put 0 hst (by decide) (by decide) hn (Below.refl _ _) rfl⟩
        · refine wpOp_by rfl rfl (fun K hK => ?_)
          go_simp
          refine (rWhole_any 0 (by decide) (by decide) _).mono ?_
          rintro e w3 ⟨⟨v, rfl, hv⟩, hb1⟩
          obtain ⟨a9, c9, rfl⟩ := hv.slice
          exact hK _ _ ⟨_, by simp [upd, sgS], F.put 1 hst (by decide) (by decide) hn hb1 ⟨a9, _, c9, rfl, DecIs.mono hv F.below.size⟩⟩
        · have e0 : u 16 = _ := F.got 0 (by decide) 2 hn (by decide) (hd _ rfl ⟨0, .data⟩ (by simp) rfl)
          obtain ⟨a9, l9, c9, e1, hv⟩ := F.got 1 (by decide) 2 hn (by decide) (hd _ rfl ⟨1, .data⟩ (by simp) rfl)
          have e1 : u 17 = _ := e1
          refine wpOp_by rfl rfl (fun K hK => ?_)
          go_simp
          refine (HOr.out _ F.below _ hv).mono ?_
          rintro e w3 ⟨rfl, hb1⟩
          exact hK _ _ ⟨_, by simp [upd, sgS, e0, e1], F.put 2 hst (by decide) (by decide) hn hb1 rfl⟩
        · have e2 : u 18 = _ := F.got 2 (by decide) 3 hn (by decide) (hd _ rfl ⟨2, .data⟩ (by simp) rfl)
          refine wpOp_by rfl rfl (fun K hK => ?_)
          go_simp
          exact hK _ _ ⟨_, by simp [upd, sgS, e2], F.put 3 hst (by decide) (by decide) hn (Below.refl _ _) rfl⟩
        · refine wpOp_by rfl rfl (fun K hK => ?_)
          go_simp
          exact hK _ _ ⟨_, by simp [upd, sgS], F.put 4 hst (by decide) (by decide) hn (Below.refl _ _) rfl⟩
end Go.Proofs.YtmnibfdenmeepaaDoor
/- Div of the reference, where nothing is too long. -/
namespace Go.Proofs.YtmnibfdenmeepaaDoor
open Go.RowKit Go.Shelf Big

theorem others_one {w : World} {g B : Nat} {s : Bool} {v : Value} {n : Nat} (h : Has w g 51 #[.bool s, v]) (h1 : DecIs w B v n) : Others w g 1 (fun _ => tooL n) := by
  intro W hW i hi
  obtain rfl : i = 0 := by omega
  have hx := h.below hW
  exact ⟨s, v, n, B, hx.cell 0, hx.cell 1, h1.kept hW, rfl⟩
theorem any_one (t : Bool) : anyL (fun _ => t) 1 = t := by
  unfold anyL
  simp [List.range_succ]
set_option maxRecDepth 100000 in
set_option maxHeartbeats 4000000 in
theorem rDiv_of (a b : ByteArray) (w : World) (ha : a.size ≤ k900) (hb : b.size ≤ k900) (x y : Int) (hx : numOf a.data.toList = some x) (hy : numOf b.data.toList = some y) (htx : tooL x.natAbs = false) (hty : tooL y.natAbs = false) (hy0 : y ≠ 0)
    (hq : tooL (divQ (decide (x < 0)) (decide (y < 0)) x.natAbs y.natAbs).natAbs = false) (hr : tooL (x - divQ (decide (x < 0)) (decide (y < 0)) x.natAbs y.natAbs * y).natAbs = false) :
    Calls Tryd.prog 25 #[.string a, .string b] w fun e w' => e = .returned (.tuple #[.string ⟨(txt (divQ (decide (x < 0)) (decide (y < 0)) x.natAbs y.natAbs)).toArray⟩, .string ⟨(txt (x - divQ (decide (x < 0)) (decide (y < 0)) x.natAbs y.natAbs * y)).toArray⟩, .int .i64 0]) ∧ Below w.heap.size w w' := by
  have HB2 := Lib.hid (rBoth_any a b w (Nat.le_trans ha (by decide)) (Nat.le_trans hb (by decide)))
  have HNZ1 := Lib.hid (fun B W s v z (h : NP B a.data.toList W s v) (hz : numOf a.data.toList = some z) => h.nz hz (by rw [← Lib.size_eq]; exact ha))
  have HNZ2 := Lib.hid (fun B W s v z (h : NP B b.data.toList W s v) (hz : numOf b.data.toList = some z) => h.nz hz (by rw [← Lib.size_eq]; exact hb))
  obtain ⟨Q, hQ⟩ : ∃ Q, divQ (decide (x < 0)) (decide (y < 0)) x.natAbs y.natAbs = Q := ⟨_, rfl⟩
  obtain ⟨R, hR⟩ : ∃ R, x - Q * y = R := ⟨_, rfl⟩
  rw [hQ] at hq hr ⊢
  rw [hR] at hr ⊢
  have HQR := Lib.hid (And.intro hQ hR)
  have HT := Lib.hid (And.intro htx (And.intro hty (And.intro hq hr)))
  obtain ⟨tq, htq⟩ : ∃ tq, (⟨(txt Q).toArray⟩ : ByteArray) = tq := ⟨_, rfl⟩
  obtain ⟨tr, htr⟩ : ∃ tr, (⟨(txt R).toArray⟩ : ByteArray) = tr := ⟨_, rfl⟩
  rw [htq, htr]
  have HTQ := Lib.hid (And.intro htq htr)
  have HY0 := Lib.hid hy0
  have HX := Lib.hid (And.intro hx hy)
  clear ha hb hQ hR htx hty hq hr htq htr hy0 hx hy
  go_enter Tryd.func25, Tryd.ntmps25
  go_wp2_with fail
  refine HB2.out.mono ?_
  rintro e w1 ⟨⟨s1, a1, n1, c1, s2, a2, n2, c2, rfl, hnp⟩, hb1⟩
  have hok : ((numOf a.data.toList).isSome && (numOf b.data.toList).isSome) = true := by rw [HX.out.1, HX.out.2]; rfl
  obtain ⟨hp1, hp2⟩ := hnp hok
  obtain ⟨⟨rfl, hd1⟩, hl1⟩ := HNZ1.out _ _ _ _ _ hp1 HX.out.1
  obtain ⟨⟨rfl, hd2⟩, hl2⟩ := HNZ2.out _ _ _ _ _ hp2 HX.out.2
  rw [hok]
  simp only [if_true]
  have hz1 := hb1.size
  obtain ⟨W0, hW0⟩ : ∃ W0, (w1.alloc (.cells #[.bool (decide (x < 0)), .slice a1 n1 c1] 51)).alloc (.cells #[.bool (decide (y < 0)), .slice a2 n2 c2] 51) = W0 := ⟨_, rfl⟩
  have hD1 : DecIs W0 w.heap.size (.slice a1 n1 c1) x.natAbs := by rw [← hW0]; exact (hd1.alloc _).alloc _
  have hD2 : DecIs W0 w.heap.size (.slice a2 n2 c2) y.natAbs := by rw [← hW0]; exact (hd2.alloc _).alloc _
  have hX : Has W0 w1.heap.size 51 #[.bool (decide (x < 0)), .slice a1 n1 c1] := by rw [← hW0]; exact (Has.new w1 _ _).alloc _
  have hY : Has W0 (w1.heap.size + 1) 51 #[.bool (decide (y < 0)), .slice a2 n2 c2] := by rw [← hW0]; exact Has.new' (n := w1.heap.size + 1) (by simp) _ _
  have hz0 : W0.heap.size = w1.heap.size + 2 := by rw [← hW0]; simp
  have hBB : Below w.heap.size w W0 := by rw [← hW0]; exact (hb1.alloc hz1 _).alloc (by simp; omega) _
  have hn20 : 0 < n2 := by
    obtain ⟨_, _, h⟩ := hd2.slice
    injection h with _ h _
    have := dec_len (n := y.natAbs)
    have := HY0.out
    omega
  have hn2e : ((n2 : Int) == 0) = false := by rw [beq_eq_false_iff_ne]; omega
  have hn2n : ¬ (n2 : Int) = 0 := by omega
  have hky : 0 < y.natAbs := by have := HY0.out; omega
  have HDv := Lib.hid (fun W (hW : Below W0.heap.size W0 W) => rDivided_any w.heap.size w.heap.size x.natAbs y.natAbs _ _ (decide (x < 0)) (decide (y < 0)) W (hD1.kept hW) (hD2.kept hW) hky (by omega) (by omega))
  unfold DivdRes at HDv
  rw [sgI_self, sgI_self, HQR.out.1, HQR.out.2] at HDv
  have hA0 : Below W0.heap.size W0 (W0.alloc (.cells #[.bool (decide (x < 0)), .slice a1 n1 c1, .bool (decide (y < 0)), .slice a2 n2 c2] 51)) := (Below.refl _ _).alloc (Nat.le_refl _) _
  have HSh := Lib.hid (rShort_any W0.heap.size 2 2 (tl2 x y) _ (others_two (Has.new W0 51 #[.bool (decide (x < 0)), .slice a1 n1 c1, .bool (decide (y < 0)), .slice a2 n2 c2]) (hD1.kept hA0) (hD2.kept hA0)) (by omega))
  rw [tl2_any, HT.out.1, HT.out.2.1] at HSh
  have HXX := Lib.hid hX
  have HYY := Lib.hid hY
  have HA0 := Lib.hid hA0
  have HBB := Lib.hid hBB
  obtain ⟨x0, x1, -⟩ := cells_two hX
  obtain ⟨y0, y1, -⟩ := cells_two hY
  clear hd1 hd2 hb1 hD1 hD2 hl1 hl2 hX hY hA0 hBB hnp hp1 hp2 hok hky
  rw [hz0] at HSh
  obtain ⟨sx, hsx⟩ : ∃ sx, decide (x < 0) = sx := ⟨_, rfl⟩
  obtain ⟨sy, hsy⟩ : ∃ sy, decide (y < 0) = sy := ⟨_, rfl⟩
  rw [hsx] at HDv HSh HXX x0 hW0 HA0 ⊢
  rw [hsy] at HDv HSh HYY y0 hW0 HA0 ⊢
  clear hsx hsy
  go_wp2_with fail
  refine HSh.out.mono ?_
  rintro e w3 ⟨rfl, hb3⟩
  have hb4 := Below.behind HA0.out hb3
  obtain ⟨p0, p1, -⟩ := cells_two (HXX.out.below hb4)
  obtain ⟨r0, r1, -⟩ := cells_two (HYY.out.below hb4)
  have hz3 := hb4.size
  have HB4 := Lib.hid hb4
  clear hb3 hb4
  go_wp2_with fail
  refine (HDv.out _ HB4.out).mono ?_
  rintro e w5 ⟨⟨v1, v2, rfl, hv1, hv2⟩, hb5⟩
  have hz5 := hb5.size
  obtain ⟨a3, c3, rfl⟩ := hv1.slice
  obtain ⟨a4, c4, rfl⟩ := hv2.slice
  obtain ⟨n3, hn3⟩ : ∃ n3, (lims 10 Q.natAbs).length = n3 := ⟨_, rfl⟩
  obtain ⟨n4, hn4⟩ : ∃ n4, (lims 10 R.natAbs).length = n4 := ⟨_, rfl⟩
  rw [hn3] at hv1 ⊢
  rw [hn4] at hv2 ⊢
  obtain ⟨sq, hsq⟩ : ∃ sq, decide (Q < 0) = sq := ⟨_, rfl⟩
  obtain ⟨sr, hsr⟩ : ∃ sr, decide (R < 0) = sr := ⟨_, rfl⟩
  rw [hsq, hsr]
  obtain ⟨W6, hW6⟩ : ∃ W6, (w5.alloc (.cells #[.bool sq, .slice a3 n3 c3] 51)).alloc (.cells #[.bool sr, .slice a4 n4 c4] 51) = W6 := ⟨_, rfl⟩
  have hQ6 : DecIs W6 w3.heap.size (.slice a3 n3 c3) Q.natAbs := by rw [← hW6]; exact (hv1.alloc _).alloc _
  have hR6 : DecIs W6 w3.heap.size (.slice a4 n4 c4) R.natAbs := by rw [← hW6]; exact (hv2.alloc _).alloc _
  have hG6 : Has W6 w5.heap.size 51 #[.bool sq, .slice a3 n3 c3] := by rw [← hW6]; exact (Has.new w5 _ _).alloc _
  have hH6 : Has W6 (w5.heap.size + 1) 51 #[.bool sr, .slice a4 n4 c4] := by rw [← hW6]; exact Has.new' (n := w5.heap.size + 1) (by simp) _ _
  have hz6 : W6.heap.size = w5.heap.size + 2 := by rw [← hW6]; simp
  have hB6 : Below w.heap.size w W6 := by rw [← hW6]; exact ((HBB.out.trans ((HB4.out.trans (hb5.mono hz3)).mono (by omega))).alloc (by omega) _).alloc (by simp; omega) _
  have hL6 : Below W6.heap.size W6 (W6.alloc (.cells #[.bool sr, .slice a4 n4 c4] 51)) := (Below.refl _ _).alloc (Nat.le_refl _) _
  have HTo := Lib.hid (rTold_any w3.heap.size Q.natAbs W6.heap.size 1 1 (fun _ => tooL R.natAbs) sq _ _ (hQ6.kept hL6) (others_one (Has.new W6 51 #[.bool sr, .slice a4 n4 c4]) (hR6.kept hL6)) (by omega))
  have htell : tellS (fun _ => tooL R.natAbs) 1 sq Q.natAbs = (txt Q, 0) := by
    unfold tellS
    rw [any_one, HT.out.2.2.2]
    show toldS sq Q.natAbs = _
    unfold toldS
    rw [HT.out.2.2.1, ← hsq, txtS_sg, sgI_self]
    rfl
  rw [htell] at HTo
  unfold retS at HTo
  rw [HTQ.out.1, hz6] at HTo
  have HTx := Lib.hid (fun W (hW : Below W6.heap.size W6 W) => rText_any w3.heap.size R.natAbs sr _ W (hR6.kept hW) (dec_short HT.out.2.2.2))
  rw [← hsr, txtS_sg, sgI_self, hsr, HTQ.out.2] at HTx
  have HL6 := Lib.hid hL6
  have HH6 := Lib.hid hH6
  have HB6 := Lib.hid hB6
  have HW6 := Lib.hid hW6
  obtain ⟨g0, g1, -⟩ := cells_two hG6
  obtain ⟨h0, h1, -⟩ := cells_two hH6
  clear hv1 hv2 hb5 hQ6 hR6 hG6 hH6 hB6 hL6 htell hn3 hn4 hsq hsr
  go_upto_region 9 with fail
  try rw [HW6.out]
  clear hW6
  go_wp2_with fail
  refine HTo.out.mono ?_
  rintro e w7 ⟨rfl, hb7⟩
  have hb8 := Below.behind HL6.out hb7
  obtain ⟨k0, k1, -⟩ := cells_two (HH6.out.below hb8)
  have HB8 := Lib.hid hb8
  clear hb7 hb8
  go_wp2_with fail
  refine (HTx.out _ HB8.out).mono ?_
  rintro e w9 ⟨rfl, hb9⟩
  have HB9 := Lib.hid (HB6.out.trans ((Below.behind HB8.out hb9).mono (by omega)))
  clear hb9
  go_wp2
  go_ret3
  exact ⟨rfl, HB9.out⟩
end Go.Proofs.YtmnibfdenmeepaaDoor
/- Div of the program by zero; what BigDivides asks for, call by call. -/
namespace Go.Proofs.YtmnibfdenmeepaaDoor
open Go.RowKit Go.Shelf Big

set_option maxRecDepth 100000 in
set_option maxHeartbeats 2000000 in
theorem Div_zero (a b : ByteArray) (w : World) (ha : a.size ≤ 1000) (hb : b.size ≤ 1000) (z1 : Int) (h1 : numOf a.data.toList = some z1) (h2 : numOf b.data.toList = some 0) :
    Calls Tryd.prog 24 #[.string a, .string b] w fun e w' => e = .returned (.tuple #[.string ⟨#[]⟩, .string ⟨#[]⟩, .int .i64 10]) ∧ Below w.heap.size w w' := by
  have H1 := Lib.hid h1
  have H2 := Lib.hid h2
  clear h1 h2
  go_enter Tryd.func24, Tryd.ntmps24
  go_wp2_with fail
  refine (parseTwo_any a b w ha hb).mono ?_
  rintro e w1 ⟨⟨s1, a1, n1, c1, g1, o1, t1, s2, a2, n2, c2, g2, o2, t2, rfl, hf1, hf2⟩, hb1⟩
  have hz1 := hb1.size
  have HBE := Lib.hid (fun x y => (hb1.alloc hz1 x).alloc (by simp; omega) y)
  rcases hf1 with ⟨rfl, z1', hz1', hs1, hg1, hn1⟩ | ⟨rfl, hz1'⟩
  case inr => rw [H1.out] at hz1'; cases hz1'
  rcases hf2 with ⟨rfl, z2', hz2', hs2, hg2, hn2⟩ | ⟨rfl, hz2'⟩
  case inr => rw [H2.out] at hz2'; cases hz2'
  rw [H2.out] at hz2'
  injection hz2' with hz2'
  subst hz2'
  have hg0 : g2 = false := by rw [hg2]; exact tool_small (by decide)
  subst hg0
  have hn20 : n2 = 0 := by
    obtain ⟨_, _, h⟩ := hn2.slice
    injection h with _ h _
    rw [h, show (0 : Int).natAbs = 0 from rfl, lims_zero]
    rfl
  subst hn20
  clear hs1 hs2 hn1 hn2 hg1 hg2 hz1' hb1
  go_wp2
  go_ret3
  exact ⟨rfl, HBE.out _ _⟩
theorem txb_900 {z : Int} (h : tooL z.natAbs = false) : (txb z).size ≤ k900 := by
  show (txt z).toArray.size ≤ k900
  rw [List.size_toArray]
  have h1 : (digs 10 z.natAbs).length ≤ 601 := by
    refine digs_len ?_
    rw [tool_len] at h
    have := of_decide_eq_false h
    omega
  unfold k900 txt
  split
  · rw [List.length_cons]; omega
  · omega
theorem shift_back (x : Int) (N : Nat) : shiftV (x * ((2 ^ N : Nat) : Int)) (-(N : Int)) = x := by
  have hp := pow_pos2 N
  unfold shiftV
  split
  · obtain rfl : N = 0 := by omega
    simp
  · rw [show (-(-(N : Int))).toNat = N by omega, Int.mul_ediv_cancel _ (by omega)]
theorem div_small {x y q r : Int} (h : DivIs x y q r) (hx : x.natAbs < k60) (hy : y.natAbs < k60) : q.natAbs < k60 * 2 ∧ r.natAbs < k60 ∧ (q * y).natAbs < k60 * 2 := by
  obtain ⟨h1, h2⟩ := h
  have h3 : r.natAbs < y.natAbs := by omega
  have h4 : (q * y).natAbs ≤ x.natAbs + r.natAbs := by
    have : q * y = x - r := by omega
    rw [this]
    omega
  have h5 : q.natAbs ≤ (q * y).natAbs := by
    rw [Int.natAbs_mul]
    have := Nat.mul_le_mul_left q.natAbs (show 1 ≤ y.natAbs by omega)
    omega
  omega
theorem div_sign {x y q r : Int} (h : DivIs x y q r) : (ordZ r 0 = 0 ∧ ordZ y 0 = 1) ∨ (ordZ r 0 = 1 ∧ ordZ y 0 = 1) ∨ (ordZ r 0 = 0 ∧ ordZ y 0 = -1) ∨ (ordZ r 0 = -1 ∧ ordZ y 0 = -1) := by
  obtain ⟨-, h2⟩ := h
  unfold ordZ
  rcases h2 with ⟨h3, h4⟩ | ⟨h3, h4⟩
  · by_cases h0 : r = 0
    · left; constructor
      · rw [if_neg (by omega), if_neg (by omega)]
      · rw [if_neg (by omega), if_pos (by omega)]
    · right; left; constructor
      · rw [if_neg (by omega), if_pos (by omega)]
      · rw [if_neg (by omega), if_pos (by omega)]
  · by_cases h0 : r = 0
    · right; right; left; constructor
      · rw [if_neg (by omega), if_neg (by omega)]
      · rw [if_pos (by omega)]
    · right; right; right; constructor
      · rw [if_pos (by omega)]
      · rw [if_pos (by omega)]
theorem tool_k {n : Nat} (h : n < k60 * 4) : tooL n = false := tool_60 (Nat.lt_of_lt_of_le h k60_le)
theorem tool_mono {a b : Nat} (h : a ≤ b) (hb : tooL b = false) : tooL a = false := by
  unfold tooL at *
  have := of_decide_eq_false hb
  exact decide_eq_false (by omega)
theorem sgn_ret {l : ByteArray} {z : Int} (w : World) (hl : l.size ≤ k900) (h : numOf l.data.toList = some z) (ht : tooL z.natAbs = false) :
    Calls Tryd.prog 39 #[.string l] w fun e w' => e = .returned (.tuple #[.int .i64 (ordZ z 0), .int .i64 0]) ∧ Below w.heap.size w w' :=
  (rSign_any l w hl).mono fun e w' ⟨h1, h2⟩ => ⟨by rw [h1, sgn_is h, ht]; rfl, h2⟩
theorem abs_ret {l : ByteArray} {z : Int} (w : World) (hl : l.size ≤ 1000) (h : numOf l.data.toList = some z) (ht : tooL z.natAbs = false) :
    Calls Tryd.prog 32 #[.string l] w fun e w' => e = .returned (.tuple #[.string (txb (z.natAbs : Int)), .int .i64 0]) ∧ Below w.heap.size w w' :=
  (Abs_any l w hl).mono fun e w' ⟨h1, h2⟩ => ⟨h1.trans (ret_one (f := fun x => (x.natAbs : Int)) h ht (by rw [Int.natAbs_natCast]; exact ht)), h2⟩
theorem cmp_ret {x y : Int} (w : World) (hx : tooL x.natAbs = false) (hy : tooL y.natAbs = false) (h : x < y) :
    Calls Tryd.prog 21 #[.string (txb x), .string (txb y)] w fun e w' => e = .returned (.tuple #[.int .i64 (-1), .int .i64 0]) ∧ Below w.heap.size w w' :=
  (rCompare_any (txb x) (txb y) w (txb_900 hx) (txb_900 hy)).mono fun e w' ⟨h1, h2⟩ => ⟨by
    rw [h1]
    unfold cmpS
    rw [num_txb, num_txb]
    simp only [hx, hy, Bool.or_self]
    show retC (ordZ x y, 0) = _
    unfold ordZ retC
    rw [if_pos h], h2⟩
theorem gcd_ret {a : ByteArray} {x : Int} {g : Nat} (w : World) (ha : a.size ≤ k900) (hx : numOf a.data.toList = some x) (hg : 0 < g) (hd : (g : Int) ∣ x) (htx : tooL x.natAbs = false) (htg : tooL g = false) :
    ∃ t : ByteArray, Calls Tryd.prog 25 #[.string a, .string (txb (g : Int))] w fun e w' => e = .returned (.tuple #[.string t, .string ⟨#[48]⟩, .int .i64 0]) ∧ Below w.heap.size w w' := by
  have hs : decide ((g : Int) < 0) = false := by rw [decide_eq_false_iff_not]; omega
  have hq : divQ (decide (x < 0)) (decide ((g : Int) < 0)) x.natAbs (g : Int).natAbs = x / (g : Int) := by
    rw [hs, Int.natAbs_natCast, divQ_is _ _ _ hg, sg_z]
  have hr : x - x / (g : Int) * (g : Int) = 0 := by rw [Int.ediv_mul_cancel hd]; omega
  have hqs : (x / (g : Int)).natAbs ≤ x.natAbs := by
    have e := Int.ediv_mul_cancel hd
    have h1 : (x / (g : Int)).natAbs * g = x.natAbs := by
      have h2 := congrArg Int.natAbs e
      rw [Int.natAbs_mul, Int.natAbs_natCast] at h2
      exact h2
    have h3 := Nat.mul_le_mul_left (x / (g : Int)).natAbs (show 1 ≤ g from hg)
    omega
  have htq : tooL (x / (g : Int)).natAbs = false := tool_mono hqs htx
  have h := rDiv_of a (txb (g : Int)) w ha (txb_900 (by rw [Int.natAbs_natCast]; exact htg)) x (g : Int) hx (num_txb _) htx (by rw [Int.natAbs_natCast]; exact htg) (by omega) (by rw [hq]; exact htq) (by rw [hq, hr]; exact tool_small (by decide))
  rw [hq, hr] at h
  exact ⟨_, h⟩
end Go.Proofs.YtmnibfdenmeepaaDoor
/- Div of the program for all texts; Div of both is the same. -/
namespace Go.Proofs.YtmnibfdenmeepaaDoor
open Go.RowKit Go.Shelf Big

/-- The quotient, rounded down. -/
def dvZ (x y : Int) : Int := divQ (decide (x < 0)) (decide (y < 0)) x.natAbs y.natAbs
def divS (a b : List UInt8) : List UInt8 × List UInt8 × Int :=
  match numOf a, numOf b with
  | some x, some y => if y = 0 then ([], [], 10) else if tooL x.natAbs || tooL y.natAbs then ([], [], 4) else (txt (dvZ x y), txt (x - dvZ x y * y), 0)
  | _, _ => ([], [], 2)
def ret3 (p : List UInt8 × List UInt8 × Int) : Ending := .returned (.tuple #[.string ⟨p.1.toArray⟩, .string ⟨p.2.1.toArray⟩, .int .i64 p.2.2])
theorem divQ_flip (s t : Bool) (m k : Nat) : divQ s t m k = divQ (s != t) false m k := by
  unfold divQ
  cases s <;> cases t <;> rfl
theorem dvZ_is {x y : Int} (hy : y ≠ 0) : DivIs x y (dvZ x y) (x - dvZ x y * y) := by
  refine ⟨by omega, ?_⟩
  unfold dvZ
  rw [divQ_flip, divQ_is _ _ _ (by omega)]
  by_cases hy1 : y < 0
  · right
    rw [decide_eq_true hy1]
    have e : sgI (decide (x < 0) != true) x.natAbs = -x := by
      unfold sgI
      by_cases hx : x < 0
      · rw [decide_eq_true hx]; simp; omega
      · rw [decide_eq_false hx]; simp; omega
    rw [e]
    have hk : (y.natAbs : Int) = -y := by omega
    rw [hk]
    have h1 := Int.mul_ediv_add_emod (-x) (-y)
    have h2 := Int.emod_nonneg (-x) (b := -y) (by omega)
    have h3 := Int.emod_lt_of_pos (-x) (b := -y) (by omega)
    have h4 : -x / -y * y = -(-y * (-x / -y)) := by rw [Int.neg_mul, Int.neg_neg, Int.mul_comm]
    omega
  · left
    rw [decide_eq_false hy1]
    have e : sgI (decide (x < 0) != false) x.natAbs = x := by
      rw [Bool.bne_false]
      exact sg_z x
    rw [e]
    have hk : (y.natAbs : Int) = y := by omega
    rw [hk]
    have h1 := Int.mul_ediv_add_emod x y
    have h2 := Int.emod_nonneg x (b := y) (by omega)
    have h3 := Int.emod_lt_of_pos x (b := y) (by omega)
    have h4 : x / y * y = y * (x / y) := Int.mul_comm _ _
    omega
theorem div_one {x y q r q' r' : Int} (h : DivIs x y q r) (h' : DivIs x y q' r') : q = q' ∧ r = r' := by
  obtain ⟨h1, h2⟩ := h
  obtain ⟨h3, h4⟩ := h'
  have e : (q - q') * y = r' - r := by rw [Int.sub_mul]; omega
  have hd : q - q' = 0 := by
    have ha := congrArg Int.natAbs e
    rw [Int.natAbs_mul] at ha
    rcases Nat.eq_zero_or_pos (q - q').natAbs with h0 | h0
    · omega
    · have := Nat.mul_le_mul_right y.natAbs (show 1 ≤ (q - q').natAbs from h0)
      omega
  have hq : q = q' := by omega
  subst hq
  exact ⟨rfl, by omega⟩
theorem div_abs {x y q r : Int} (h : DivIs x y q r) : q.natAbs ≤ x.natAbs ∧ r.natAbs < y.natAbs := by
  obtain ⟨h1, h2⟩ := h
  refine ⟨?_, by omega⟩
  rcases h2 with ⟨h3, h4⟩ | ⟨h3, h4⟩
  · rcases Int.lt_or_le q 0 with hq | hq
    · have h5 : (q + 1) * y ≤ 0 := Int.mul_nonpos_of_nonpos_of_nonneg (by omega) (by omega)
      rw [Int.add_mul, Int.one_mul] at h5
      have h6 : q * y ≤ q := by
        have := Int.mul_le_mul_of_nonpos_left (show q ≤ 0 by omega) (show 1 ≤ y by omega)
        omega
      have h7 : (q + 1) * y ≤ (q + 1) := by
        rcases Int.lt_or_le (q + 1) 0 with h8 | h8
        · have := Int.mul_le_mul_of_nonpos_left (show q + 1 ≤ 0 by omega) (show 1 ≤ y by omega)
          omega
        · have : q + 1 = 0 := by omega
          rw [this]; omega
      rw [Int.add_mul, Int.one_mul] at h7
      omega
    · have h6 : q ≤ q * y := by
        have := Int.mul_le_mul_of_nonneg_left (show 1 ≤ y by omega) hq
        omega
      omega
  · rcases Int.lt_or_le q 0 with hq | hq
    · have h7 : (-(q + 1)) * (-y) ≥ -(q + 1) := by
        have := Int.mul_le_mul_of_nonneg_left (show 1 ≤ -y by omega) (show 0 ≤ -(q + 1) by omega)
        omega
      rw [Int.neg_mul_neg, Int.add_mul, Int.one_mul] at h7
      omega
    · have h6 : q ≤ q * -y := by
        have := Int.mul_le_mul_of_nonneg_left (show 1 ≤ -y by omega) hq
        omega
      rw [Int.mul_neg] at h6
      omega
theorem divS_none {a b : List UInt8} (h : numOf a = none ∨ numOf b = none) : divS a b = ([], [], 2) := by
  unfold divS
  rcases h with h | h
  · rw [h]
  · rw [h]
    cases numOf a <;> rfl
theorem divS_zero {a b : List UInt8} {x : Int} (hx : numOf a = some x) (hy : numOf b = some 0) : divS a b = ([], [], 10) := by
  unfold divS
  rw [hx, hy]
  exact if_pos rfl
theorem divS_long {a b : List UInt8} {x y : Int} (hx : numOf a = some x) (hy : numOf b = some y) (h0 : y ≠ 0) (h : (tooL x.natAbs || tooL y.natAbs) = true) : divS a b = ([], [], 4) := by
  unfold divS
  rw [hx, hy]
  show (if _ then _ else if _ then _ else _) = _
  rw [if_neg h0, if_pos h]
theorem divS_is {a b : List UInt8} {x y : Int} (hx : numOf a = some x) (hy : numOf b = some y) (h0 : y ≠ 0) (h1 : tooL x.natAbs = false) (h2 : tooL y.natAbs = false) : divS a b = (txt (dvZ x y), txt (x - dvZ x y * y), 0) := by
  unfold divS
  rw [hx, hy]
  show (if _ then _ else if _ then _ else _) = _
  rw [if_neg h0, if_neg (by rw [h1, h2]; decide)]
set_option maxRecDepth 100000 in
set_option maxHeartbeats 2000000 in
theorem Div_none (a b : ByteArray) (w : World) (ha : a.size ≤ 1000) (hb : b.size ≤ 1000) (h : numOf a.data.toList = none ∨ numOf b.data.toList = none) :
    Calls Tryd.prog 24 #[.string a, .string b] w fun e w' => e = .returned (.tuple #[.string ⟨#[]⟩, .string ⟨#[]⟩, .int .i64 2]) ∧ Below w.heap.size w w' := by
  have H := Lib.hid h
  clear h
  go_enter Tryd.func24, Tryd.ntmps24
  go_wp2_with fail
  refine (parseTwo_any a b w ha hb).mono ?_
  rintro e w1 ⟨⟨s1, a1, n1, c1, g1, o1, t1, s2, a2, n2, c2, g2, o2, t2, rfl, hf1, hf2⟩, hb1⟩
  have hz1 := hb1.size
  have HBE := Lib.hid (fun x y => (hb1.alloc hz1 x).alloc (by simp; omega) y)
  have ht : (t1 && t2) = false := by
    rcases hf1 with ⟨rfl, z1', hz1', _⟩ | ⟨rfl, _⟩
    · rcases hf2 with ⟨rfl, z2', hz2', _⟩ | ⟨rfl, _⟩
      · rcases H.out with h | h
        · rw [hz1'] at h; cases h
        · rw [hz2'] at h; cases h
      · rfl
    · rfl
  rw [ht]
  clear ht hf1 hf2 hb1
  go_wp2
  go_ret3
  exact ⟨rfl, HBE.out _ _⟩
set_option maxRecDepth 100000 in
set_option maxHeartbeats 2000000 in
theorem Div_long (a b : ByteArray) (w : World) (ha : a.size ≤ 1000) (hb : b.size ≤ 1000) (x y : Int) (hx : numOf a.data.toList = some x) (hy : numOf b.data.toList = some y) (h0 : y ≠ 0) (h : (tooL x.natAbs || tooL y.natAbs) = true) :
    Calls Tryd.prog 24 #[.string a, .string b] w fun e w' => e = .returned (.tuple #[.string ⟨#[]⟩, .string ⟨#[]⟩, .int .i64 4]) ∧ Below w.heap.size w w' := by
  have H := Lib.hid h
  have H1 := Lib.hid hx
  have H2 := Lib.hid hy
  have HZ := Lib.hid h0
  clear h hx hy h0
  go_enter Tryd.func24, Tryd.ntmps24
  go_wp2_with fail
  refine (parseTwo_any a b w ha hb).mono ?_
  rintro e w1 ⟨⟨s1, a1, n1, c1, g1, o1, t1, s2, a2, n2, c2, g2, o2, t2, rfl, hf1, hf2⟩, hb1⟩
  have hz1 := hb1.size
  have HBE := Lib.hid (fun x y => (hb1.alloc hz1 x).alloc (by simp; omega) y)
  rcases hf1 with ⟨rfl, z1', hz1', hs1, hg1, hn1⟩ | ⟨rfl, hz1'⟩
  case inr => rw [H1.out] at hz1'; cases hz1'
  rcases hf2 with ⟨rfl, z2', hz2', hs2, hg2, hn2⟩ | ⟨rfl, hz2'⟩
  case inr => rw [H2.out] at hz2'; cases hz2'
  rw [H1.out] at hz1'
  rw [H2.out] at hz2'
  injection hz1' with hz1'
  injection hz2' with hz2'
  subst hz1' hz2'
  have hgg : (g1 || g2) = true := by rw [hg1, hg2]; exact H.out
  have hn2p : 0 < n2 := by
    rcases NatIs.len0 hn2 with ⟨_, h⟩ | ⟨h, _⟩
    · have := HZ.out; omega
    · exact h
  have hn2i : ((n2 : Int) == 0) = false := by rw [beq_eq_false_iff_ne]; omega
  have hn2n : ¬ (n2 : Int) = 0 := by omega
  clear hs1 hs2 hn1 hn2 hg1 hg2 hb1
  cases g2 with
  | true =>
    cases g1 with
    | true =>
      go_wp2
      go_ret3
      exact ⟨rfl, HBE.out _ _⟩
    | false =>
      go_wp2
      go_ret3
      exact ⟨rfl, HBE.out _ _⟩
  | false =>
    obtain rfl : g1 = true := by simpa using hgg
    go_wp2
    go_ret3
    exact ⟨rfl, HBE.out _ _⟩
theorem Div_any (a b : ByteArray) (w : World) (ha : a.size ≤ 1000) (hb : b.size ≤ 1000) :
    Calls Tryd.prog 24 #[.string a, .string b] w fun e w' => e = ret3 (divS a.data.toList b.data.toList) ∧ Below w.heap.size w w' := by
  cases hx : numOf a.data.toList with
  | none => exact (Div_none a b w ha hb (.inl hx)).mono fun e w' h => ⟨by rw [divS_none (.inl hx)]; exact h.1, h.2⟩
  | some x =>
    cases hy : numOf b.data.toList with
    | none => exact (Div_none a b w ha hb (.inr hy)).mono fun e w' h => ⟨by rw [divS_none (.inr hy)]; exact h.1, h.2⟩
    | some y =>
      by_cases h0 : y = 0
      · subst h0
        exact (Div_zero a b w ha hb x hx hy).mono fun e w' h => ⟨by rw [divS_zero hx hy]; exact h.1, h.2⟩
      · cases hl : (tooL x.natAbs || tooL y.natAbs) with
        | true => exact (Div_long a b w ha hb x y hx hy h0 hl).mono fun e w' h => ⟨by rw [divS_long hx hy h0 hl]; exact h.1, h.2⟩
        | false =>
          rw [Bool.or_eq_false_iff] at hl
          refine (Div_of a b w ha hb x y hx hy hl.1 hl.2 h0 (by_any (short_of hl.1) (short_of hl.2) (by omega)) (fun q r h => ?_)).mono fun e w' h => ?_
          · obtain ⟨h1, h2⟩ := div_abs h
            exact ⟨tool_mono h1 hl.1, tool_mono (Nat.le_of_lt h2) hl.2⟩
          · obtain ⟨⟨q, r, hd, he⟩, hb⟩ := h
            obtain ⟨rfl, rfl⟩ := div_one hd (dvZ_is h0)
            exact ⟨by rw [divS_is hx hy h0 hl.1 hl.2]; exact he, hb⟩
end Go.Proofs.YtmnibfdenmeepaaDoor
/- Div of the reference, for texts whose numbers are not too long. -/
namespace Go.Proofs.YtmnibfdenmeepaaDoor
open Go.RowKit Go.Shelf Big

set_option maxRecDepth 100000 in
set_option maxHeartbeats 2000000 in
theorem rDiv_none (a b : ByteArray) (w : World) (ha : a.size ≤ k900) (hb : b.size ≤ k900) (h : ((numOf a.data.toList).isSome && (numOf b.data.toList).isSome) = false) :
    Calls Tryd.prog 25 #[.string a, .string b] w fun e w' => e = .returned (.tuple #[.string ⟨#[]⟩, .string ⟨#[]⟩, .int .i64 2]) ∧ Below w.heap.size w w' := by
  have HB2 := Lib.hid (rBoth_any a b w (Nat.le_trans ha (by decide)) (Nat.le_trans hb (by decide)))
  have H := Lib.hid h
  clear ha hb h
  go_enter Tryd.func25, Tryd.ntmps25
  go_wp2_with fail
  refine HB2.out.mono ?_
  rintro e w1 ⟨⟨s1, a1, n1, c1, s2, a2, n2, c2, rfl, hnp⟩, hb1⟩
  have HB1 := Lib.hid (fun o o' => (hb1.alloc hb1.size o).alloc (by simp; have := hb1.size; omega) o')
  rw [H.out]
  clear hnp hb1
  simp only [Bool.false_eq_true, if_false]
  go_wp2
  go_ret3
  exact ⟨rfl, HB1.out _ _⟩
set_option maxRecDepth 100000 in
set_option maxHeartbeats 2000000 in
theorem rDiv_zero (a b : ByteArray) (w : World) (ha : a.size ≤ k900) (hb : b.size ≤ k900) (x : Int) (hx : numOf a.data.toList = some x) (hy : numOf b.data.toList = some 0) :
    Calls Tryd.prog 25 #[.string a, .string b] w fun e w' => e = .returned (.tuple #[.string ⟨#[]⟩, .string ⟨#[]⟩, .int .i64 10]) ∧ Below w.heap.size w w' := by
  have HB2 := Lib.hid (rBoth_any a b w (Nat.le_trans ha (by decide)) (Nat.le_trans hb (by decide)))
  have HNZ2 := Lib.hid (fun B W s v z (h : NP B b.data.toList W s v) (hz : numOf b.data.toList = some z) => h.nz hz (by rw [← Lib.size_eq]; exact hb))
  have HX := Lib.hid (And.intro hx hy)
  clear ha hb hx hy
  go_enter Tryd.func25, Tryd.ntmps25
  go_wp2_with fail
  refine HB2.out.mono ?_
  rintro e w1 ⟨⟨s1, a1, n1, c1, s2, a2, n2, c2, rfl, hnp⟩, hb1⟩
  have hok : ((numOf a.data.toList).isSome && (numOf b.data.toList).isSome) = true := by rw [HX.out.1, HX.out.2]; rfl
  obtain ⟨hp1, hp2⟩ := hnp hok
  obtain ⟨⟨rfl, hd2⟩, hl2⟩ := HNZ2.out _ _ _ _ _ hp2 HX.out.2
  have HB1 := Lib.hid (fun o o' => (hb1.alloc hb1.size o).alloc (by simp; have := hb1.size; omega) o')
  have hn20 : n2 = 0 := by
    obtain ⟨_, _, h⟩ := hd2.slice
    injection h with _ h _
    rw [h, show (0 : Int).natAbs = 0 from rfl, lims_zero]
    rfl
  subst hn20
  rw [hok]
  clear hnp hb1 hok hp1 hp2 hd2 hl2
  simp only [if_true]
  go_wp2
  go_ret3
  exact ⟨rfl, HB1.out _ _⟩
theorem rDiv_any (a b : ByteArray) (w : World) (ha : a.size ≤ k900) (hb : b.size ≤ k900) (hs : ∀ x, numOf a.data.toList = some x → tooL x.natAbs = false) (ht : ∀ y, numOf b.data.toList = some y → tooL y.natAbs = false) :
    Calls Tryd.prog 25 #[.string a, .string b] w fun e w' => e = ret3 (divS a.data.toList b.data.toList) ∧ Below w.heap.size w w' := by
  cases hx : numOf a.data.toList with
  | none => exact (rDiv_none a b w ha hb (by rw [hx]; rfl)).mono fun e w' h => ⟨by rw [divS_none (.inl hx)]; exact h.1, h.2⟩
  | some x =>
    cases hy : numOf b.data.toList with
    | none => exact (rDiv_none a b w ha hb (by rw [hx, hy]; rfl)).mono fun e w' h => ⟨by rw [divS_none (.inr hy)]; exact h.1, h.2⟩
    | some y =>
      have h1 := hs x hx
      have h2 := ht y hy
      by_cases h0 : y = 0
      · subst h0
        exact (rDiv_zero a b w ha hb x hx hy).mono fun e w' h => ⟨by rw [divS_zero hx hy]; exact h.1, h.2⟩
      · obtain ⟨d1, d2⟩ := div_abs (dvZ_is (x := x) h0)
        exact (rDiv_of a b w ha hb x y hx hy h1 h2 h0 (tool_mono d1 h1) (tool_mono (Nat.le_of_lt d2) h2)).mono fun e w' h => ⟨by rw [divS_is hx hy h0 h1 h2]; exact h.1, h.2⟩
end Go.Proofs.YtmnibfdenmeepaaDoor
/- Mul of the reference. -/
namespace Go.Proofs.YtmnibfdenmeepaaDoor
open Go.RowKit Go.Shelf Big

set_option maxRecDepth 100000 in
set_option maxHeartbeats 4000000 in
theorem rMul_any (a b : ByteArray) (w : World) (ha : a.size ≤ k900) (hb : b.size ≤ k900) :
    Calls Tryd.prog 23 #[.string a, .string b] w fun e w' => e = retS (opS (fun x y => x * y) a.data.toList b.data.toList) ∧ Below w.heap.size w w' := by
  have HB2 := Lib.hid (rBoth_any a b w (Nat.le_trans ha (by decide)) (Nat.le_trans hb (by decide)))
  have HNZ1 := Lib.hid (fun B W s v z (h : NP B a.data.toList W s v) (hz : numOf a.data.toList = some z) => h.nz hz (by rw [← Lib.size_eq]; exact ha))
  have HNZ2 := Lib.hid (fun B W s v z (h : NP B b.data.toList W s v) (hz : numOf b.data.toList = some z) => h.nz hz (by rw [← Lib.size_eq]; exact hb))
  clear ha hb
  go_enter Tryd.func23, Tryd.ntmps23
  go_wp2_with fail
  refine HB2.out.mono ?_
  rintro e w1 ⟨⟨s1, a1, n1, c1, s2, a2, n2, c2, rfl, hnp⟩, hb1⟩
  cases hok : (numOf a.data.toList).isSome && (numOf b.data.toList).isSome with
  | false =>
    have HR := Lib.hid (op_none (fun x y => x * y) hok)
    have HB1 := Lib.hid (fun o o' => (hb1.alloc hb1.size o).alloc (by simp; have := hb1.size; omega) o')
    clear hnp hok hb1
    simp only [Bool.false_eq_true, if_false]
    go_wp2
    go_ret2
    exact ⟨by rw [HR.out]; rfl, HB1.out _ _⟩
  | true =>
    obtain ⟨x, y, hx, hy⟩ := op_some hok
    obtain ⟨hp1, hp2⟩ := hnp hok
    obtain ⟨⟨rfl, hd1⟩, hl1⟩ := HNZ1.out _ _ _ _ _ hp1 hx
    obtain ⟨⟨rfl, hd2⟩, hl2⟩ := HNZ2.out _ _ _ _ _ hp2 hy
    have HOP := Lib.hid (show opS (fun x y => x * y) a.data.toList b.data.toList = if tooL x.natAbs || tooL y.natAbs then ([], 4) else told (x * y) by unfold opS; rw [hx, hy])
    clear hnp hok hp1 hp2 hx hy
    simp only [if_true]
    have hz1 := hb1.size
    obtain ⟨W0, hW0⟩ : ∃ W0, (w1.alloc (.cells #[.bool (decide (x < 0)), .slice a1 n1 c1] 51)).alloc (.cells #[.bool (decide (y < 0)), .slice a2 n2 c2] 51) = W0 := ⟨_, rfl⟩
    have hD1 : DecIs W0 w.heap.size (.slice a1 n1 c1) x.natAbs := by rw [← hW0]; exact (hd1.alloc _).alloc _
    have hD2 : DecIs W0 w.heap.size (.slice a2 n2 c2) y.natAbs := by rw [← hW0]; exact (hd2.alloc _).alloc _
    have hX : Has W0 w1.heap.size 51 #[.bool (decide (x < 0)), .slice a1 n1 c1] := by rw [← hW0]; exact (Has.new w1 _ _).alloc _
    have hY : Has W0 (w1.heap.size + 1) 51 #[.bool (decide (y < 0)), .slice a2 n2 c2] := by rw [← hW0]; exact Has.new' (n := w1.heap.size + 1) (by simp) _ _
    have hz0 : W0.heap.size = w1.heap.size + 2 := by rw [← hW0]; simp
    have hBB : Below w.heap.size w W0 := by rw [← hW0]; exact (hb1.alloc hz1 _).alloc (by simp; omega) _
    have HDD := Lib.hid (And.intro hD1 hD2)
    have HLL := Lib.hid (And.intro hl1 hl2)
    have hA0 : Below W0.heap.size W0 (W0.alloc (.cells #[.bool (decide (x < 0)), .slice a1 n1 c1, .bool (decide (y < 0)), .slice a2 n2 c2] 51)) := (Below.refl _ _).alloc (Nat.le_refl _) _
    have HSh := Lib.hid (rShort_any W0.heap.size 2 2 (tl2 x y) _ (others_two (Has.new W0 51 #[.bool (decide (x < 0)), .slice a1 n1 c1, .bool (decide (y < 0)), .slice a2 n2 c2]) (hD1.kept hA0) (hD2.kept hA0)) (by omega))
    rw [tl2_any] at HSh
    have HX := Lib.hid hX
    have HY := Lib.hid hY
    have HA0 := Lib.hid hA0
    have HBB := Lib.hid hBB
    obtain ⟨x0, x1, -⟩ := cells_two hX
    obtain ⟨y0, y1, -⟩ := cells_two hY
    clear hd1 hd2 hb1 hD1 hD2 hl1 hl2 hX hY hA0 hBB
    obtain ⟨t, ht⟩ : ∃ t, (tooL x.natAbs || tooL y.natAbs) = t := ⟨_, rfl⟩
    have HT := Lib.hid ht
    rw [ht] at HSh HOP
    clear ht
    rw [hz0] at HSh
    go_wp2_with fail
    cases t with
    | true =>
      have HR := Lib.hid (show opS (fun x y => x * y) a.data.toList b.data.toList = ([], 4) from HOP.out)
      refine HSh.out.mono ?_
      rintro e w3 ⟨rfl, hb3⟩
      have HB3 := Lib.hid (HBB.out.trans ((Below.behind HA0.out hb3).mono (show w.heap.size ≤ W0.heap.size by omega)))
      clear hb3
      go_wp2
      go_ret2
      exact ⟨by rw [HR.out]; rfl, HB3.out⟩
    | false =>
      refine HSh.out.mono ?_
      rintro e w3 ⟨rfl, hb3⟩
      have hb4 := Below.behind HA0.out hb3
      have hX4 := HX.out.below hb4
      have hY4 := HY.out.below hb4
      obtain ⟨p0, p1, -⟩ := cells_two hX4
      obtain ⟨r0, r1, -⟩ := cells_two hY4
      have hz4 := hb4.size
      have hD1 := HDD.out.1.kept hb4
      have hD2 := HDD.out.2.kept hb4
      have HB4 := Lib.hid (HBB.out.trans (hb4.mono (show w.heap.size ≤ W0.heap.size by omega)))
      clear hb3 hb4
      have HR := Lib.hid (show opS (fun x y => x * y) a.data.toList b.data.toList = told (x * y) from HOP.out)
      have HTi := Lib.hid (rTimes_any w.heap.size w.heap.size x.natAbs y.natAbs _ _ (decide (x < 0)) (decide (y < 0)) w3 hD1 hD2 (Nat.le_trans HLL.out.1 (by decide)) (Nat.le_trans HLL.out.2 (by decide)))
      rw [sgI_z, sgI_z] at HTi
      obtain ⟨Z, hZ⟩ : ∃ Z, x * y = Z := ⟨_, rfl⟩
      rw [hZ] at HTi HR
      clear hD1 hD2 hZ
      go_wp2_with fail
      refine HTi.out.mono ?_
      rintro e w5 ⟨⟨v, rfl, hv⟩, hb5⟩
      have HTo := Lib.hid (rTold_none _ Z.natAbs (decide (Z < 0)) v w5 hv)
      rw [toldS_sg, sg_z, ← HR.out] at HTo
      obtain ⟨p, hp⟩ : ∃ p, opS (fun x y => x * y) a.data.toList b.data.toList = p := ⟨_, rfl⟩
      rw [hp] at HTo
      have HP := Lib.hid hp
      unfold retS at HTo
      obtain ⟨a9, c9, rfl⟩ := hv.slice
      have HB5 := Lib.hid (HB4.out.trans (hb5.mono (by omega)))
      clear hp hv hb5
      go_wp2_with fail
      refine HTo.out.mono ?_
      rintro e w6 ⟨rfl, hb6⟩
      have HB6 := Lib.hid (Below.behind HB5.out hb6)
      clear hb6
      go_wp2
      go_ret2
      exact ⟨by rw [HP.out]; rfl, HB6.out⟩
end Go.Proofs.YtmnibfdenmeepaaDoor
/- Gcd of the reference. -/
namespace Go.Proofs.YtmnibfdenmeepaaDoor
open Go.RowKit Go.Shelf Big

theorem dec_le {a b K : Nat} (h : a ≤ b) (hb : (lims 10 b).length ≤ K) : (lims 10 a).length ≤ K :=
  (lims_len_le ten_ge a K).2 (Nat.lt_of_le_of_lt h ((lims_len_le ten_ge b K).1 hb))
theorem dec_len0 {w : World} {B l c n : Nat} {a : Option Addr} (h : DecIs w B (.slice a l c) n) : (l = 0 ∧ n = 0) ∨ (0 < l ∧ 0 < n) := by
  obtain ⟨_, _, hav⟩ := h.slice
  injection hav with _ hl _
  have := dec_len (n := n)
  omega
theorem tool_down {a b : Nat} (h : a ≤ b) (hb : tooL b = false) : tooL a = false := by
  unfold tooL at *
  have := of_decide_eq_false hb
  exact decide_eq_false (by omega)
theorem tame_gcd_tool {x y : Int} (h1 : tooL x.natAbs = false) (h2 : tooL y.natAbs = false) : tooL (Nat.gcd x.natAbs y.natAbs) = false := by
  rcases Nat.eq_zero_or_pos x.natAbs with h | h
  · rw [h, Nat.gcd_zero_left]; exact h2
  · exact tool_down (Nat.gcd_le_left _ h) h1
set_option maxRecDepth 100000 in
set_option maxHeartbeats 4000000 in
theorem rGcd_any (a b : ByteArray) (w : World) (ha : a.size ≤ k900) (hb : b.size ≤ k900) :
    Calls Tryd.prog 29 #[.string a, .string b] w fun e w' => e = retS (opS gcdZ a.data.toList b.data.toList) ∧ Below w.heap.size w w' := by
  have HB2 := Lib.hid (rBoth_any a b w (Nat.le_trans ha (by decide)) (Nat.le_trans hb (by decide)))
  have HNZ1 := Lib.hid (fun B W s v z (h : NP B a.data.toList W s v) (hz : numOf a.data.toList = some z) => h.nz hz (by rw [← Lib.size_eq]; exact ha))
  have HNZ2 := Lib.hid (fun B W s v z (h : NP B b.data.toList W s v) (hz : numOf b.data.toList = some z) => h.nz hz (by rw [← Lib.size_eq]; exact hb))
  clear ha hb
  go_enter Tryd.func29, Tryd.ntmps29
  go_wp2_with fail
  refine HB2.out.mono ?_
  rintro e w1 ⟨⟨s1, a1, n1, c1, s2, a2, n2, c2, rfl, hnp⟩, hb1⟩
  cases hok : (numOf a.data.toList).isSome && (numOf b.data.toList).isSome with
  | false =>
    have HR := Lib.hid (op_none gcdZ hok)
    have HB1 := Lib.hid (fun o o' => (hb1.alloc hb1.size o).alloc (by simp; have := hb1.size; omega) o')
    clear hnp hok hb1
    simp only [Bool.false_eq_true, if_false]
    go_wp2
    go_ret2
    exact ⟨by rw [HR.out]; rfl, HB1.out _ _⟩
  | true =>
    obtain ⟨x, y, hx, hy⟩ := op_some hok
    obtain ⟨hp1, hp2⟩ := hnp hok
    obtain ⟨⟨rfl, hd1⟩, hl1⟩ := HNZ1.out _ _ _ _ _ hp1 hx
    obtain ⟨⟨rfl, hd2⟩, hl2⟩ := HNZ2.out _ _ _ _ _ hp2 hy
    have HOP := Lib.hid (show opS gcdZ a.data.toList b.data.toList = if tooL x.natAbs || tooL y.natAbs then ([], 4) else told (gcdZ x y) by unfold opS; rw [hx, hy])
    clear hnp hok hp1 hp2 hx hy
    simp only [if_true]
    have hz1 := hb1.size
    obtain ⟨W0, hW0⟩ : ∃ W0, (w1.alloc (.cells #[.bool (decide (x < 0)), .slice a1 n1 c1] 51)).alloc (.cells #[.bool (decide (y < 0)), .slice a2 n2 c2] 51) = W0 := ⟨_, rfl⟩
    have hD1 : DecIs W0 w.heap.size (.slice a1 n1 c1) x.natAbs := by rw [← hW0]; exact (hd1.alloc _).alloc _
    have hD2 : DecIs W0 w.heap.size (.slice a2 n2 c2) y.natAbs := by rw [← hW0]; exact (hd2.alloc _).alloc _
    have hX : Has W0 w1.heap.size 51 #[.bool (decide (x < 0)), .slice a1 n1 c1] := by rw [← hW0]; exact (Has.new w1 _ _).alloc _
    have hY : Has W0 (w1.heap.size + 1) 51 #[.bool (decide (y < 0)), .slice a2 n2 c2] := by rw [← hW0]; exact Has.new' (n := w1.heap.size + 1) (by simp) _ _
    have hz0 : W0.heap.size = w1.heap.size + 2 := by rw [← hW0]; simp
    have hBB : Below w.heap.size w W0 := by rw [← hW0]; exact (hb1.alloc hz1 _).alloc (by simp; omega) _
    have HDD := Lib.hid (And.intro hD1 hD2)
    have HLL := Lib.hid (And.intro hl1 hl2)
    have hA0 : Below W0.heap.size W0 (W0.alloc (.cells #[.bool (decide (x < 0)), .slice a1 n1 c1, .bool (decide (y < 0)), .slice a2 n2 c2] 51)) := (Below.refl _ _).alloc (Nat.le_refl _) _
    have HSh := Lib.hid (rShort_any W0.heap.size 2 2 (tl2 x y) _ (others_two (Has.new W0 51 #[.bool (decide (x < 0)), .slice a1 n1 c1, .bool (decide (y < 0)), .slice a2 n2 c2]) (hD1.kept hA0) (hD2.kept hA0)) (by omega))
    rw [tl2_any] at HSh
    have HX := Lib.hid hX
    have HY := Lib.hid hY
    have HA0 := Lib.hid hA0
    have HBB := Lib.hid hBB
    obtain ⟨x0, x1, -⟩ := cells_two hX
    obtain ⟨y0, y1, -⟩ := cells_two hY
    clear hd1 hd2 hb1 hD1 hD2 hl1 hl2 hX hY hA0 hBB
    obtain ⟨t, ht⟩ : ∃ t, (tooL x.natAbs || tooL y.natAbs) = t := ⟨_, rfl⟩
    have HT := Lib.hid ht
    rw [ht] at HSh HOP
    clear ht
    rw [hz0] at HSh
    go_wp2_with fail
    cases t with
    | true =>
      have HR := Lib.hid (show opS gcdZ a.data.toList b.data.toList = ([], 4) from HOP.out)
      refine HSh.out.mono ?_
      rintro e w3 ⟨rfl, hb3⟩
      have HB3 := Lib.hid (HBB.out.trans ((Below.behind HA0.out hb3).mono (show w.heap.size ≤ W0.heap.size by omega)))
      clear hb3
      go_wp2
      go_ret2
      exact ⟨by rw [HR.out]; rfl, HB3.out⟩
    | false =>
      refine HSh.out.mono ?_
      rintro e w3 ⟨rfl, hb3⟩
      have hb4 := Below.behind HA0.out hb3
      have hX4 := HX.out.below hb4
      have hY4 := HY.out.below hb4
      obtain ⟨p0, p1, -⟩ := cells_two hX4
      obtain ⟨r0, r1, -⟩ := cells_two hY4
      have hz4 := hb4.size
      have hD1 := HDD.out.1.kept hb4
      have hD2 := HDD.out.2.kept hb4
      have HB4 := Lib.hid (HBB.out.trans (hb4.mono (show w.heap.size ≤ W0.heap.size by omega)))
      clear hb3 hb4
      have hTT := HT.out
      rw [Bool.or_eq_false_iff] at hTT
      obtain ⟨gg, hgg⟩ : ∃ gg, Nat.gcd x.natAbs y.natAbs = gg := ⟨_, rfl⟩
      have htg : tooL gg = false := by
        rw [← hgg]
        have h := tame_gcd_tool hTT.1 hTT.2
        exact h
      have HR := Lib.hid (show opS gcdZ a.data.toList b.data.toList = (txtS false gg, 0) by
        rw [HOP.out, if_neg (by decide)]
        unfold gcdZ told
        rw [hgg, Int.natAbs_natCast, htg]
        show (txt (gg : Int), 0) = _
        rw [txtS_sg]
        rfl)
      have HTG := Lib.hid htg
      have hA : DecIs w3 0 (.slice a1 n1 c1) x.natAbs := DecIs.mono hD1 (Nat.zero_le _)
      have hB : DecIs w3 0 (.slice a2 n2 c2) y.natAbs := DecIs.mono hD2 (Nat.zero_le _)
      have HAB := Lib.hid (And.intro hA hB)
      clear hTT htg hD1 hD2 hA hB hX4 hY4
      go_wp2_with fail
      go_quiet (fail)
      obtain ⟨W1, hW1⟩ : ∃ W1, w3.drewN nq = W1 := ⟨_, rfl⟩
      rw [hW1]
      have hA1 : DecIs W1 0 (.slice a1 n1 c1) x.natAbs := by rw [← hW1]; exact own_below HAB.out.1 (below_drewN (Below.refl _ _) _)
      have hB1 : DecIs W1 0 (.slice a2 n2 c2) y.natAbs := by rw [← hW1]; exact own_below HAB.out.2 (below_drewN (Below.refl _ _) _)
      have hBB1 : Below w.heap.size w W1 := by rw [← hW1]; exact below_drewN HB4.out _
      have hzW : W0.heap.size ≤ W1.heap.size := by rw [← hW1]; exact hz4
      clear hW1 p0 p1 r0 r1 x0 x1 y0 y1
      clear nq
      go_wp2
      go_loopg [9, 10] y.natAbs (fun gh v9 v10 wx => ∃ (m : Nat) (x : Option Addr) (lx cx : Nat) (y : Option Addr) (ly cy : Nat), v9 = .slice x lx cx ∧ v10 = .slice y ly cy ∧ DecIs wx 0 (.slice x lx cx) m ∧ DecIs wx 0 (.slice y ly cy) gh ∧ Nat.gcd m gh = gg ∧ (lims 10 m).length ≤ 1100 ∧ (lims 10 gh).length ≤ 1100 ∧ Below w.heap.size w wx ∧ W0.heap.size ≤ wx.heap.size)
      case atStart => exact ⟨x.natAbs, a1, n1, c1, a2, n2, c2, rfl, rfl, hA1, hB1, hgg, HLL.out.1, HLL.out.2, hBB1, hzW⟩
      case round =>
        obtain ⟨m, xa, lx, cx, ya, ly, cy, rfl, rfl, hA, hB, hgc, hl1, hl2, hBl, hzr⟩ := hrel
        rcases dec_len0 hB with ⟨rfl, h0⟩ | ⟨h0, h1⟩
        · have HA := Lib.hid (show DecIs wr 0 (.slice xa lx cx) gg by rw [← hgc, h0, Nat.gcd_zero_right]; exact hA)
          have HNm := Lib.hid (num_any 0 gg _ false wr HA.out)
          rw [Bool.false_and] at HNm
          have HBl := Lib.hid hBl
          clear hA hB hgc hl1 hl2 hBl h0 hA1 hB1 hBB1
          go_wp2_with fail
          refine HNm.out.mono ?_
          rintro e w5 ⟨rfl, hb5⟩
          have HB5 := Lib.hid (HBl.out.trans (hb5.mono (by omega)))
          have HTx := Lib.hid (rText_any 0 gg false _ w5 (HA.out.kept hb5) (dec_short HTG.out))
          obtain ⟨p, hp⟩ : ∃ p, (⟨(txtS false gg).toArray⟩ : ByteArray) = p := ⟨_, rfl⟩
          rw [hp] at HTx
          have HP := Lib.hid hp
          clear hb5 hp
          go_wp2_with fail
          refine HTx.out.mono ?_
          rintro e w6 ⟨rfl, hb6⟩
          have HB6 := Lib.hid (Below.behind HB5.out hb6)
          clear hb6
          go_wp2
          go_ret2
          exact ⟨by rw [HR.out, ← HP.out]; rfl, HB6.out⟩
        · have hlp : (ly : Int) > 0 := by omega
          have HDy := Lib.hid (rdivd_any 0 0 m gk _ _ wr hA hB h1 (Nat.le_trans hl1 (by decide)) (Nat.le_trans hl2 (by decide)))
          have HN := Lib.hid (And.intro hgc (And.intro hl1 (And.intro hl2 h1)))
          have HB := Lib.hid (fun W (h : Below wr.heap.size wr W) => hB.kept h)
          have HBl := Lib.hid hBl
          clear hA hB hgc hl1 hl2 hBl hA1 hB1 hBB1
          go_wp2_with fail
          refine HDy.out.mono ?_
          rintro e w5 ⟨⟨q, r, rfl, hq, hr⟩, hb5⟩
          have hz5 := hb5.size
          obtain ⟨aq, cq, rfl⟩ := hq.slice
          obtain ⟨ar, cr, rfl⟩ := hr.slice
          have HY5 := Lib.hid (HB.out w5 hb5)
          have HM := Lib.hid (DecIs.mono hr (Nat.zero_le _))
          have HB5 := Lib.hid (HBl.out.trans (hb5.mono (by omega)))
          have hlt : m % gk < gk := Nat.mod_lt _ h1
          obtain ⟨lq, hlq⟩ : ∃ lq, (lims 10 (m / gk)).length = lq := ⟨_, rfl⟩
          obtain ⟨lr, hlr⟩ : ∃ lr, (lims 10 (m % gk)).length = lr := ⟨_, rfl⟩
          rw [hlq]
          rw [hlr] at HM ⊢
          clear hq hr hb5 hlq hlr
          go_wp2_with fail
          go_roundg (m % gk)
          case measure => exact hlt
          case rel =>
            refine ⟨gk, ya, ly, cy, ar, lr, cr, rfl, rfl, HY5.out, HM.out, ?_, HN.out.2.2.1, dec_le (Nat.le_of_lt hlt) HN.out.2.2.1, HB5.out, by omega⟩
            rw [Nat.gcd_comm, ← Nat.gcd_rec, Nat.gcd_comm]
            exact HN.out.1
end Go.Proofs.YtmnibfdenmeepaaDoor
