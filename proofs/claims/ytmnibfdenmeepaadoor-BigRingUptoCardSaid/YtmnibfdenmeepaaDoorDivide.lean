/- number.divide of the program. -/
import Derived.Test.YtmnibfdenmeepaaDoorDivMath
namespace Go.Proofs.YtmnibfdenmeepaaDoor
open Go.RowKit Go.Shelf Big

/-- What divide answers. -/
def DvIs (B : Nat) (x y : Int) (w' : World) (e : Ending) : Prop :=
  ∃ (qs rs : Bool) (n j : Nat) (a1 : Option Addr) (n1 c1 : Nat) (a2 : Option Addr) (n2 c2 : Nat),
    e = .returned (.tuple #[.agg #[.bool qs, .slice a1 n1 c1, .bool false, .bool false], .agg #[.bool rs, .slice a2 n2 c2, .bool false, .bool false]]) ∧
    NatIs w' B (.slice a1 n1 c1) n ∧ NatIs w' B (.slice a2 n2 c2) j ∧ DivIs x y (sgI qs n) (sgI rs j)

theorem Has.put1 {w : World} {r : Nat} {t : TypeId} {a b c d : Value} (h : Has w r t #[a, b, c, d]) (y : Value) : Has (w.setCell ⟨r, 1, none⟩ y) r t #[a, y, c, d] := by
  have h' : w.heap[r]? = some (.cells #[a, b, c, d] t (0, 0)) := h
  show (w.setCell ⟨r, 1, none⟩ y).heap[r]? = _
  simp [World.setCell, Array.getElem?_modify, h']

set_option maxRecDepth 100000 in
set_option maxHeartbeats 2000000 in
theorem divide_any (B1 B2 m k : Nat) (va vb : Value) (s t l1 o1 l2 o2 : Bool) (w : World) (ha : NatIs w B1 va m) (hb : NatIs w B2 vb k) (hla : (lims 4294967296 m).length ≤ 100000) (hlb : (lims 4294967296 k).length ≤ 100000) (h0 : 0 < k) (hby : ByIs m k) :
    Calls Tryd.prog 70 #[.agg #[.bool s, va, .bool l1, .bool o1], .agg #[.bool t, vb, .bool l2, .bool o2]] w fun e w' => DvIs w.heap.size (sgI s m) (sgI t k) w' e ∧ Below w.heap.size w w' := by
  have HA := Lib.hid ha
  have HB := Lib.hid hb
  have HBY := Lib.hid hby
  obtain ⟨av, ca, rfl⟩ := ha.slice
  obtain ⟨bv, cb, rfl⟩ := hb.slice
  obtain ⟨lv, hlv⟩ : ∃ lv, (lims 4294967296 m).length = lv := ⟨_, rfl⟩
  obtain ⟨lu, hlu⟩ : ∃ lu, (lims 4294967296 k).length = lu := ⟨_, rfl⟩
  rw [hlv] at HA hla ⊢
  rw [hlu] at HB hlb ⊢
  have HLV := Lib.hid hlv
  have HLU := Lib.hid hlu
  clear ha hb hlv hlu hby
  have hrl : ((lims 4294967296 (m % k)).length = 0 ∧ m % k = 0) ∨ (0 < (lims 4294967296 (m % k)).length ∧ 0 < m % k) := by
    have : (lims 4294967296 (m % k)).length = 0 ↔ m % k = 0 := by rw [List.length_eq_zero_iff, lims_nil w32_ge]
    omega
  obtain ⟨D, hD⟩ : ∃ D, (s != t) = D := ⟨_, rfl⟩
  go_enter Tryd.func70, Tryd.ntmps70
  go_wp2_with fail
  obtain ⟨W0, hW0⟩ : ∃ W0, ((((w.alloc (.cells #[.bool s, .slice av lv ca, .bool l1, .bool o1] 46)).alloc (.cells #[.bool t, .slice bv lu cb, .bool l2, .bool o2] 46)).alloc (.cells #[.bool false, .slice none 0 0, .bool false, .bool false] 46)).alloc (.cells #[.bool false, .slice none 0 0, .bool false, .bool false] 46)) = W0 := ⟨_, rfl⟩
  rw [hW0]
  have hz0 : W0.heap.size = w.heap.size + 4 := by rw [← hW0]; simp
  have hA0 : NatIs W0 B1 (.slice av lv ca) m := by rw [← hW0]; exact (((HA.out.alloc _).alloc _).alloc _).alloc _
  have hB0 : NatIs W0 B2 (.slice bv lu cb) k := by rw [← hW0]; exact (((HB.out.alloc _).alloc _).alloc _).alloc _
  have hX : Has ((((w.alloc (.cells #[.bool s, .slice av lv ca, .bool l1, .bool o1] 46)).alloc (.cells #[.bool t, .slice bv lu cb, .bool l2, .bool o2] 46)).alloc (.cells #[.bool false, .slice none 0 0, .bool false, .bool false] 46)).alloc (.cells #[.bool false, .slice none 0 0, .bool false, .bool false] 46)) w.heap.size 46 #[.bool s, .slice av lv ca, .bool l1, .bool o1] := (((Has.new w _ _).alloc _).alloc _).alloc _
  have hY : Has ((((w.alloc (.cells #[.bool s, .slice av lv ca, .bool l1, .bool o1] 46)).alloc (.cells #[.bool t, .slice bv lu cb, .bool l2, .bool o2] 46)).alloc (.cells #[.bool false, .slice none 0 0, .bool false, .bool false] 46)).alloc (.cells #[.bool false, .slice none 0 0, .bool false, .bool false] 46)) (w.heap.size + 1) 46 #[.bool t, .slice bv lu cb, .bool l2, .bool o2] := ((Has.new' (n := w.heap.size + 1) (by simp) _ _).alloc _).alloc _
  have hQ : Has ((((w.alloc (.cells #[.bool s, .slice av lv ca, .bool l1, .bool o1] 46)).alloc (.cells #[.bool t, .slice bv lu cb, .bool l2, .bool o2] 46)).alloc (.cells #[.bool false, .slice none 0 0, .bool false, .bool false] 46)).alloc (.cells #[.bool false, .slice none 0 0, .bool false, .bool false] 46)) (w.heap.size + 1 + 1) 46 #[.bool false, .slice none 0 0, .bool false, .bool false] := (Has.new' (n := w.heap.size + 1 + 1) (by simp) _ _).alloc _
  have hR : Has ((((w.alloc (.cells #[.bool s, .slice av lv ca, .bool l1, .bool o1] 46)).alloc (.cells #[.bool t, .slice bv lu cb, .bool l2, .bool o2] 46)).alloc (.cells #[.bool false, .slice none 0 0, .bool false, .bool false] 46)).alloc (.cells #[.bool false, .slice none 0 0, .bool false, .bool false] 46)) (w.heap.size + 1 + 1 + 1) 46 #[.bool false, .slice none 0 0, .bool false, .bool false] := Has.new' (by simp) _ _
  have hBB : Below w.heap.size w W0 := by rw [← hW0]; exact ((((Below.refl _ w).alloc (Nat.le_refl _) _).alloc (by simp) _).alloc (by simp; omega) _).alloc (by simp; omega) _
  rw [hW0] at hX hY hQ hR
  clear hW0
  refine (HBY.out B1 B2 _ _ W0 hA0 hB0).mono ?_
  rintro e w1 ⟨⟨a1, n1, c1, a2, n2, c2, rfl, hq, hr⟩, hb1⟩
  have hz1 := hb1.size
  have hX1 := hX.below hb1
  have hY1 := hY.below hb1
  have hQ1 := hQ.below hb1
  have hR1 := hR.below hb1
  have hBB1 := Below.behind hBB hb1
  have hB1 := hB0.kept hb1
  have hn2 : n2 = (lims 4294967296 (m % k)).length := by
    obtain ⟨_, _, h⟩ := hr.slice
    injection h
  rw [← hn2] at hrl
  have HRL := Lib.hid hrl
  clear hn2 hrl
  clear hX hY hQ hR hBB hA0 hB0 hb1
  obtain ⟨x0, x1, x2, x3, -⟩ := hX1.four
  obtain ⟨y0, y1, y2, y3, y4, y5, y6, y7⟩ := hY1.four
  obtain ⟨q0, q1, q2, q3, q4, q5, q6, q7⟩ := hQ1.four
  obtain ⟨r0, r1, r2, r3, r4, r5, r6, r7⟩ := hR1.four
  go_wp2_with fail
  · have hst : (!s == t) = true := by assumption
    have hn : 0 < n2 := by assumption
    have hrp : 0 < m % k := by have := HRL.out; omega
    have hrk : m % k ≤ k := Nat.le_of_lt (Nat.mod_lt _ h0)
    have HDV : Hid (DivIs (sgI s m) (sgI t k) (sgI true (m / k + 1)) (sgI t (k - m % k))) := Lib.hid (by have h := div_down s t m k h0 hst hrp; rwa [show (s != t) = true from hst] at h)
    clear hst
    have hQ2 := hQ1.put4 (.bool true) (.slice a1 n1 c1) (.bool false) (.bool false)
    have hR2 : Has ((((w1.setCell ⟨w.heap.size + 1 + 1, 0, none⟩ (.bool true)).setCell ⟨w.heap.size + 1 + 1, 1, none⟩ (.slice a1 n1 c1)).setCell ⟨w.heap.size + 1 + 1, 2, none⟩ (.bool false)).setCell ⟨w.heap.size + 1 + 1, 3, none⟩ (.bool false)) (w.heap.size + 1 + 1 + 1) 46 _ := (((hR1.far (by simp) _).far (by simp) _).far (by simp) _).far (by simp) _
    have hY2 : Has ((((w1.setCell ⟨w.heap.size + 1 + 1, 0, none⟩ (.bool true)).setCell ⟨w.heap.size + 1 + 1, 1, none⟩ (.slice a1 n1 c1)).setCell ⟨w.heap.size + 1 + 1, 2, none⟩ (.bool false)).setCell ⟨w.heap.size + 1 + 1, 3, none⟩ (.bool false)) (w.heap.size + 1) 46 _ := (((hY1.far (by simp) _).far (by simp) _).far (by simp) _).far (by simp) _
    have hq2 := hq.apart4 (hq.new (show w.heap.size + 1 + 1 < W0.heap.size by omega)) (.bool true) (.slice a1 n1 c1) (.bool false) (.bool false)
    have hr2 := hr.apart4 (hr.new (show w.heap.size + 1 + 1 < W0.heap.size by omega)) (.bool true) (.slice a1 n1 c1) (.bool false) (.bool false)
    have hBB2 := Below.four hBB1 (show w.heap.size ≤ w.heap.size + 1 + 1 by omega) (.bool true) (.slice a1 n1 c1) (.bool false) (.bool false)
    have hs2 : ((((w1.setCell ⟨w.heap.size + 1 + 1, 0, none⟩ (.bool true)).setCell ⟨w.heap.size + 1 + 1, 1, none⟩ (.slice a1 n1 c1)).setCell ⟨w.heap.size + 1 + 1, 2, none⟩ (.bool false)).setCell ⟨w.heap.size + 1 + 1, 3, none⟩ (.bool false)).heap.size = w1.heap.size := by simp
    revert hs2 hQ2 hR2 hY2 hq2 hr2 hBB2
    generalize ((((w1.setCell ⟨w.heap.size + 1 + 1, 0, none⟩ (.bool true)).setCell ⟨w.heap.size + 1 + 1, 1, none⟩ (.slice a1 n1 c1)).setCell ⟨w.heap.size + 1 + 1, 2, none⟩ (.bool false)).setCell ⟨w.heap.size + 1 + 1, 3, none⟩ (.bool false)) = W2
    intro hQ2 hR2 hY2 hq2 hr2 hBB2 hs2
    clear x0 x1 x2 x3 y0 y1 y2 y3 y4 y5 y6 y7 q0 q1 q2 q3 q4 q5 q6 q7 r0 r1 r2 r3 r4 r5 r6 r7 hQ1 hR1 hY1 hX1 hq hr hBB1
    obtain ⟨y0, y1, y2, y3, -⟩ := hY2.four
    obtain ⟨q0, q1, q2, q3, q4, q5, q6, q7⟩ := hQ2.four
    obtain ⟨r0, r1, r2, r3, r4, r5, r6, r7⟩ := hR2.four
    have hlq : (lims 4294967296 (m / k)).length ≤ 100000 := Nat.le_trans (lims_len_mono (Nat.div_le_self m k)) (by rw [HLV.out]; exact hla)
    have hone : NatIs (W2.alloc (.cells #[.int .u32 1] 75)) w1.heap.size (.slice (some ⟨w1.heap.size, 0, none⟩) 1 1) 1 := by
      unfold NatIs
      rw [lims_one (by omega) (by omega)]
      exact one_row w1.heap.size 1 hs2 (Nat.le_refl _)
    refine (plus_any W0.heap.size w1.heap.size (m / k) 1 _ _ _ (hq2.alloc _) hone hlq (by rw [lims_one (by omega) (by omega)]; simp)).mono ?_
    rintro e w3 ⟨⟨v, rfl, hv⟩, hb3⟩
    obtain ⟨a3, c3, rfl⟩ := hv.slice
    have hz3 := hb3.size
    have hQ3 := (hQ2.alloc (.cells #[.int .u32 1] 75)).below hb3
    have hR3 := (hR2.alloc (.cells #[.int .u32 1] 75)).below hb3
    have hY3 := (hY2.alloc (.cells #[.int .u32 1] 75)).below hb3
    have hr3 := (hr2.alloc (.cells #[.int .u32 1] 75)).kept hb3
    have hBB3 := Below.behind (hBB2.alloc (by omega) (.cells #[.int .u32 1] 75)) hb3
    rw [World.size_alloc] at hz3 hv
    clear y0 y1 y2 y3 q0 q1 q2 q3 q4 q5 q6 q7 r0 r1 r2 r3 r4 r5 r6 r7 hQ2 hR2 hY2 hq2 hr2 hBB2 hone hb3
    obtain ⟨y0, y1, y2, y3, -⟩ := hY3.four
    obtain ⟨q0, q1, q2, q3, q4, q5, q6, q7⟩ := hQ3.four
    go_wp2_with fail
    obtain ⟨n3, hn3⟩ : ∃ n3, (lims 4294967296 (m / k + 1)).length = n3 := ⟨_, rfl⟩
    rw [hn3] at hv ⊢
    clear hn3
    have hQ4 := hQ3.put1 (.slice a3 n3 c3)
    have hR4 := hR3.far (p := ⟨w.heap.size + 1 + 1, 1, none⟩) (by simp) (.slice a3 n3 c3)
    have hY4 := hY3.far (p := ⟨w.heap.size + 1 + 1, 1, none⟩) (by simp) (.slice a3 n3 c3)
    have hv4 := hv.apart (hv.new (show w.heap.size + 1 + 1 < W2.heap.size + 1 by omega)) 1 (.slice a3 n3 c3)
    have hr4 := hr3.apart (hr3.new (show w.heap.size + 1 + 1 < W0.heap.size by omega)) 1 (.slice a3 n3 c3)
    have hBB4 := hBB3.setCell (p := ⟨w.heap.size + 1 + 1, 1, none⟩) (by show w.heap.size ≤ w.heap.size + 1 + 1; omega) (.slice a3 n3 c3)
    have hz4 : (w3.setCell ⟨w.heap.size + 1 + 1, 1, none⟩ (.slice a3 n3 c3)).heap.size = w3.heap.size := by simp
    clear y0 y1 y2 y3 q0 q1 q2 q3 q4 q5 q6 q7 hQ3 hR3 hY3 hv hr3 hBB3
    revert hQ4 hR4 hY4 hv4 hr4 hBB4 hz4
    generalize (w3.setCell ⟨w.heap.size + 1 + 1, 1, none⟩ (.slice a3 n3 c3)) = W4
    intro hQ4 hR4 hY4 hv4 hr4 hBB4 hz4
    refine (minus_any B2 W0.heap.size k (m % k) _ _ _ (HB.out.kept hBB4) hr4 (by rw [HLU.out]; exact hlb) hrk).mono ?_
    rintro e w5 ⟨⟨v5, rfl, hv5⟩, hb5⟩
    obtain ⟨a5, c5, rfl⟩ := hv5.slice
    obtain ⟨n5, hn5⟩ : ∃ n5, (lims 4294967296 (k - m % k)).length = n5 := ⟨_, rfl⟩
    rw [hn5] at hv5 ⊢
    clear hn5
    have hz5 := hb5.size
    have hQ2 := hQ4.below hb5
    have hR2 := hR4.below hb5
    have hY2 := hY4.below hb5
    have hq2 := hv4.kept hb5
    have hr2 := hv5
    have hBB2 := Below.behind hBB4 hb5
    clear hQ4 hR4 hY4 hv4 hv5 hr4 hBB4 hb5
    obtain ⟨y0, y1, y2, y3, -⟩ := hY2.four
    obtain ⟨q0, q1, q2, q3, q4, q5, q6, q7⟩ := hQ2.four
    obtain ⟨r0, r1, r2, r3, r4, r5, r6, r7⟩ := hR2.four
    go_wp2_with fail
    go_region
    have hQ3 := ((((hQ2.put4 (.bool true) (.slice a3 n3 c3) (.bool false) (.bool false)).far (p := ⟨w.heap.size + 1 + 1 + 1, 0, none⟩) (by simp) (.bool t)).far (p := ⟨w.heap.size + 1 + 1 + 1, 1, none⟩) (by simp) (.slice a5 n5 c5)).far (p := ⟨w.heap.size + 1 + 1 + 1, 2, none⟩) (by simp) (.bool false)).far (p := ⟨w.heap.size + 1 + 1 + 1, 3, none⟩) (by simp) (.bool false)
    have hR3 := ((((hR2.far (p := ⟨w.heap.size + 1 + 1, 0, none⟩) (by simp) (.bool true)).far (p := ⟨w.heap.size + 1 + 1, 1, none⟩) (by simp) (.slice a3 n3 c3)).far (p := ⟨w.heap.size + 1 + 1, 2, none⟩) (by simp) (.bool false)).far (p := ⟨w.heap.size + 1 + 1, 3, none⟩) (by simp) (.bool false)).put4 (.bool t) (.slice a5 n5 c5) (.bool false) (.bool false)
    have hq3a := hq2.apart4 (hq2.new (show w.heap.size + 1 + 1 < W2.heap.size + 1 by omega)) (.bool true) (.slice a3 n3 c3) (.bool false) (.bool false)
    have hq3 := hq3a.apart4 (hq3a.new (show w.heap.size + 1 + 1 + 1 < W2.heap.size + 1 by omega)) (.bool t) (.slice a5 n5 c5) (.bool false) (.bool false)
    have hr3a := hr2.apart4 (hr2.new (show w.heap.size + 1 + 1 < W4.heap.size by omega)) (.bool true) (.slice a3 n3 c3) (.bool false) (.bool false)
    have hr3 := hr3a.apart4 (hr3a.new (show w.heap.size + 1 + 1 + 1 < W4.heap.size by omega)) (.bool t) (.slice a5 n5 c5) (.bool false) (.bool false)
    have hBB3 := Below.four (Below.four hBB2 (show w.heap.size ≤ w.heap.size + 1 + 1 by omega) (.bool true) (.slice a3 n3 c3) (.bool false) (.bool false)) (show w.heap.size ≤ w.heap.size + 1 + 1 + 1 by omega) (.bool t) (.slice a5 n5 c5) (.bool false) (.bool false)
    have hQ4 := hQ3.drew
    have hR4 := hR3.drew
    have hq4 := hq3.drew
    have hr4 := hr3.drew
    have hBB4 := hBB3.drew
    clear hQ3 hR3 hq3 hr3 hBB3 hq3a hr3a y0 y1 y2 y3 q0 q1 q2 q3 q4 q5 q6 q7 r0 r1 r2 r3 r4 r5 r6 r7 hQ2 hR2 hY2 hq2 hr2 hBB2
    revert hQ4 hR4 hq4 hr4 hBB4
    generalize ((((((((w5.setCell ⟨w.heap.size + 1 + 1, 0, none⟩ (.bool true)).setCell ⟨w.heap.size + 1 + 1, 1, none⟩ (.slice a3 n3 c3)).setCell ⟨w.heap.size + 1 + 1, 2, none⟩ (.bool false)).setCell ⟨w.heap.size + 1 + 1, 3, none⟩ (.bool false)).setCell ⟨w.heap.size + 1 + 1 + 1, 0, none⟩ (.bool t)).setCell ⟨w.heap.size + 1 + 1 + 1, 1, none⟩ (.slice a5 n5 c5)).setCell ⟨w.heap.size + 1 + 1 + 1, 2, none⟩ (.bool false)).setCell ⟨w.heap.size + 1 + 1 + 1, 3, none⟩ (.bool false)).drew = F
    intro hQ4 hR4 hq4 hr4 hBB4
    obtain ⟨q0, q1, q2, q3, -⟩ := hQ4.four
    obtain ⟨r0, r1, r2, r3, -⟩ := hR4.four
    go_wp2
    refine bodyPost_ret (v := .tuple #[.agg #[.bool true, .slice a3 n3 c3, .bool false, .bool false], .agg #[.bool t, .slice a5 n5 c5, .bool false, .bool false]]) (by simp [results, Tryd.results70, go_sem, q0, q1, q2, q3, r0, r1, r2, r3]; try rfl) rfl ⟨⟨true, t, m / k + 1, k - m % k, _, _, _, _, _, _, rfl, NatIs.mono hq4 (by omega), NatIs.mono hr4 (by omega), HDV.out⟩, hBB4⟩
  · have hst : (!s == t) = false := by assumption
    obtain ⟨D0, hD0⟩ : ∃ D0, (!s == t) = D0 := ⟨_, rfl⟩
    have HDV : Hid (DivIs (sgI s m) (sgI t k) (sgI D0 (m / k)) (sgI t (m % k))) := Lib.hid (hD0 ▸ div_plain s t m k h0 (.inl hst))
    rw [hD0] at hst
    subst hst
    rw [hD0]
    clear hD0
    have hQ2 := hQ1.put4 (.bool false) (.slice a1 n1 c1) (.bool false) (.bool false)
    have hR2 : Has ((((w1.setCell ⟨w.heap.size + 1 + 1, 0, none⟩ (.bool false)).setCell ⟨w.heap.size + 1 + 1, 1, none⟩ (.slice a1 n1 c1)).setCell ⟨w.heap.size + 1 + 1, 2, none⟩ (.bool false)).setCell ⟨w.heap.size + 1 + 1, 3, none⟩ (.bool false)) (w.heap.size + 1 + 1 + 1) 46 _ := (((hR1.far (by simp) _).far (by simp) _).far (by simp) _).far (by simp) _
    have hY2 : Has ((((w1.setCell ⟨w.heap.size + 1 + 1, 0, none⟩ (.bool false)).setCell ⟨w.heap.size + 1 + 1, 1, none⟩ (.slice a1 n1 c1)).setCell ⟨w.heap.size + 1 + 1, 2, none⟩ (.bool false)).setCell ⟨w.heap.size + 1 + 1, 3, none⟩ (.bool false)) (w.heap.size + 1) 46 _ := (((hY1.far (by simp) _).far (by simp) _).far (by simp) _).far (by simp) _
    have hq2 := hq.apart4 (hq.new (show w.heap.size + 1 + 1 < W0.heap.size by omega)) (.bool false) (.slice a1 n1 c1) (.bool false) (.bool false)
    have hr2 := hr.apart4 (hr.new (show w.heap.size + 1 + 1 < W0.heap.size by omega)) (.bool false) (.slice a1 n1 c1) (.bool false) (.bool false)
    have hBB2 := Below.four hBB1 (show w.heap.size ≤ w.heap.size + 1 + 1 by omega) (.bool false) (.slice a1 n1 c1) (.bool false) (.bool false)
    revert hQ2 hR2 hY2 hq2 hr2 hBB2
    generalize ((((w1.setCell ⟨w.heap.size + 1 + 1, 0, none⟩ (.bool false)).setCell ⟨w.heap.size + 1 + 1, 1, none⟩ (.slice a1 n1 c1)).setCell ⟨w.heap.size + 1 + 1, 2, none⟩ (.bool false)).setCell ⟨w.heap.size + 1 + 1, 3, none⟩ (.bool false)) = W2
    intro hQ2 hR2 hY2 hq2 hr2 hBB2
    clear x0 x1 x2 x3 y0 y1 y2 y3 y4 y5 y6 y7 q0 q1 q2 q3 q4 q5 q6 q7 r0 r1 r2 r3 r4 r5 r6 r7 hQ1 hR1 hY1 hX1 hq hr hBB1
    obtain ⟨y0, y1, y2, y3, -⟩ := hY2.four
    obtain ⟨q0, q1, q2, q3, q4, q5, q6, q7⟩ := hQ2.four
    obtain ⟨r0, r1, r2, r3, r4, r5, r6, r7⟩ := hR2.four
    go_region
    have hQ3 := ((((hQ2.put4 (.bool false) (.slice a1 n1 c1) (.bool false) (.bool false)).far (p := ⟨w.heap.size + 1 + 1 + 1, 0, none⟩) (by simp) (.bool t)).far (p := ⟨w.heap.size + 1 + 1 + 1, 1, none⟩) (by simp) (.slice a2 n2 c2)).far (p := ⟨w.heap.size + 1 + 1 + 1, 2, none⟩) (by simp) (.bool false)).far (p := ⟨w.heap.size + 1 + 1 + 1, 3, none⟩) (by simp) (.bool false)
    have hR3 := ((((hR2.far (p := ⟨w.heap.size + 1 + 1, 0, none⟩) (by simp) (.bool false)).far (p := ⟨w.heap.size + 1 + 1, 1, none⟩) (by simp) (.slice a1 n1 c1)).far (p := ⟨w.heap.size + 1 + 1, 2, none⟩) (by simp) (.bool false)).far (p := ⟨w.heap.size + 1 + 1, 3, none⟩) (by simp) (.bool false)).put4 (.bool t) (.slice a2 n2 c2) (.bool false) (.bool false)
    have hq3a := hq2.apart4 (hq2.new (show w.heap.size + 1 + 1 < W0.heap.size by omega)) (.bool false) (.slice a1 n1 c1) (.bool false) (.bool false)
    have hq3 := hq3a.apart4 (hq3a.new (show w.heap.size + 1 + 1 + 1 < W0.heap.size by omega)) (.bool t) (.slice a2 n2 c2) (.bool false) (.bool false)
    have hr3a := hr2.apart4 (hr2.new (show w.heap.size + 1 + 1 < W0.heap.size by omega)) (.bool false) (.slice a1 n1 c1) (.bool false) (.bool false)
    have hr3 := hr3a.apart4 (hr3a.new (show w.heap.size + 1 + 1 + 1 < W0.heap.size by omega)) (.bool t) (.slice a2 n2 c2) (.bool false) (.bool false)
    have hBB3 := Below.four (Below.four hBB2 (show w.heap.size ≤ w.heap.size + 1 + 1 by omega) (.bool false) (.slice a1 n1 c1) (.bool false) (.bool false)) (show w.heap.size ≤ w.heap.size + 1 + 1 + 1 by omega) (.bool t) (.slice a2 n2 c2) (.bool false) (.bool false)
    have hQ4 := hQ3.drew
    have hR4 := hR3.drew
    have hq4 := hq3.drew
    have hr4 := hr3.drew
    have hBB4 := hBB3.drew
    clear hQ3 hR3 hq3 hr3 hBB3 hq3a hr3a y0 y1 y2 y3 q0 q1 q2 q3 q4 q5 q6 q7 r0 r1 r2 r3 r4 r5 r6 r7 hQ2 hR2 hY2 hq2 hr2 hBB2
    revert hQ4 hR4 hq4 hr4 hBB4
    generalize ((((((((W2.setCell ⟨w.heap.size + 1 + 1, 0, none⟩ (.bool false)).setCell ⟨w.heap.size + 1 + 1, 1, none⟩ (.slice a1 n1 c1)).setCell ⟨w.heap.size + 1 + 1, 2, none⟩ (.bool false)).setCell ⟨w.heap.size + 1 + 1, 3, none⟩ (.bool false)).setCell ⟨w.heap.size + 1 + 1 + 1, 0, none⟩ (.bool t)).setCell ⟨w.heap.size + 1 + 1 + 1, 1, none⟩ (.slice a2 n2 c2)).setCell ⟨w.heap.size + 1 + 1 + 1, 2, none⟩ (.bool false)).setCell ⟨w.heap.size + 1 + 1 + 1, 3, none⟩ (.bool false)).drew = F
    intro hQ4 hR4 hq4 hr4 hBB4
    obtain ⟨q0, q1, q2, q3, -⟩ := hQ4.four
    obtain ⟨r0, r1, r2, r3, -⟩ := hR4.four
    go_wp2
    refine bodyPost_ret (v := .tuple #[.agg #[.bool false, .slice a1 n1 c1, .bool false, .bool false], .agg #[.bool t, .slice a2 n2 c2, .bool false, .bool false]]) (by simp [results, Tryd.results70, go_sem, q0, q1, q2, q3, r0, r1, r2, r3]; try rfl) rfl ⟨⟨false, t, m / k, m % k, _, _, _, _, _, _, rfl, NatIs.mono hq4 (by omega), NatIs.mono hr4 (by omega), HDV.out⟩, hBB4⟩
  · have hn : ¬ 0 < n2 := by assumption
    obtain ⟨D0, hD0⟩ : ∃ D0, (!s == t) = D0 := ⟨_, rfl⟩
    have HDV : Hid (DivIs (sgI s m) (sgI t k) (sgI D0 (m / k)) (sgI t (m % k))) := Lib.hid (hD0 ▸ div_plain s t m k h0 (.inr (by have := HRL.out; omega)))
    rw [hD0]
    clear hD0
    have hQ2 := hQ1.put4 (.bool D0) (.slice a1 n1 c1) (.bool false) (.bool false)
    have hR2 : Has ((((w1.setCell ⟨w.heap.size + 1 + 1, 0, none⟩ (.bool D0)).setCell ⟨w.heap.size + 1 + 1, 1, none⟩ (.slice a1 n1 c1)).setCell ⟨w.heap.size + 1 + 1, 2, none⟩ (.bool false)).setCell ⟨w.heap.size + 1 + 1, 3, none⟩ (.bool false)) (w.heap.size + 1 + 1 + 1) 46 _ := (((hR1.far (by simp) _).far (by simp) _).far (by simp) _).far (by simp) _
    have hY2 : Has ((((w1.setCell ⟨w.heap.size + 1 + 1, 0, none⟩ (.bool D0)).setCell ⟨w.heap.size + 1 + 1, 1, none⟩ (.slice a1 n1 c1)).setCell ⟨w.heap.size + 1 + 1, 2, none⟩ (.bool false)).setCell ⟨w.heap.size + 1 + 1, 3, none⟩ (.bool false)) (w.heap.size + 1) 46 _ := (((hY1.far (by simp) _).far (by simp) _).far (by simp) _).far (by simp) _
    have hq2 := hq.apart4 (hq.new (show w.heap.size + 1 + 1 < W0.heap.size by omega)) (.bool D0) (.slice a1 n1 c1) (.bool false) (.bool false)
    have hr2 := hr.apart4 (hr.new (show w.heap.size + 1 + 1 < W0.heap.size by omega)) (.bool D0) (.slice a1 n1 c1) (.bool false) (.bool false)
    have hBB2 := Below.four hBB1 (show w.heap.size ≤ w.heap.size + 1 + 1 by omega) (.bool D0) (.slice a1 n1 c1) (.bool false) (.bool false)
    revert hQ2 hR2 hY2 hq2 hr2 hBB2
    generalize ((((w1.setCell ⟨w.heap.size + 1 + 1, 0, none⟩ (.bool D0)).setCell ⟨w.heap.size + 1 + 1, 1, none⟩ (.slice a1 n1 c1)).setCell ⟨w.heap.size + 1 + 1, 2, none⟩ (.bool false)).setCell ⟨w.heap.size + 1 + 1, 3, none⟩ (.bool false)) = W2
    intro hQ2 hR2 hY2 hq2 hr2 hBB2
    clear x0 x1 x2 x3 y0 y1 y2 y3 y4 y5 y6 y7 q0 q1 q2 q3 q4 q5 q6 q7 r0 r1 r2 r3 r4 r5 r6 r7 hQ1 hR1 hY1 hX1 hq hr hBB1
    obtain ⟨y0, y1, y2, y3, -⟩ := hY2.four
    obtain ⟨q0, q1, q2, q3, q4, q5, q6, q7⟩ := hQ2.four
    obtain ⟨r0, r1, r2, r3, r4, r5, r6, r7⟩ := hR2.four
    go_region
    have hQ3 := ((((hQ2.put4 (.bool D0) (.slice a1 n1 c1) (.bool false) (.bool false)).far (p := ⟨w.heap.size + 1 + 1 + 1, 0, none⟩) (by simp) (.bool t)).far (p := ⟨w.heap.size + 1 + 1 + 1, 1, none⟩) (by simp) (.slice a2 n2 c2)).far (p := ⟨w.heap.size + 1 + 1 + 1, 2, none⟩) (by simp) (.bool false)).far (p := ⟨w.heap.size + 1 + 1 + 1, 3, none⟩) (by simp) (.bool false)
    have hR3 := ((((hR2.far (p := ⟨w.heap.size + 1 + 1, 0, none⟩) (by simp) (.bool D0)).far (p := ⟨w.heap.size + 1 + 1, 1, none⟩) (by simp) (.slice a1 n1 c1)).far (p := ⟨w.heap.size + 1 + 1, 2, none⟩) (by simp) (.bool false)).far (p := ⟨w.heap.size + 1 + 1, 3, none⟩) (by simp) (.bool false)).put4 (.bool t) (.slice a2 n2 c2) (.bool false) (.bool false)
    have hq3a := hq2.apart4 (hq2.new (show w.heap.size + 1 + 1 < W0.heap.size by omega)) (.bool D0) (.slice a1 n1 c1) (.bool false) (.bool false)
    have hq3 := hq3a.apart4 (hq3a.new (show w.heap.size + 1 + 1 + 1 < W0.heap.size by omega)) (.bool t) (.slice a2 n2 c2) (.bool false) (.bool false)
    have hr3a := hr2.apart4 (hr2.new (show w.heap.size + 1 + 1 < W0.heap.size by omega)) (.bool D0) (.slice a1 n1 c1) (.bool false) (.bool false)
    have hr3 := hr3a.apart4 (hr3a.new (show w.heap.size + 1 + 1 + 1 < W0.heap.size by omega)) (.bool t) (.slice a2 n2 c2) (.bool false) (.bool false)
    have hBB3 := Below.four (Below.four hBB2 (show w.heap.size ≤ w.heap.size + 1 + 1 by omega) (.bool D0) (.slice a1 n1 c1) (.bool false) (.bool false)) (show w.heap.size ≤ w.heap.size + 1 + 1 + 1 by omega) (.bool t) (.slice a2 n2 c2) (.bool false) (.bool false)
    have hQ4 := hQ3.drew
    have hR4 := hR3.drew
    have hq4 := hq3.drew
    have hr4 := hr3.drew
    have hBB4 := hBB3.drew
    clear hQ3 hR3 hq3 hr3 hBB3 hq3a hr3a y0 y1 y2 y3 q0 q1 q2 q3 q4 q5 q6 q7 r0 r1 r2 r3 r4 r5 r6 r7 hQ2 hR2 hY2 hq2 hr2 hBB2
    revert hQ4 hR4 hq4 hr4 hBB4
    generalize ((((((((W2.setCell ⟨w.heap.size + 1 + 1, 0, none⟩ (.bool D0)).setCell ⟨w.heap.size + 1 + 1, 1, none⟩ (.slice a1 n1 c1)).setCell ⟨w.heap.size + 1 + 1, 2, none⟩ (.bool false)).setCell ⟨w.heap.size + 1 + 1, 3, none⟩ (.bool false)).setCell ⟨w.heap.size + 1 + 1 + 1, 0, none⟩ (.bool t)).setCell ⟨w.heap.size + 1 + 1 + 1, 1, none⟩ (.slice a2 n2 c2)).setCell ⟨w.heap.size + 1 + 1 + 1, 2, none⟩ (.bool false)).setCell ⟨w.heap.size + 1 + 1 + 1, 3, none⟩ (.bool false)).drew = F
    intro hQ4 hR4 hq4 hr4 hBB4
    obtain ⟨q0, q1, q2, q3, -⟩ := hQ4.four
    obtain ⟨r0, r1, r2, r3, -⟩ := hR4.four
    go_wp2
    refine bodyPost_ret (v := .tuple #[.agg #[.bool D0, .slice a1 n1 c1, .bool false, .bool false], .agg #[.bool t, .slice a2 n2 c2, .bool false, .bool false]]) (by simp [results, Tryd.results70, go_sem, q0, q1, q2, q3, r0, r1, r2, r3]; try rfl) rfl ⟨⟨D0, t, m / k, m % k, _, _, _, _, _, _, rfl, NatIs.mono hq4 (by omega), NatIs.mono hr4 (by omega), HDV.out⟩, hBB4⟩
end Go.Proofs.YtmnibfdenmeepaaDoor
