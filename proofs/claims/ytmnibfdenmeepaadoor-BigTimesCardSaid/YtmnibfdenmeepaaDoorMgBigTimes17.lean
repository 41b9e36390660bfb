/- The texts TwoO Power Pow RPow TimesLaw, one behind the other. -/
import Derived.Test.YtmnibfdenmeepaaDoorMgBigTimes16
/- parseTwo of the program: what it says of odd numbers too. -/
namespace Go.Proofs.YtmnibfdenmeepaaDoor
open Go.RowKit Go.Shelf Big

/-- What is read of a text: a sign, a slice, whether it is long, whether it is a number. -/
def PFo (B : Nat) (l : List UInt8) (w' : World) (s : Bool) (v : Value) (lg od t : Bool) : Prop :=
  (t = true ∧ ∃ z : Int, numOf l = some z ∧ s = decide (z < 0) ∧ lg = tooL z.natAbs ∧ od = decide (z.natAbs % 2 = 1) ∧ NatIs w' B v z.natAbs) ∨ (t = false ∧ numOf l = none)
theorem ParseIs.formO {B : Nat} {l : List UInt8} {w' : World} {e : Ending} (h : ParseIs B l w' e) :
    ∃ (s : Bool) (av : Option Addr) (n c : Nat) (lg od t : Bool), e = .returned (.tuple #[.agg #[.bool s, .slice av n c, .bool lg, .bool od], .bool t]) ∧ PFo B l w' s (.slice av n c) lg od t := by
  rcases h with ⟨h1, h2⟩ | ⟨z, h1, v, h2, hn⟩
  · exact ⟨false, none, 0, 0, false, false, false, h2, .inr ⟨rfl, h1⟩⟩
  · obtain ⟨av, c, rfl⟩ := hn.slice
    exact ⟨_, av, _, c, _, _, true, h2, .inl ⟨rfl, z, h1, rfl, rfl, rfl, hn⟩⟩
theorem PFo.stay {B b : Nat} {l : List UInt8} {w w' : World} {s : Bool} {v : Value} {lg od t : Bool} (h : PFo B l w s v lg od t) (hk : ∀ n, NatIs w B v n → NatIs w' b v n) : PFo b l w' s v lg od t := by
  rcases h with ⟨h1, z, h2, h3, h4, h6, h5⟩ | h
  · exact .inl ⟨h1, z, h2, h3, h4, h6, hk _ h5⟩
  · exact .inr h

/-- What parseTwo answers. -/
def P2o (B : Nat) (a b : List UInt8) (w' : World) (e : Ending) : Prop :=
  ∃ (s1 : Bool) (a1 : Option Addr) (n1 c1 : Nat) (g1 o1 t1 s2 : Bool) (a2 : Option Addr) (n2 c2 : Nat) (g2 o2 t2 : Bool),
    e = .returned (.tuple #[.agg #[.bool s1, .slice a1 n1 c1, .bool g1, .bool o1], .agg #[.bool s2, .slice a2 n2 c2, .bool g2, .bool o2], .int .i64 (if (t1 && t2) = true then 0 else 2)]) ∧
    PFo B a w' s1 (.slice a1 n1 c1) g1 o1 t1 ∧ PFo B b w' s2 (.slice a2 n2 c2) g2 o2 t2

set_option maxRecDepth 100000 in
set_option maxHeartbeats 4000000 in
theorem parseTwo_odd (a b : ByteArray) (w : World) (ha : a.size ≤ 1000) (hb : b.size ≤ 1000) :
    Calls Tryd.prog 64 #[.string a, .string b] w fun e w' => P2o w.heap.size a.data.toList b.data.toList w' e ∧ Below w.heap.size w w' := by
  go_enter Tryd.func64, Tryd.ntmps64
  go_wp2_with fail
  obtain ⟨W0, hW0⟩ : ∃ W0, (w.alloc (.cells #[.bool false, .slice none 0 0, .bool false, .bool false] 46)).alloc (.cells #[.bool false, .slice none 0 0, .bool false, .bool false] 46) = W0 := ⟨_, rfl⟩
  rw [hW0]
  have hz0 : W0.heap.size = w.heap.size + 2 := by rw [← hW0]; simp
  have hX : Has W0 w.heap.size 46 #[.bool false, .slice none 0 0, .bool false, .bool false] := by rw [← hW0]; exact (Has.new w _ _).alloc _
  have hY : Has W0 (w.heap.size + 1) 46 #[.bool false, .slice none 0 0, .bool false, .bool false] := by rw [← hW0]; exact Has.new' (by simp) _ _
  have hBB : Below w.heap.size w W0 := by rw [← hW0]; exact ((Below.refl _ w).alloc (Nat.le_refl _) _).alloc (by simp) _
  clear hW0
  refine (parse_any a W0 ha).mono ?_
  rintro e w1 ⟨hp1, hb1⟩
  obtain ⟨s1, a1, n1, c1, g1, o1, t1, rfl, hf1⟩ := hp1.formO
  have hz1 := hb1.size
  have hX1 := hX.below hb1
  have hY1 := hY.below hb1
  obtain ⟨q0, q1, q2, q3, q4, q5, q6, q7⟩ := hX1.four
  go_wp2_with fail
  have hX2 := hX1.put4 (.bool s1) (.slice a1 n1 c1) (.bool g1) (.bool o1)
  have hY2 : Has ((((w1.setCell ⟨w.heap.size, 0, none⟩ (.bool s1)).setCell ⟨w.heap.size, 1, none⟩ (.slice a1 n1 c1)).setCell ⟨w.heap.size, 2, none⟩ (.bool g1)).setCell ⟨w.heap.size, 3, none⟩ (.bool o1)) (w.heap.size + 1) 46 _ := (((hY1.far (by simp) _).far (by simp) _).far (by simp) _).far (by simp) _
  have hf2 : PFo (w.heap.size + 2) a.data.toList ((((w1.setCell ⟨w.heap.size, 0, none⟩ (.bool s1)).setCell ⟨w.heap.size, 1, none⟩ (.slice a1 n1 c1)).setCell ⟨w.heap.size, 2, none⟩ (.bool g1)).setCell ⟨w.heap.size, 3, none⟩ (.bool o1)) s1 (.slice a1 n1 c1) g1 o1 t1 :=
    hf1.stay (fun n hn => NatIs.mono (hn.apart4 (hn.new (by omega)) _ _ _ _) (by omega))
  have hB2 : Below w.heap.size w ((((w1.setCell ⟨w.heap.size, 0, none⟩ (.bool s1)).setCell ⟨w.heap.size, 1, none⟩ (.slice a1 n1 c1)).setCell ⟨w.heap.size, 2, none⟩ (.bool g1)).setCell ⟨w.heap.size, 3, none⟩ (.bool o1)) := Below.four (Below.behind hBB hb1) (Nat.le_refl _) _ _ _ _
  have hs2 : ((((w1.setCell ⟨w.heap.size, 0, none⟩ (.bool s1)).setCell ⟨w.heap.size, 1, none⟩ (.slice a1 n1 c1)).setCell ⟨w.heap.size, 2, none⟩ (.bool g1)).setCell ⟨w.heap.size, 3, none⟩ (.bool o1)).heap.size = w1.heap.size := by simp
  revert hX2 hY2 hf2 hB2 hs2
  generalize ((((w1.setCell ⟨w.heap.size, 0, none⟩ (.bool s1)).setCell ⟨w.heap.size, 1, none⟩ (.slice a1 n1 c1)).setCell ⟨w.heap.size, 2, none⟩ (.bool g1)).setCell ⟨w.heap.size, 3, none⟩ (.bool o1)) = W2
  intro hX2 hY2 hf2 hB2 hs2
  clear q0 q1 q2 q3 q4 q5 q6 q7 hX1 hY1 hX hY hf1 hp1
  refine (parse_any b W2 hb).mono ?_
  rintro e w3 ⟨hp3, hb3⟩
  obtain ⟨s2, a2, n2, c2, g2, o2, t2, rfl, hf3⟩ := hp3.formO
  have hz3 := hb3.size
  have hX3 := hX2.below hb3
  have hY3 := hY2.below hb3
  obtain ⟨q0, q1, q2, q3, q4, q5, q6, q7⟩ := hX3.four
  obtain ⟨r0, r1, r2, r3, r4, r5, r6, r7⟩ := hY3.four
  have HF1 := Lib.hid (hf2.stay (w' := w3) (b := w.heap.size + 2) (fun n hn => hn.kept hb3))
  have HF2 := Lib.hid (hf3.stay (b := w.heap.size + 2) (fun n hn => NatIs.mono hn (by omega)))
  have HB3 := Lib.hid (Below.behind hB2 hb3)
  have HX3 := Lib.hid hX3
  have HY3 := Lib.hid hY3
  clear hf2 hf3 hp3 hX2 hY2 hX3 hY3 hB2
  cases t1 <;> cases t2
  all_goals
    go_wp2_with fail
    go_region
    have hfin := fin12 w.heap.size (.bool s1) (.slice a1 n1 c1) (.bool g1) (.bool o1) (.bool s2) (.slice a2 n2 c2) (.bool g2) (.bool o2) w3 HX3.out HY3.out
    have HFF := Lib.hid (fun l s v g o t (h : PFo (w.heap.size + 2) l w3 s v g o t) => PFo.stay (b := w.heap.size) h (fun n hn => hfin.2.2.2 n v hn))
    have HBF := Lib.hid (HB3.out.trans hfin.2.2.1)
    obtain ⟨x0, x1, x2, x3, -⟩ := hfin.1.four
    obtain ⟨y0, y1, y2, y3, -⟩ := hfin.2.1.four
    clear hfin q0 q1 q2 q3 q4 q5 q6 q7 r0 r1 r2 r3 r4 r5 r6 r7
    revert x0 x1 x2 x3 y0 y1 y2 y3 HFF HBF
    generalize ((((((((((((w3.setCell ⟨w.heap.size + 1, 0, none⟩ (.bool s2)).setCell ⟨w.heap.size + 1, 1, none⟩ (.slice a2 n2 c2)).setCell ⟨w.heap.size + 1, 2, none⟩ (.bool g2)).setCell ⟨w.heap.size + 1, 3, none⟩ (.bool o2)).setCell ⟨w.heap.size, 0, none⟩ (.bool s1)).setCell ⟨w.heap.size, 1, none⟩ (.slice a1 n1 c1)).setCell ⟨w.heap.size, 2, none⟩ (.bool g1)).setCell ⟨w.heap.size, 3, none⟩ (.bool o1)).setCell ⟨w.heap.size + 1, 0, none⟩ (.bool s2)).setCell ⟨w.heap.size + 1, 1, none⟩ (.slice a2 n2 c2)).setCell ⟨w.heap.size + 1, 2, none⟩ (.bool g2)).setCell ⟨w.heap.size + 1, 3, none⟩ (.bool o2)).drew = F
    intro HFF HBF x0 x1 x2 x3 y0 y1 y2 y3
    go_wp2
    refine bodyPost_ret (v := .tuple #[.agg #[.bool s1, .slice a1 n1 c1, .bool g1, .bool o1], .agg #[.bool s2, .slice a2 n2 c2, .bool g2, .bool o2], .int .i64 _]) (by simp [results, Tryd.results64, go_sem, x0, x1, x2, x3, y0, y1, y2, y3]; rfl) rfl ⟨⟨s1, a1, n1, c1, g1, o1, _, s2, a2, n2, c2, g2, o2, _, ?_, HFF.out _ _ _ _ _ _ HF1.out, HFF.out _ _ _ _ _ _ HF2.out⟩, HBF.out⟩
    rfl
end Go.Proofs.YtmnibfdenmeepaaDoor
/- power of the program. -/
namespace Go.Proofs.YtmnibfdenmeepaaDoor
open Go.RowKit Go.Shelf Big

theorem shr_op32 (T s : Nat) (hs : s < 32) : Op.shift .shr .u32 (T : Int) .i64 (s : Int) = pure (.int .u32 ((T / 2 ^ s : Nat) : Int)) := by
  rw [shift_shr _ _ _ _ (by omega) (by show (s : Int) ≤ ((32 : Nat) : Int); omega), Int.toNat_natCast]
  simp
theorem len_63 {n : Nat} (h : tooL n = false) : (lims 4294967296 n).length ≤ 63 := by
  have h1 := lims_of_tool h
  have h2 : 2 ^ k2008 ≤ 4294967296 ^ 63 := by decide +kernel
  exact (lims_len_le w32_ge n 63).2 (Nat.lt_of_lt_of_le h1 h2)
theorem len_mul32 {a b p q : Nat} (ha : (lims 4294967296 a).length ≤ p) (hb : (lims 4294967296 b).length ≤ q) : (lims 4294967296 (a * b)).length ≤ p + q := by
  refine (lims_len_le w32_ge (a * b) (p + q)).2 ?_
  rw [Nat.pow_add]
  exact Nat.mul_lt_mul'' ((lims_len_le w32_ge a p).1 ha) ((lims_len_le w32_ge b q).1 hb)
theorem half_bit (y i : Nat) : y / 2 ^ i = 2 * (y / 2 ^ (i + 1)) + y / 2 ^ i % 2 := by
  rw [Nat.pow_succ, ← Nat.div_div_eq_div_mul]
  generalize y / 2 ^ i = t
  omega
theorem sg_pow (z : Int) (k : Nat) : (z ^ k).natAbs = z.natAbs ^ k := Int.natAbs_pow z k
/-- What power answers: the power, or that it is too long. -/
def PowIs (X : Int) (y : Nat) (w' : World) (e : Ending) : Prop :=
  ∃ (r lg : Bool) (v : Value) (n : Nat), e = .returned (.agg #[.bool r, v, .bool lg, .bool false]) ∧ NatIs w' 0 v n ∧ (lims 4294967296 n).length ≤ 100000 ∧ ((lg = true ∧ tooL (X ^ y).natAbs = true) ∨ (lg = false ∧ sgI r n = X ^ y))
theorem pow_up {X : Int} {j y : Nat} (hX : 2 ≤ X.natAbs) (hj : j ≤ y) (h : tooL (X ^ j).natAbs = true) : tooL (X ^ y).natAbs = true := by
  unfold tooL at *
  have h1 := of_decide_eq_true h
  rw [sg_pow] at h1 ⊢
  exact decide_eq_true (Nat.le_trans h1 (Nat.pow_le_pow_right (by omega) hj))
theorem big_far4 {W : World} {g k : Nat} {t : TypeId} {cs : Array Value} (h : Has W g t cs) (hne : g ≠ k) (a b c d : Value) : Has ((((W.setCell ⟨k, 0, none⟩ a).setCell ⟨k, 1, none⟩ b).setCell ⟨k, 2, none⟩ c).setCell ⟨k, 3, none⟩ d) g t cs :=
  (((h.far hne a).far hne b).far hne c).far hne d
set_option maxRecDepth 100000 in
set_option maxHeartbeats 4000000 in
theorem power_any (B1 B2 m y : Nat) (va vb : Value) (s l1 o1 : Bool) (w : World) (ha : NatIs w B1 va m) (hb : NatIs w B2 vb y) (hx : tooL m = false) (hm : 2 ≤ m ∨ y = 0) (hy : y ≤ 2008) :
    Calls Tryd.prog 75 #[.agg #[.bool s, va, .bool l1, .bool o1], vb] w fun e w' => PowIs (sgI s m) y w' e ∧ Below w.heap.size w w' := by
  obtain ⟨X, hX⟩ : ∃ X, sgI s m = X := ⟨_, rfl⟩
  rw [hX]
  obtain ⟨av, ca, rfl⟩ := ha.slice
  obtain ⟨lv, hlv⟩ : ∃ lv, (lims 4294967296 m).length = lv := ⟨_, rfl⟩
  rw [hlv] at ha ⊢
  have hml := len_63 hx
  obtain ⟨W0, hW0⟩ : ∃ W0, ((((w.alloc (.cells #[.bool s, .slice av lv ca, .bool l1, .bool o1] 46)).alloc (.cells #[.bool false, .slice none 0 0, .bool false, .bool false] 46)).alloc (.cells #[.int .u32 1] 75)).alloc (.cells #[.bool false, .slice (some ⟨w.heap.size + 2, 0, none⟩) 1 1, .bool false, .bool false] 46)) = W0 := ⟨_, rfl⟩
  have hz0 : W0.heap.size = w.heap.size + 4 := by rw [← hW0]; simp
  have hA : NatIs W0 0 (.slice av lv ca) m := by rw [← hW0]; exact NatIs.mono ((((ha.alloc _).alloc _).alloc _).alloc _) (Nat.zero_le _)
  have hB : NatIs W0 0 vb y := by rw [← hW0]; exact NatIs.mono ((((hb.alloc _).alloc _).alloc _).alloc _) (Nat.zero_le _)
  have hXb : Has W0 w.heap.size 46 #[.bool s, .slice av lv ca, .bool l1, .bool o1] := by rw [← hW0]; exact (((Has.new w _ _).alloc _).alloc _).alloc _
  have hR : Has W0 (w.heap.size + 1) 46 #[.bool false, .slice none 0 0, .bool false, .bool false] := by rw [← hW0]; exact ((Has.new' (n := w.heap.size + 1) (by simp) _ _).alloc _).alloc _
  have h1 : NatIs W0 0 (.slice (some ⟨w.heap.size + 2, 0, none⟩) 1 1) 1 := by
    have h := nat_one ((w.alloc (.cells #[.bool s, .slice av lv ca, .bool l1, .bool o1] 46)).alloc (.cells #[.bool false, .slice none 0 0, .bool false, .bool false] 46)) 0 (Nat.zero_le _)
    rw [← hW0]
    have h9 : NatIs (((w.alloc (.cells #[.bool s, .slice av lv ca, .bool l1, .bool o1] 46)).alloc (.cells #[.bool false, .slice none 0 0, .bool false, .bool false] 46)).alloc (.cells #[.int .u32 1] 75)) 0 (.slice (some ⟨w.heap.size + 2, 0, none⟩) 1 1) 1 := by simpa using h
    exact World.ownsRow.alloc h9 _
  have hO : Has W0 (w.heap.size + 3) 46 #[.bool false, .slice (some ⟨w.heap.size + 2, 0, none⟩) 1 1, .bool false, .bool false] := by rw [← hW0]; exact Has.new' (n := w.heap.size + 3) (by simp) _ _
  have hBB : Below w.heap.size w W0 := by rw [← hW0]; exact ((((Below.refl _ w).alloc (Nat.le_refl _) _).alloc (by simp) _).alloc (by simp; omega) _).alloc (by simp; omega) _
  have HW := Lib.hid hW0
  have HAB := Lib.hid (And.intro hA hB)
  have HLn := Lib.hid (length_any 0 y vb W0 hB (Nat.le_trans ((lims_len_le w32_ge y 1).2 (by omega)) (by decide)))
  obtain ⟨bv, cb, rfl⟩ := hb.slice
  obtain ⟨lu, hlu⟩ : ∃ lu, (lims 4294967296 y).length = lu := ⟨_, rfl⟩
  rw [hlu] at HAB HLn hb ⊢
  have hbl := blen_lt y
  have hbl2 : blen y ≤ 11 := by
    rcases Nat.eq_zero_or_pos y with h | h
    · subst h; decide
    · refine Nat.le_of_not_lt (fun h2 => ?_)
      have h3 := blen_ge h
      have h4 : 2 ^ 11 ≤ 2 ^ (blen y - 1) := Nat.pow_le_pow_right (by decide) (by omega)
      omega
  obtain ⟨L, hL⟩ : ∃ L, blen y = L := ⟨_, rfl⟩
  rw [hL] at hbl hbl2 HLn
  have hyz : y = 0 → L = 0 := fun h => by rw [← hL, h]; rfl
  have hb1 : 0 < y → ∃ gb, bv = some ⟨gb, 0, none⟩ ∧ lu = 1 := fun h => by
    have e := lims_one h (show y < 4294967296 by omega)
    have hl1 : lu = 1 := by rw [← hlu, e]; rfl
    rcases hb.2 with ⟨e2, _⟩ | ⟨g, cap, cur, e2, _⟩
    · injection e2 with _ e3 _; omega
    · injection e2 with e3; exact ⟨g, e3, hl1⟩
  have HB1 := Lib.hid hb1
  have HML := Lib.hid (And.intro hml (And.intro hX hm))
  clear ha hb hW0 hA hB hlv hlu hX hL hb1
  go_enter Tryd.func75, Tryd.ntmps75
  go_upto_region 2 with fail
  rw [HW.out]
  clear HW
  go_wp2_with (go_at_call 115; refine HLn.out.mono ?_; rintro e w' ⟨rfl, rfl⟩)
  go_loopg [6] L (fun gh v6 wx => ∃ (r : Bool) (n : Nat) (a : Option Addr) (l c : Nat), v6 = .int .i64 ((gh : Int) - 1) ∧ gh ≤ L ∧ Has wx (w.heap.size + 3) 46 #[.bool r, .slice a l c, .bool false, .bool false] ∧ NatIs wx 0 (.slice a l c) n ∧ sgI r n = X ^ (y / 2 ^ gh) ∧ tooL n = false ∧ Has wx w.heap.size 46 #[.bool s, .slice av lv ca, .bool l1, .bool o1] ∧ NatIs wx 0 (.slice av lv ca) m ∧ NatIs wx 0 (.slice bv lu cb) y ∧ Has wx (w.heap.size + 1) 46 #[.bool false, .slice none 0 0, .bool false, .bool false] ∧ Below w.heap.size w wx)
  case atStart => exact ⟨false, 1, _, 1, 1, rfl, Nat.le_refl _, hO, h1, by rw [Nat.div_eq_of_lt hbl, Int.pow_zero]; rfl, tool_small (by decide), hXb, HAB.out.1, HAB.out.2, hR, hBB⟩
  case round =>
    obtain ⟨r, n, a, l, c, rfl, hgL, hO', hN, hsg, htn, hXb', hA, hB, hR', hBl⟩ := hrel
    have hzr := hO'.lt
    clear hO h1 hXb hR hBB
    cases gk with
    | zero =>
      have hneg : ¬ ((0 : Nat) : Int) - 1 ≥ 0 := by omega
      obtain ⟨o0, o1', o2, o3, -⟩ := hO'.four
      obtain ⟨r0, r1, r2, r3, f0, f1, f2, f3⟩ := hR'.four
      have HF := Lib.hid (fun (a1 a2 a3 a4 : Value) => show NatIs ((((wr.setCell ⟨w.heap.size + 1, 0, none⟩ a1).setCell ⟨w.heap.size + 1, 1, none⟩ a2).setCell ⟨w.heap.size + 1, 2, none⟩ a3).setCell ⟨w.heap.size + 1, 3, none⟩ a4) 0 (.slice a l c) n from NatIs.apart4 hN (NatIs.notBig hN hR') _ _ _ _)
      have HS := Lib.hid (show sgI r n = X ^ y by rw [hsg, Nat.pow_zero, Nat.div_one])
      have HL9 := Lib.hid (Nat.le_trans (len_63 htn) (show 63 ≤ 100000 by decide))
      have HBl := Lib.hid hBl
      clear hO' hN hsg htn hXb' hA hB hR' hBl
      go_wp2_with fail
      exact bodyPost_ret (v := .agg #[.bool r, .slice a l c, .bool false, .bool false]) (by simp [results, Tryd.results75, go_sem, World.cell?_setCell_same', r0, r1, r2, r3]) rfl ⟨⟨r, false, _, n, rfl, HF.out _ _ _ _, HL9.out, .inr ⟨rfl, HS.out⟩⟩, Below.four HBl.out (by omega) _ _ _ _⟩
    | succ i =>
      have hi1 : ((i + 1 : Nat) : Int) - 1 = (i : Int) := by omega
      rw [hi1]
      have hyp : 0 < y := by
        rcases Nat.eq_zero_or_pos y with h | h
        · have := hyz h; omega
        · exact h
      obtain ⟨gb, rfl, rfl⟩ := HB1.out hyp
      have hige : (i : Int) ≥ 0 := by omega
      have hi0 : (0 : Int) ≤ (i : Int) := by omega
      have hi32 : (i : Int) / 32 = 0 := by omega
      have him : (i : Int) % 32 = (i : Int) := by omega
      obtain ⟨o0, o1', o2, o3, g0, g1, g2, g3⟩ := hO'.four
      have HM1 := Lib.hid (numTimes_any 0 0 n n (.slice a l c) (.slice a l c) r r false false false false wr hN hN (Nat.le_trans (len_63 htn) (by decide)) (Nat.le_trans (len_63 htn) (by decide)))
      have HSq := Lib.hid (And.intro hsg htn)
      have HO := Lib.hid hO'
      have HK := Lib.hid (fun W (h : Below wr.heap.size wr W) => And.intro (hA.kept h) (And.intro (hB.kept h) (And.intro (hXb'.below h) (hR'.below h))))
      have HBl := Lib.hid hBl
      clear hO' hN hsg htn hXb' hA hB hR' hBl
      go_wp2_with fail
      refine HM1.out.mono ?_
      rintro e w2 ⟨⟨r2, n2, ⟨v2, rfl, hn2⟩, hs2⟩, hb2⟩
      obtain ⟨a2, c2, rfl⟩ := hn2.slice
      obtain ⟨l2, hl2⟩ : ∃ l2, (lims 4294967296 n2).length = l2 := ⟨_, rfl⟩
      rw [hl2] at hn2 ⊢
      have hO2 := HO.out.below hb2
      obtain ⟨hA2, hB2, hX2, hR2⟩ := HK.out w2 hb2
      obtain ⟨p0, p1, p2, p3, q0, q1, q2, q3⟩ := hO2.four
      obtain ⟨W3, hW3⟩ : ∃ W3, (((w2.setCell ⟨w.heap.size + 3, 0, none⟩ (.bool r2)).setCell ⟨w.heap.size + 3, 1, none⟩ (.slice a2 l2 c2)).setCell ⟨w.heap.size + 3, 2, none⟩ (.bool false)).setCell ⟨w.heap.size + 3, 3, none⟩ (.bool false) = W3 := ⟨_, rfl⟩
      have hO3 : Has W3 (w.heap.size + 3) 46 #[.bool r2, .slice a2 l2 c2, .bool false, .bool false] := by rw [← hW3]; exact Has.put4 hO2 _ _ _ _
      have hN3 : NatIs W3 0 (.slice a2 l2 c2) n2 := by rw [← hW3]; exact NatIs.mono (NatIs.apart4 hn2 (NatIs.notBig hn2 hO2) _ _ _ _) (Nat.zero_le _)
      have hA3 : NatIs W3 0 (.slice av lv ca) m := by rw [← hW3]; exact NatIs.apart4 hA2 (NatIs.notBig hA2 hO2) _ _ _ _
      have hB3 : NatIs W3 0 (.slice (some ⟨gb, 0, none⟩) 1 cb) y := by rw [← hW3]; exact NatIs.apart4 hB2 (NatIs.notBig hB2 hO2) _ _ _ _
      have hX3 : Has W3 w.heap.size 46 #[.bool s, .slice av lv ca, .bool l1, .bool o1] := by rw [← hW3]; exact (((hX2.far (by simp) _).far (by simp) _).far (by simp) _).far (by simp) _
      have hR3 : Has W3 (w.heap.size + 1) 46 #[.bool false, .slice none 0 0, .bool false, .bool false] := by rw [← hW3]; exact (((hR2.far (by simp) _).far (by simp) _).far (by simp) _).far (by simp) _
      have hBl3 : Below w.heap.size w W3 := by rw [← hW3]; exact Below.four (HBl.out.trans (hb2.mono (by omega))) (by omega) _ _ _ _
      have hs3 : sgI r2 n2 = X ^ (2 * (y / 2 ^ (i + 1))) := by rw [hs2, HSq.out.1, ← Int.pow_add]; congr 1; omega
      have hn2l : (lims 4294967296 n2).length ≤ 126 := by
        have e : n2 = n * n := by
          have h := congrArg Int.natAbs hs2
          rw [sg_abs, Int.natAbs_mul, sg_abs] at h
          exact h
        rw [e]
        exact len_mul32 (len_63 HSq.out.2) (len_63 HSq.out.2)
      have HW3 := Lib.hid hW3
      have hcy : W3.cell? ⟨gb, 0, none⟩ = some (.int .u32 (y : Int)) := by
        have h := hB3
        unfold NatIs at h
        rw [lims_one hyp (show y < 4294967296 by omega)] at h
        exact World.ownsRow.cellAt h 0 (by simp)
      clear hW3 hn2 hb2 hs2 hO2 hA2 hB2 hX2 hR2 o0 o1' o2 o3 g0 g1 g2 g3
      go_upto_region 6 with fail
      rw [HW3.out]
      clear HW3 p0 p1 p2 p3 q0 q1 q2 q3
      have hop := shr_op32 y i (by omega)
      have hhb := half_bit y i
      obtain ⟨Yi, hYi⟩ : ∃ Yi, y / 2 ^ i = Yi := ⟨_, rfl⟩
      have HYi := Lib.hid hYi
      have hop2 : (y : Int) / 2 ^ i = (Yi : Int) := by rw [← hYi]; simp
      rw [hYi] at hop hhb
      have hYb : Yi ≤ y := by rw [← hYi]; exact Nat.div_le_self _ _
      obtain ⟨bt, hbt⟩ : ∃ bt, Yi % 2 = bt := ⟨_, rfl⟩
      have hand := bits_and Yi 1 (by omega) (by decide)
      rw [Nat.and_one_is_mod, hbt] at hand
      have hand2 : bits BinOp.and IntKind.u32 (Yi : Int) 1 = (bt : Int) := hand
      rw [hbt] at hhb
      have hbt2 : bt = 0 ∨ bt = 1 := by omega
      have HHB := Lib.hid (And.intro hhb hs3)
      clear hYi hbt hand hhb hs3
      have hz3 := hO3.lt
      go_upto_if 28 with fail
      rw [him]
      clear him
      go_cut [28] from 29 to 31 (fun _ wx => ∃ (r : Bool) (n : Nat) (a : Option Addr) (l c : Nat), Has wx (w.heap.size + 3) 46 #[.bool r, .slice a l c, .bool false, .bool false] ∧ NatIs wx 0 (.slice a l c) n ∧ sgI r n = X ^ Yi ∧ (lims 4294967296 n).length ≤ 189 ∧ Has wx w.heap.size 46 #[.bool s, .slice av lv ca, .bool l1, .bool o1] ∧ NatIs wx 0 (.slice av lv ca) m ∧ NatIs wx 0 (.slice (some ⟨gb, 0, none⟩) 1 cb) y ∧ Has wx (w.heap.size + 1) 46 #[.bool false, .slice none 0 0, .bool false, .bool false] ∧ Below w.heap.size w wx)
      case first =>
        rcases hbt2 with hb0 | hb0
        · have HS := Lib.hid (show sgI r2 n2 = X ^ Yi by rw [HHB.out.2]; congr 1; have := HHB.out.1; omega)
          have hbe : ((bt : Int) == 1) = false := by rw [beq_eq_false_iff_ne]; omega
          have hbn : ¬ (bt : Int) = 1 := by omega
          clear hb0
          go_wp2_with fail
          go_meet
          exact ⟨r2, n2, a2, l2, c2, hO3, hN3, HS.out, by omega, hX3, hA3, hB3, hR3, hBl3⟩
        · have hbe : ((bt : Int) == 1) = true := by rw [beq_iff_eq]; omega
          have HB0 := Lib.hid hb0
          clear hb0
          obtain ⟨o0, o1', o2, o3, g0, g1, g2, g3⟩ := hO3.four
          obtain ⟨x0, x1, x2, x3, -⟩ := hX3.four
          have HM2 := Lib.hid (numTimes_any 0 0 n2 m (.slice a2 l2 c2) (.slice av lv ca) r2 s false false l1 o1 W3 hN3 hA3 (by omega) (by have := HML.out.1; omega))
          have HO := Lib.hid hO3
          have HK3 := Lib.hid (fun W (h : Below W3.heap.size W3 W) => And.intro (hA3.kept h) (And.intro (hB3.kept h) (And.intro (hX3.below h) (hR3.below h))))
          have HBl3 := Lib.hid hBl3
          have HL2 := Lib.hid hn2l
          clear hO3 hN3 hX3 hA3 hB3 hR3 hBl3 hn2l hcy
          go_wp2_with fail
          refine HM2.out.mono ?_
          rintro e w4 ⟨⟨r4, n4, ⟨v4, rfl, hn4⟩, hs4⟩, hb4⟩
          obtain ⟨a4, c4, rfl⟩ := hn4.slice
          obtain ⟨l4, hl4⟩ : ∃ l4, (lims 4294967296 n4).length = l4 := ⟨_, rfl⟩
          rw [hl4] at hn4 ⊢
          have hO4 := HO.out.below hb4
          obtain ⟨hA4, hB4, hX4, hR4⟩ := HK3.out w4 hb4
          obtain ⟨p0, p1, p2, p3, q0, q1, q2, q3⟩ := hO4.four
          have HS4 := Lib.hid (show sgI r4 n4 = X ^ Yi by
            rw [hs4, HHB.out.2, HML.out.2.1, ← Int.pow_succ]
            congr 1
            have h1 := HHB.out.1
            have h2 := HB0.out
            omega)
          have HL4 := Lib.hid (show (lims 4294967296 n4).length ≤ 189 by
            have e : n4 = n2 * m := by
              have h := congrArg Int.natAbs hs4
              rw [sg_abs, Int.natAbs_mul, sg_abs, sg_abs] at h
              exact h
            rw [e]
            exact len_mul32 HL2.out HML.out.1)
          have HO5 := Lib.hid (Has.put4 hO4 (.bool r4) (.slice a4 l4 c4) (.bool false) (.bool false))
          have HN5 := Lib.hid (NatIs.mono (NatIs.apart4 hn4 (NatIs.notBig hn4 hO4) (.bool r4) (.slice a4 l4 c4) (.bool false) (.bool false)) (Nat.zero_le _))
          have HA5 := Lib.hid (NatIs.apart4 hA4 (NatIs.notBig hA4 hO4) (.bool r4) (.slice a4 l4 c4) (.bool false) (.bool false))
          have HB5 := Lib.hid (NatIs.apart4 hB4 (NatIs.notBig hB4 hO4) (.bool r4) (.slice a4 l4 c4) (.bool false) (.bool false))
          have HX5 := Lib.hid (big_far4 hX4 (show w.heap.size ≠ w.heap.size + 3 by omega) (.bool r4) (.slice a4 l4 c4) (.bool false) (.bool false))
          have HR5 := Lib.hid (big_far4 hR4 (show w.heap.size + 1 ≠ w.heap.size + 3 by omega) (.bool r4) (.slice a4 l4 c4) (.bool false) (.bool false))
          have HBl5 := Lib.hid (Below.four (HBl3.out.trans (hb4.mono HBl3.out.size)) (show w.heap.size ≤ w.heap.size + 3 by omega) (.bool r4) (.slice a4 l4 c4) (.bool false) (.bool false))
          clear hn4 hb4 hs4 hO4 hA4 hB4 hX4 hR4 hl4
          go_wp2_with fail
          go_meet
          exact ⟨r4, n4, a4, l4, c4, HO5.out, HN5.out, HS4.out, HL4.out, HX5.out, HA5.out, HB5.out, HR5.out, HBl5.out⟩
      case rest =>
      obtain ⟨r4, n4, a4, l4, c4, hO, hN, hs, hl, hX, hA, hB, hR, hBl⟩ := hcut
      clear hO3 hN3 hX3 hA3 hB3 hR3 hBl3 hn2l hcy hop hop2 hand2
      obtain ⟨o0, o1', o2, o3, g0, g1, g2, g3⟩ := hO.four
      have HTl := Lib.hid (tooLong_any 0 n4 _ wc hN (by omega))
      have HO := Lib.hid hO
      have HKc := Lib.hid (fun W (h : Below wc.heap.size wc W) => And.intro (hN.kept h) (And.intro (hA.kept h) (And.intro (hB.kept h) (And.intro (hX.below h) (hR.below h)))))
      have HBc := Lib.hid hBl
      have HS := Lib.hid (And.intro hs hl)
      have hzc := hO.lt
      clear hO hN hX hA hB hR hBl hs hl
      cases htl : tooL n4 with
      | true =>
        rw [htl] at HTl
        have HTT := Lib.hid (show tooL (X ^ y).natAbs = true by
          have hX2 : 2 ≤ X.natAbs := by
            rw [← HML.out.2.1, sg_abs]
            rcases HML.out.2.2 with h | h
            · exact h
            · omega
          refine pow_up hX2 hYb ?_
          rw [← HS.out.1, sg_abs]
          exact htl)
        clear htl
        go_wp2_with fail
        refine HTl.out.mono ?_
        rintro e w5 ⟨rfl, hb5⟩
        have hO5 := HO.out.below hb5
        obtain ⟨hN5, hA5, hB5, hX5, hR5⟩ := HKc.out w5 hb5
        obtain ⟨p0, p1, p2, p3, q0, q1, q2, q3⟩ := hO5.four
        have hR6 : Has (w5.setCell ⟨w.heap.size + 3, 2, none⟩ (.bool true)) (w.heap.size + 1) 46 #[.bool false, .slice none 0 0, .bool false, .bool false] := hR5.far (by simp) _
        have hN6 : NatIs (w5.setCell ⟨w.heap.size + 3, 2, none⟩ (.bool true)) 0 (.slice a4 l4 c4) n4 := hN5.apart (NatIs.notBig hN5 hO5) 2 _
        obtain ⟨r0, r1, r2', r3, f0, f1, f2, f3⟩ := hR5.four
        have HF := Lib.hid (fun (b1 b2 b3 b4 : Value) => NatIs.apart4 hN6 (NatIs.notBig hN6 hR6) b1 b2 b3 b4)
        have HBl := Lib.hid ((HBc.out.trans (hb5.mono HBc.out.size)).setCell (p := ⟨w.heap.size + 3, 2, none⟩) (show w.heap.size ≤ w.heap.size + 3 by omega) (.bool true))
        have HL9 := Lib.hid (Nat.le_trans HS.out.2 (show 189 ≤ 100000 by decide))
        clear hb5 hO5 hN5 hA5 hB5 hX5 hR5 hR6 hN6
        go_wp2_with fail
        exact bodyPost_ret (v := .agg #[.bool r4, .slice a4 l4 c4, .bool true, .bool false]) (by simp [results, Tryd.results75, go_sem, World.cell?_setCell_same', r0, r1, r2', r3]) rfl ⟨⟨r4, true, _, n4, rfl, HF.out _ _ _ _, HL9.out, .inl ⟨rfl, HTT.out⟩⟩, Below.four HBl.out (by omega) _ _ _ _⟩
      | false =>
        rw [htl] at HTl
        have HTT := Lib.hid htl
        clear htl
        go_wp2_with fail
        refine HTl.out.mono ?_
        rintro e w5 ⟨rfl, hb5⟩
        have HO5 := Lib.hid (HO.out.below hb5)
        have HK5 := Lib.hid (HKc.out w5 hb5)
        have HB5 := Lib.hid (HBc.out.trans (hb5.mono HBc.out.size))
        clear hb5
        go_wp2_with fail
        go_roundg i
        case measure => omega
        case rel =>
          obtain ⟨hN5, hA5, hB5, hX5, hR5⟩ := HK5.out
          exact ⟨r4, n4, a4, l4, c4, rfl, by omega, HO5.out, hN5, by rw [HS.out.1, HYi.out], HTT.out, hX5, hA5, hB5, hR5, HB5.out⟩
end Go.Proofs.YtmnibfdenmeepaaDoor
/- Pow of the program, for numbers that are not too long. -/
namespace Go.Proofs.YtmnibfdenmeepaaDoor
open Go.RowKit Go.Shelf Big

def powS (a b : List UInt8) : List UInt8 × Int :=
  match numOf a, numOf b with
  | some x, some y => if x.natAbs = 1 then (if x < 0 ∧ y.natAbs % 2 = 1 then ([45, 49], 0) else ([49], 0)) else if y < 0 then ([], 7) else if y = 0 then ([49], 0) else if x = 0 then ([48], 0) else if 2008 < y then ([], 4) else told (x ^ y.toNat)
  | _, _ => ([], 2)
theorem powS_none {a b : List UInt8} (h : ((numOf a).isSome && (numOf b).isSome) = false) : powS a b = ([], 2) := by
  unfold powS
  cases ha : numOf a with
  | none => rfl
  | some x =>
    cases hb : numOf b with
    | none => rfl
    | some y => rw [ha, hb] at h; cases h
theorem powS_is {a b : List UInt8} {x y : Int} (hx : numOf a = some x) (hy : numOf b = some y) : powS a b = if x.natAbs = 1 then (if x < 0 ∧ y.natAbs % 2 = 1 then ([45, 49], 0) else ([49], 0)) else if y < 0 then ([], 7) else if y = 0 then ([49], 0) else if x = 0 then ([48], 0) else if 2008 < y then ([], 4) else told (x ^ y.toNat) := by
  unfold powS
  rw [hx, hy]
theorem told_long {z : Int} (h : tooL z.natAbs = true) : told z = ([], 4) := by unfold told; rw [if_pos h]
theorem told_1 {x : Int} : ([49], 0) = told ((x : Int) ^ (0 : Int).natAbs) := by
  rw [show (0 : Int).natAbs = 0 from rfl, Int.pow_zero]
  decide +kernel
theorem text_pow {lg r : Bool} {n y : Nat} {X : Int} {e : Ending} (h : TextIs lg r n e) (hd : (lg = true ∧ tooL (X ^ y).natAbs = true) ∨ (lg = false ∧ sgI r n = X ^ y)) : e = retS (told (X ^ y)) := by
  rcases hd with ⟨rfl, h1⟩ | ⟨rfl, h1⟩
  · rw [told_long h1]
    rcases h with ⟨_, rfl⟩ | ⟨h2, _⟩
    · rfl
    · cases h2
  · rw [← h1]
    exact h.told
set_option maxRecDepth 100000 in
set_option maxHeartbeats 4000000 in
theorem Pow_any (a b : ByteArray) (w : World) (ha : a.size ≤ 1000) (hb : b.size ≤ 1000) (hs : ∀ x, numOf a.data.toList = some x → tooL x.natAbs = false) (ht : ∀ y, numOf b.data.toList = some y → tooL y.natAbs = false) :
    Calls Tryd.prog 26 #[.string a, .string b] w fun e w' => e = retS (powS a.data.toList b.data.toList) ∧ Below w.heap.size w w' := by
  have HS := Lib.hid (And.intro hs ht)
  have HP2 := Lib.hid (parseTwo_odd a b w ha hb)
  clear ha hb hs ht
  go_enter Tryd.func26, Tryd.ntmps26
  go_wp2_with fail
  refine HP2.out.mono ?_
  rintro e w1 ⟨⟨s1, a1, n1, c1, g1, o1, t1, s2, a2, n2, c2, g2, o2, t2, rfl, hf1, hf2⟩, hb1⟩
  have hz1 := hb1.size
  have HBE := Lib.hid (fun x y => (hb1.alloc hz1 x).alloc (by simp; omega) y)
  cases htt : (t1 && t2) with
  | false =>
    have HR := Lib.hid (show powS a.data.toList b.data.toList = ([], 2) from powS_none (by
      rcases hf1 with ⟨rfl, z1', hz1', _⟩ | ⟨rfl, hz1'⟩
      · rcases hf2 with ⟨rfl, z2', hz2', _⟩ | ⟨rfl, hz2'⟩
        · cases htt
        · rw [hz2', Bool.and_comm]; rfl
      · rw [hz1']; rfl))
    clear hf1 hf2 hb1 htt
    simp only [Bool.false_eq_true, if_false]
    go_wp2
    go_ret2
    exact ⟨by rw [HR.out]; rfl, HBE.out _ _⟩
  | true =>
    rw [Bool.and_eq_true] at htt
    rcases hf1 with ⟨_, x, hx, hs1, hg1, ho1, hn1⟩ | ⟨h, _⟩
    case inr => rw [h] at htt; cases htt.1
    rcases hf2 with ⟨_, y, hy, hs2, hg2, ho2, hn2⟩ | ⟨h, _⟩
    case inr => rw [h] at htt; cases htt.2
    have htx := HS.out.1 x hx
    have hty := HS.out.2 y hy
    rw [htx] at hg1
    rw [hty] at hg2
    subst hg1 hg2
    have HI := Lib.hid (powS_is hx hy)
    have l1 := NatIs.len0 hn1
    have l2 := NatIs.len0 hn2
    obtain ⟨W0, hW0⟩ : ∃ W0, (w1.alloc (.cells #[.bool s1, .slice a1 n1 c1, .bool false, .bool o1] 46)).alloc (.cells #[.bool s2, .slice a2 n2 c2, .bool false, .bool o2] 46) = W0 := ⟨_, rfl⟩
    have hA0 : NatIs W0 w.heap.size (.slice a1 n1 c1) x.natAbs := by rw [← hW0]; exact (hn1.alloc _).alloc _
    have hB0 : NatIs W0 w.heap.size (.slice a2 n2 c2) y.natAbs := by rw [← hW0]; exact (hn2.alloc _).alloc _
    have hX0 : Has W0 w1.heap.size 46 #[.bool s1, .slice a1 n1 c1, .bool false, .bool o1] := by rw [← hW0]; exact (Has.new w1 _ _).alloc _
    have hY0 : Has W0 (w1.heap.size + 1) 46 #[.bool s2, .slice a2 n2 c2, .bool false, .bool o2] := by rw [← hW0]; exact Has.new' (n := w1.heap.size + 1) (by simp) _ _
    have hz0 : W0.heap.size = w1.heap.size + 2 := by rw [← hW0]; simp
    have hB00 : Below w.heap.size w W0 := by rw [← hW0]; exact HBE.out _ _
    have h1W : NatIs (W0.alloc (.cells #[.int .u32 1] 75)) 0 (.slice (some ⟨W0.heap.size, 0, none⟩) 1 1) 1 := nat_one W0 0 (Nat.zero_le _)
    have hlx := short_of htx
    have HCm := Lib.hid (compare_any w.heap.size 0 x.natAbs 1 (.slice a1 n1 c1) (.slice (some ⟨W0.heap.size, 0, none⟩) 1 1) _ (hA0.alloc _) h1W hlx (by rw [lims_one (by omega) (by omega)]; simp))
    rw [hz0] at HCm
    have HK := Lib.hid (fun W (h : Below W0.heap.size W0 W) => And.intro (hA0.kept h) (And.intro (hB0.kept h) (And.intro (hX0.below h) (hY0.below h))))
    have HB0 := Lib.hid hB00
    have HAL := Lib.hid ((Below.refl W0.heap.size W0).alloc (Nat.le_refl _) (.cells #[.int .u32 1] 75))
    have HF := Lib.hid (And.intro hs1 (And.intro ho2 (And.intro hs2 (And.intro htx hty))))
    have HW := Lib.hid hW0
    obtain ⟨x0, x1, x2, x3, -⟩ := hX0.four
    clear hb1 htt hx hy hs1 ho1 hs2 ho2 hn1 hn2 hW0 hA0 hB0 hX0 hY0 hB00 h1W hlx htx hty
    simp only [if_true]
    go_upto_region 4 with fail
    rw [HW.out]
    clear HW
    obtain ⟨C, hC⟩ : ∃ C, cmp x.natAbs 1 = C := ⟨_, rfl⟩
    have HCC := Lib.hid hC
    rw [hC] at HCm
    clear hC
    have hC1 : C = 0 ↔ x.natAbs = 1 := by
      rw [← HCC.out]
      unfold cmp
      split
      · constructor
        · intro h; cases h
        · intro h; omega
      · split
        · constructor
          · intro h; cases h
          · intro h; omega
        · constructor
          · intro _; omega
          · intro _; rfl
    go_wp2_with fail
    refine HCm.out.mono ?_
    rintro e w5 ⟨rfl, hb5⟩
    have hb6 := Below.behind HAL.out hb5
    obtain ⟨hA5, hB5, hX5, hY5⟩ := HK.out w5 hb6
    have HB5 := Lib.hid (HB0.out.trans (hb6.mono (show w.heap.size ≤ W0.heap.size by omega)))
    obtain ⟨p0, p1, p2, p3, -⟩ := hX5.four
    obtain ⟨q0, q1, q2, q3, -⟩ := hY5.four
    clear hb5 hb6 x0 x1 x2 x3
    by_cases hm : x.natAbs = 1
    · have hC0 : C = 0 := hC1.2 hm
      subst hC0
      have hgen : powS a.data.toList b.data.toList = if x < 0 ∧ y.natAbs % 2 = 1 then ([45, 49], 0) else ([49], 0) := by rw [HI.out, if_pos hm]
      have HGn := Lib.hid hgen
      clear hgen hA5 hB5 hX5 hY5
      cases s1 with
      | true =>
        have hx0 : x < 0 := of_decide_eq_true HF.out.1.symm
        cases o2 with
        | true =>
          have HR := Lib.hid (show powS a.data.toList b.data.toList = ([45, 49], 0) by rw [HGn.out, if_pos ⟨hx0, of_decide_eq_true HF.out.2.1.symm⟩])
          clear hx0 hm hC1
          go_wp2
          go_ret2
          exact ⟨by rw [HR.out]; rfl, HB5.out⟩
        | false =>
          have HR := Lib.hid (show powS a.data.toList b.data.toList = ([49], 0) by rw [HGn.out, if_neg (fun h => absurd h.2 (of_decide_eq_false HF.out.2.1.symm))])
          clear hx0 hm hC1
          go_wp2
          go_ret2
          exact ⟨by rw [HR.out]; rfl, HB5.out⟩
      | false =>
        have HR := Lib.hid (show powS a.data.toList b.data.toList = ([49], 0) by rw [HGn.out, if_neg (fun h => absurd h.1 (of_decide_eq_false HF.out.1.symm))])
        clear hm hC1
        go_wp2
        go_ret2
        exact ⟨by rw [HR.out]; rfl, HB5.out⟩
    · have hC0 : ¬ C = 0 := fun h => hm (hC1.1 h)
      have hCb : (C == 0) = false := by rw [beq_eq_false_iff_ne]; exact hC0
      have HI2 := Lib.hid (HI.out.trans (if_neg hm))
      cases s2 with
      | true =>
        have hy0 : y < 0 := of_decide_eq_true HF.out.2.2.1.symm
        have HR := Lib.hid (HI2.out.trans (if_pos hy0))
        clear hA5 hB5 hX5 hY5 hy0 hC1 hm
        go_wp2
        go_ret2
        exact ⟨by rw [HR.out]; rfl, HB5.out⟩
      | false =>
        have hy0 : ¬ y < 0 := of_decide_eq_false HF.out.2.2.1.symm
        have HI3 := Lib.hid (HI2.out.trans (if_neg hy0))
        have HM := Lib.hid hm
        clear hC1 hm
        rcases l2 with ⟨hn20, hy1⟩ | ⟨hn20, hy1⟩
        · have hyz : y = 0 := by omega
          have hpw : powS a.data.toList b.data.toList = told (x ^ y.natAbs) := by rw [HI3.out, if_pos hyz, hyz]; exact told_1
          have HPW := Lib.hid hpw
          have hI0 : ((n2 : Int) == 0) = true := by rw [beq_iff_eq]; omega
          have hI1 : ¬ (n2 : Int) > 0 := by omega
          have hI2 : ¬ (n2 : Int) > 1 := by omega
          have hI3 : ((n2 : Int) == 1) = false := by rw [beq_eq_false_iff_ne]; omega
          have hI4 : ¬ (n2 : Int) = 1 := by omega
          clear hpw hn20
          rcases l1 with ⟨hn10, hx1⟩ | ⟨hn10, hx1⟩
          · have hJ0 : ((n1 : Int) == 0) = true := by rw [beq_iff_eq]; omega
            have hJ1 : (n1 : Int) = 0 := by omega
            clear hn10
            have HPw := Lib.hid (power_any w.heap.size w.heap.size x.natAbs y.natAbs (.slice a1 n1 c1) (.slice a2 n2 c2) s1 false o1 w5 hA5 hB5 HF.out.2.2.2.1 (.inr hy1) (by omega))
            rw [show sgI s1 x.natAbs = x by rw [HF.out.1]; exact sg_z x] at HPw
            have HRR := Lib.hid (show powS a.data.toList b.data.toList = told (x ^ y.natAbs) from HPW.out)
            clear hA5 hB5 hX5 hY5
            go_wp2_with fail
            refine HPw.out.mono ?_
            rintro e w6 ⟨⟨r, lg, v, n, rfl, hn, hl, hd⟩, hb6⟩
            have HT := Lib.hid ((text_any 0 n v r lg false w6 hn hl).mono fun e w' h => And.intro (text_pow h.1 hd) h.2)
            rw [← HRR.out] at HT
            obtain ⟨p, hp⟩ : ∃ p, powS a.data.toList b.data.toList = p := ⟨_, rfl⟩
            rw [hp] at HT
            have HP := Lib.hid hp
            unfold retS at HT
            obtain ⟨a9, c9, rfl⟩ := hn.slice
            have HB6 := Lib.hid (Below.behind HB5.out hb6)
            clear hp hn hd hb6
            go_wp2_with fail
            refine HT.out.mono ?_
            rintro e w7 ⟨rfl, hb7⟩
            have HB7 := Lib.hid (Below.behind HB6.out hb7)
            clear hb7
            go_wp2
            go_ret2
            exact ⟨by rw [HP.out]; rfl, HB7.out⟩
          · have hJ0 : ((n1 : Int) == 0) = false := by rw [beq_eq_false_iff_ne]; omega
            have hJ1 : ¬ (n1 : Int) = 0 := by omega
            clear hn10
            have HPw := Lib.hid (power_any w.heap.size w.heap.size x.natAbs y.natAbs (.slice a1 n1 c1) (.slice a2 n2 c2) s1 false o1 w5 hA5 hB5 HF.out.2.2.2.1 (.inr hy1) (by omega))
            rw [show sgI s1 x.natAbs = x by rw [HF.out.1]; exact sg_z x] at HPw
            have HRR := Lib.hid (show powS a.data.toList b.data.toList = told (x ^ y.natAbs) from HPW.out)
            clear hA5 hB5 hX5 hY5
            go_wp2_with fail
            refine HPw.out.mono ?_
            rintro e w6 ⟨⟨r, lg, v, n, rfl, hn, hl, hd⟩, hb6⟩
            have HT := Lib.hid ((text_any 0 n v r lg false w6 hn hl).mono fun e w' h => And.intro (text_pow h.1 hd) h.2)
            rw [← HRR.out] at HT
            obtain ⟨p, hp⟩ : ∃ p, powS a.data.toList b.data.toList = p := ⟨_, rfl⟩
            rw [hp] at HT
            have HP := Lib.hid hp
            unfold retS at HT
            obtain ⟨a9, c9, rfl⟩ := hn.slice
            have HB6 := Lib.hid (Below.behind HB5.out hb6)
            clear hp hn hd hb6
            go_wp2_with fail
            refine HT.out.mono ?_
            rintro e w7 ⟨rfl, hb7⟩
            have HB7 := Lib.hid (Below.behind HB6.out hb7)
            clear hb7
            go_wp2
            go_ret2
            exact ⟨by rw [HP.out]; rfl, HB7.out⟩
        · have hyn : ¬ y = 0 := by omega
          have HI4 := Lib.hid (HI3.out.trans (if_neg hyn))
          have hI1 : (n2 : Int) > 0 := by omega
          rcases l1 with ⟨hn10, hx1⟩ | ⟨hn10, hx1⟩
          · have hJ0 : ((n1 : Int) == 0) = true := by rw [beq_iff_eq]; omega
            have hJ1 : (n1 : Int) = 0 := by omega
            have HR := Lib.hid (HI4.out.trans (if_pos (show x = 0 by omega)))
            clear hA5 hB5 hX5 hY5 hn10
            go_wp2
            go_ret2
            exact ⟨by rw [HR.out]; rfl, HB5.out⟩
          · have hJ0 : ((n1 : Int) == 0) = false := by rw [beq_eq_false_iff_ne]; omega
            have hJ1 : ¬ (n1 : Int) = 0 := by omega
            have HI5 := Lib.hid (HI4.out.trans (if_neg (show ¬ x = 0 by omega)))
            clear hn10
            by_cases hbig : 1 < n2
            · have hb1' : (n2 : Int) > 1 := by omega
              have hy2 : 2008 < y := by
                refine Int.not_le.1 (fun h => ?_)
                obtain ⟨_, _, hav⟩ := hB5.slice
                injection hav with _ hl _
                have := (lims_len_le w32_ge y.natAbs 1).2 (by omega)
                omega
              have HR := Lib.hid (HI5.out.trans (if_pos hy2))
              clear hA5 hB5 hX5 hY5 hy2
              go_wp2
              go_ret2
              exact ⟨by rw [HR.out]; rfl, HB5.out⟩
            · obtain rfl : n2 = 1 := by omega
              have hyw : y.natAbs < 4294967296 := by
                obtain ⟨_, _, hav⟩ := hB5.slice
                injection hav with _ hl _
                have := (lims_len_le w32_ge y.natAbs 1).1 (by omega)
                omega
              obtain ⟨gb, hgb⟩ : ∃ gb, a2 = some ⟨gb, 0, none⟩ := by
                rcases hB5.2 with ⟨e2, _⟩ | ⟨g, cap, cur, e2, _⟩
                · injection e2 with _ e3 _; omega
                · injection e2 with e3; exact ⟨g, e3⟩
              subst hgb
              have hcy : w5.cell? ⟨gb, 0, none⟩ = some (.int .u32 (y.natAbs : Int)) := by
                have h := hB5
                unfold NatIs at h
                rw [lims_one hy1 hyw] at h
                exact World.ownsRow.cellAt h 0 (by simp)
              by_cases h8 : 2008 < y.natAbs
              · have h8I : (y.natAbs : Int) > 2008 := by omega
                have HR := Lib.hid (HI5.out.trans (if_pos (show 2008 < y by omega)))
                obtain ⟨yn, hyn2⟩ : ∃ yn, y.natAbs = yn := ⟨_, rfl⟩
                rw [hyn2] at hcy h8I
                clear hA5 hB5 hX5 hY5 hyn2 h8
                go_wp2
                go_ret2
                exact ⟨by rw [HR.out]; rfl, HB5.out⟩
              · have h8I : ¬ (y.natAbs : Int) > 2008 := by omega
                have HPW := Lib.hid (show powS a.data.toList b.data.toList = told (x ^ y.natAbs) by rw [HI5.out, if_neg (show ¬ 2008 < y by omega), show y.toNat = y.natAbs by omega])
                have hm2 : 2 ≤ x.natAbs := by have := HM.out; omega
                have hy8 : y.natAbs ≤ 2008 := by omega
                have HMY := Lib.hid (And.intro hm2 hy8)
                obtain ⟨yn, hyn2⟩ : ∃ yn, y.natAbs = yn := ⟨_, rfl⟩
                rw [hyn2] at hcy h8I HPW HMY hB5
                clear hyn2 h8 hm2 hy8
                have HPw := Lib.hid (power_any w.heap.size w.heap.size x.natAbs yn (.slice a1 n1 c1) (.slice (some ⟨gb, 0, none⟩) 1 c2) s1 false o1 w5 hA5 hB5 HF.out.2.2.2.1 (.inl HMY.out.1) HMY.out.2)
                rw [show sgI s1 x.natAbs = x by rw [HF.out.1]; exact sg_z x] at HPw
                have HRR := Lib.hid (show powS a.data.toList b.data.toList = told (x ^ yn) from HPW.out)
                clear hA5 hB5 hX5 hY5
                go_wp2_with fail
                refine HPw.out.mono ?_
                rintro e w6 ⟨⟨r, lg, v, n, rfl, hn, hl, hd⟩, hb6⟩
                have HT := Lib.hid ((text_any 0 n v r lg false w6 hn hl).mono fun e w' h => And.intro (text_pow h.1 hd) h.2)
                rw [← HRR.out] at HT
                obtain ⟨p, hp⟩ : ∃ p, powS a.data.toList b.data.toList = p := ⟨_, rfl⟩
                rw [hp] at HT
                have HP := Lib.hid hp
                unfold retS at HT
                obtain ⟨a9, c9, rfl⟩ := hn.slice
                have HB6 := Lib.hid (Below.behind HB5.out hb6)
                clear hp hn hd hb6
                go_wp2_with fail
                refine HT.out.mono ?_
                rintro e w7 ⟨rfl, hb7⟩
                have HB7 := Lib.hid (Below.behind HB6.out hb7)
                clear hb7
                go_wp2
                go_ret2
                exact ⟨by rw [HP.out]; rfl, HB7.out⟩
end Go.Proofs.YtmnibfdenmeepaaDoor
/- Pow of the reference, for numbers that are not too long. -/
namespace Go.Proofs.YtmnibfdenmeepaaDoor
open Go.RowKit Go.Shelf Big

theorem dec_lit1 (w : World) (B : Nat) (hB : B ≤ w.heap.size) : DecIs (w.alloc (.cells #[.int .i64 1] 3)) B (.slice (some ⟨w.heap.size, 0, none⟩) 1 1) 1 := by
  unfold DecIs
  rw [show lims 10 1 = [1] by decide +kernel]
  exact own_lit w B (.int .i64 1) 3 hB
theorem ord_one {n : Nat} : ordI n 1 = 0 ↔ n = 1 := by
  unfold ordI
  split
  · constructor
    · intro h; cases h
    · intro h; omega
  · split
    · constructor
      · intro h; cases h
      · intro h; omega
    · constructor
      · intro _; omega
      · intro _; rfl
theorem DecIs.nilOr {w : World} {B l c n : Nat} {a : Option Addr} (h : DecIs w B (.slice a l c) n) : (l = 0 ∧ n = 0) ∨ (0 < l ∧ 0 < n ∧ ∃ g, a = some ⟨g, 0, none⟩ ∧ w.cell? ⟨g, 0, none⟩ = some (.int .i64 ((n % 10 : Nat) : Int))) := by
  obtain ⟨_, _, hav⟩ := h.slice
  injection hav with _ hl _
  subst hl
  have hln := dec_len (n := n)
  rcases Nat.eq_zero_or_pos (lims 10 n).length with h0 | h0
  · exact .inl ⟨h0, by omega⟩
  · refine .inr ⟨h0, by omega, ?_⟩
    have hrow := h
    unfold DecIs at hrow
    rcases hrow.2 with ⟨e, hz⟩ | ⟨g, cap, cur, e, hg1, hg2, -⟩
    · omega
    · injection e with e1
      refine ⟨g, e1, ?_⟩
      subst e1
      have hi : 0 < (lims 10 n).length := by omega
      have h1 := World.ownsRow.cellAt hrow 0 (by omega)
      rw [h1, List.getElem?_map, List.getElem?_eq_getElem hi]
      have h2 := lims_getD ten_ge n 0
      rw [List.getD_eq_getElem?_getD, List.getElem?_eq_getElem hi, Nat.pow_zero, Nat.div_one] at h2
      rw [← h2]
      rfl
theorem one_txt {x : Int} {n : Nat} {s o : Bool} (hs : decide (x < 0) = s) (ho : decide (n % 2 = 1) = o) : (if x < 0 ∧ n % 2 = 1 then (([45, 49], 0) : List UInt8 × Int) else ([49], 0)) = (txtS (s && o) 1, 0) := by
  have h1 : txtS true 1 = [45, 49] := by decide +kernel
  have h2 : txtS false 1 = [49] := by decide +kernel
  subst hs ho
  by_cases h : x < 0 ∧ n % 2 = 1
  · rw [if_pos h, decide_eq_true h.1, decide_eq_true h.2, Bool.and_self, h1]
  · rw [if_neg h]
    have : (decide (x < 0) && decide (n % 2 = 1)) = false := by
      rw [← Bool.decide_and]
      exact decide_eq_false h
    rw [this, h2]
theorem pow_2008 {X : Int} {y : Nat} (hX : 2 ≤ X.natAbs) (hy : k2008 ≤ y) : tooL (X ^ y).natAbs = true := by
  cases h : tooL (X ^ y).natAbs with
  | true => rfl
  | false =>
    have h1 := lims_of_tool h
    rw [sg_pow] at h1
    exact absurd h1 (Nat.not_lt.2 (Nat.le_trans (Nat.pow_le_pow_left hX _) (Nat.pow_le_pow_right (by omega) hy)))
theorem ord_gt {m k : Nat} : ordI m k > 0 ↔ k < m := by
  unfold ordI
  split
  · constructor
    · intro h; omega
    · intro h; omega
  · split
    · constructor
      · intro _; omega
      · intro _; omega
    · constructor
      · intro h; omega
      · intro h; omega
theorem ordZ_lt {x y : Int} : ordZ x y < 0 ↔ x < y := by
  unfold ordZ
  split
  · constructor
    · intro _; omega
    · intro _; omega
  · split
    · constructor
      · intro h; omega
      · intro h; omega
    · constructor
      · intro h; omega
      · intro h; omega
theorem num_at_kept {w w' : World} {B g : Nat} {Z : Int} (h : NumAt w B g Z) (hb : Below w.heap.size w w') : NumAt w' B g Z := by
  obtain ⟨a, l, c, h1, h2⟩ := h
  exact ⟨a, l, c, h1.below hb, h2.kept hb⟩
theorem rPlus_one (B1 B2 j : Nat) (va vb : Value) (w : World) (ha : DecIs w B1 va j) (hb : DecIs w B2 vb 1) (hj : j ≤ 10000) :
    Calls Tryd.prog 61 #[.agg #[.bool false, va], .agg #[.bool false, vb]] w fun e w' => (∃ v, e = .returned (.agg #[.bool false, v]) ∧ DecIs w' w.heap.size v (j + 1)) ∧ Below w.heap.size w w' :=
  (rPlus_any B1 B2 j 1 va vb false false w ha hb (Nat.le_trans ((lims_len_le ten_ge j 5).2 (by omega)) (by decide)) (Nat.le_trans ((lims_len_le ten_ge 1 1).2 (by decide)) (by decide))).mono fun e w' ⟨⟨v, he, hd⟩, hB⟩ => by
    have h1 : sgI false j + sgI false 1 = ((j + 1 : Nat) : Int) := by unfold sgI; simp
    rw [h1] at he hd
    exact ⟨⟨v, by rw [he, show decide (((j + 1 : Nat) : Int) < 0) = false from decide_eq_false (by omega)], hd⟩, hB⟩
def ppS : Nat → Nat := fun i => i + 79
def ppPr (B j : Nat) (aj : Option Addr) (nj cj : Nat) : Nat → Value → World → Prop
  | 0, v, _ => v = .agg #[.bool false, .slice aj nj cj]
  | 1, v, w => ∃ a l c, v = .agg #[.bool false, .slice a l c] ∧ DecIs w B (.slice a l c) 1
  | _, v, w => ∃ a l c, v = .agg #[.bool false, .slice a l c] ∧ DecIs w B (.slice a l c) (j + 1)
theorem ppPr_stays (B j : Nat) (aj : Option Addr) (nj cj : Nat) : Stays 3 (ppPr B j aj nj cj) := by
  intro i v w w' hi hb h
  match i, h with
  | 0, h => exact h
  | 1, h => obtain ⟨a, l, c, e, hd⟩ := h; exact ⟨a, l, c, e, hd.kept hb⟩
  | 2, h => obtain ⟨a, l, c, e, hd⟩ := h; exact ⟨a, l, c, e, hd.kept hb⟩
  | n + 3, _ => omega
def pwS : Nat → Nat := fun i => i + 68
def pwPr (B g : Nat) (av : Option Addr) (n c : Nat) (O : Int) : Nat → Value → World → Prop
  | 0, v, _ => v = .pointer (some ⟨g, 1, none⟩)
  | 1, v, _ => v = .slice av n c
  | 2, v, w => ∃ a l c, v = .slice a l c ∧ DecIs w B (.slice a l c) 10000
  | 3, v, _ => v = .int .i64 O
  | _, v, _ => v = .bool (decide (O > 0))
theorem pwPr_stays (B g : Nat) (av : Option Addr) (n c : Nat) (O : Int) : Stays 5 (pwPr B g av n c O) := by
  intro i v w w' hi hb h
  match i, h with
  | 0, h => exact h
  | 1, h => exact h
  | 2, h => obtain ⟨a, l, c, e, hd⟩ := h; exact ⟨a, l, c, e, hd.kept hb⟩
  | 3, h => exact h
  | 4, h => exact h
  | n + 5, _ => omega
set_option maxRecDepth 100000 in
set_option maxHeartbeats 4000000 in
theorem rPow_any (a b : ByteArray) (w : World) (ha : a.size ≤ k900) (hb : b.size ≤ k900) (hs : ∀ x, numOf a.data.toList = some x → tooL x.natAbs = false) (ht : ∀ y, numOf b.data.toList = some y → tooL y.natAbs = false) :
    Calls Tryd.prog 27 #[.string a, .string b] w fun e w' => e = retS (powS a.data.toList b.data.toList) ∧ Below w.heap.size w w' := by
  have HS := Lib.hid (And.intro hs ht)
  clear hs ht
  have HB2 := Lib.hid (rBoth_any a b w (Nat.le_trans ha (by decide)) (Nat.le_trans hb (by decide)))
  have HNZ1 := Lib.hid (fun B W s v z (h : NP B a.data.toList W s v) (hz : numOf a.data.toList = some z) => h.nz hz (by rw [← Lib.size_eq]; exact ha))
  have HNZ2 := Lib.hid (fun B W s v z (h : NP B b.data.toList W s v) (hz : numOf b.data.toList = some z) => h.nz hz (by rw [← Lib.size_eq]; exact hb))
  clear ha hb
  go_enter Tryd.func27, Tryd.ntmps27
  go_wp2_with fail
  refine HB2.out.mono ?_
  rintro e w1 ⟨⟨s1, a1, n1, c1, s2, a2, n2, c2, rfl, hnp⟩, hb1⟩
  cases hok : (numOf a.data.toList).isSome && (numOf b.data.toList).isSome with
  | false =>
    have HR := Lib.hid (powS_none hok)
    have HB1 := Lib.hid (fun o o' => (hb1.alloc hb1.size o).alloc (by simp; have := hb1.size; omega) o')
    clear hnp hok hb1
    simp only [Bool.false_eq_true, if_false]
    go_wp2
    go_ret2
    exact ⟨by rw [HR.out]; rfl, HB1.out _ _⟩
  | true =>
    obtain ⟨x, y, hx, hy⟩ := op_some hok
    obtain ⟨hp1, hp2⟩ := hnp hok
    obtain ⟨⟨rfl, hd1⟩, hl1⟩ := HNZ1.out _ _ _ _ _ hp1 hx
    obtain ⟨⟨rfl, hd2⟩, hl2⟩ := HNZ2.out _ _ _ _ _ hp2 hy
    have HOP := Lib.hid (powS_is hx hy)
    have htx := HS.out.1 x hx
    have hty := HS.out.2 y hy
    clear hnp hok hp1 hp2 hx hy
    simp only [if_true]
    have hz1 := hb1.size
    obtain ⟨W0, hW0⟩ : ∃ W0, (w1.alloc (.cells #[.bool (decide (x < 0)), .slice a1 n1 c1] 51)).alloc (.cells #[.bool (decide (y < 0)), .slice a2 n2 c2] 51) = W0 := ⟨_, rfl⟩
    have hD1 : DecIs W0 w.heap.size (.slice a1 n1 c1) x.natAbs := by rw [← hW0]; exact (hd1.alloc _).alloc _
    have hD2 : DecIs W0 w.heap.size (.slice a2 n2 c2) y.natAbs := by rw [← hW0]; exact (hd2.alloc _).alloc _
    have hX : Has W0 w1.heap.size 51 #[.bool (decide (x < 0)), .slice a1 n1 c1] := by rw [← hW0]; exact (Has.new w1 _ _).alloc _
    have hY : Has W0 (w1.heap.size + 1) 51 #[.bool (decide (y < 0)), .slice a2 n2 c2] := by rw [← hW0]; exact Has.new' (n := w1.heap.size + 1) (by simp) _ _
    have hz0 : W0.heap.size = w1.heap.size + 2 := by rw [← hW0]; simp
    have hBB : Below w.heap.size w W0 := by rw [← hW0]; exact (hb1.alloc hz1 _).alloc (by simp; omega) _
    have HDD := Lib.hid (And.intro hD1 hD2)
    have HLL := Lib.hid (And.intro hl1 hl2)
    obtain ⟨s1, hs1⟩ : ∃ s1, decide (x < 0) = s1 := ⟨_, rfl⟩
    obtain ⟨s2, hs2⟩ : ∃ s2, decide (y < 0) = s2 := ⟨_, rfl⟩
    have HF := Lib.hid (And.intro hs1 (And.intro hs2 (And.intro htx hty)))
    rw [hs1] at hX
    rw [hs2] at hY
    simp only [hs1, hs2] at hW0 ⊢
    have HK := Lib.hid (fun W (h : Below W0.heap.size W0 W) => And.intro (hD1.kept h) (And.intro (hD2.kept h) (And.intro (hX.below h) (hY.below h))))
    have HBB := Lib.hid hBB
    have hOr := order_any w.heap.size 0 x.natAbs 1 (.slice a1 n1 c1) _ _ (hD1.alloc _) (dec_lit1 W0 0 (Nat.zero_le _)) (Nat.le_trans hl1 (by decide)) (Nat.le_trans ((lims_len_le ten_ge 1 1).2 (by decide)) (by decide))
    rw [hz0] at hOr
    obtain ⟨C, hC⟩ : ∃ C, ordI x.natAbs 1 = C := ⟨_, rfl⟩
    rw [hC] at hOr
    have hC1 : C = 0 ↔ x.natAbs = 1 := by rw [← hC]; exact ord_one
    have hA1 : Below W0.heap.size W0 (W0.alloc (.cells #[.int .i64 1] 3)) := (Below.refl _ _).alloc (Nat.le_refl _) _
    obtain ⟨W1, hW1⟩ : ∃ W1, W0.alloc (.cells #[.int .i64 1] 3) = W1 := ⟨_, rfl⟩
    have hz1' : W1.heap.size = w1.heap.size + 3 := by rw [← hW1]; simp; omega
    have HW1 := Lib.hid hW1
    rw [hW1] at hA1 hOr
    have HOr := Lib.hid hOr
    have hA0 : Below W0.heap.size W0 (W1.alloc (.cells #[.bool s1, .slice a1 n1 c1, .bool s2, .slice a2 n2 c2] 51)) := hA1.alloc (by omega) _
    have hSh := rShort_any W1.heap.size 2 2 (tl2 x y) _ (others_two (Has.new W1 51 #[.bool s1, .slice a1 n1 c1, .bool s2, .slice a2 n2 c2]) (hD1.kept hA0) (hD2.kept hA0)) (by omega)
    rw [tl2_any, htx, hty, hz1'] at hSh
    have HSh := Lib.hid hSh
    have HA0 := Lib.hid hA0
    have HA1 := Lib.hid hA1
    obtain ⟨x0, x1, -⟩ := cells_two hX
    obtain ⟨y0, y1, -⟩ := cells_two hY
    clear hd1 hd2 hb1 hD1 hD2 hX hY hBB hs1 hs2 htx hty hl1 hl2 hC hA0 hA1 hSh hOr
    go_wp2_with fail
    refine HOr.out.mono ?_
    rintro e w5 ⟨rfl, he⟩
    subst he
    obtain ⟨hD1, hD2, hX, hY⟩ := HK.out _ HA1.out
    obtain ⟨x2, x3, -⟩ := cells_two hX
    obtain ⟨y2, y3, -⟩ := cells_two hY
    clear x0 x1 y0 y1 hW0 hW1
    by_cases hm : x.natAbs = 1
    · have hC0 : C = 0 := hC1.2 hm
      have HM := Lib.hid hm
      clear hC1 hm
      subst hC0
      cases s2 with
      | true =>
        go_upto_region 7 with fail
        go_wp2_with fail
        refine HSh.out.mono ?_
        rintro e w6 ⟨rfl, hb6⟩
        have hb7 := Below.behind HA0.out hb6
        have HB7 := Lib.hid (HBB.out.trans (hb7.mono (show w.heap.size ≤ W0.heap.size by omega)))
        obtain ⟨hD1, hD2, hX, hY⟩ := HK.out w6 hb7
        obtain ⟨x0, x1, -⟩ := cells_two hX
        obtain ⟨y0, y1, -⟩ := cells_two hY
        have hz6 := hb7.size
        clear x2 x3 y2 y3 hb6 hb7
        rcases hD2.nilOr with ⟨hn20, hy1⟩ | ⟨hn20, hy1, gy, rfl, hcy⟩
        · have hI0 : ((n2 : Int) == 0) = true := by rw [beq_iff_eq]; omega
          have hI1 : ¬ (n2 : Int) > 0 := by omega
          have hI2 : (n2 : Int) = 0 := by omega
          have HO := Lib.hid (show decide (y.natAbs % 2 = 1) = false by rw [hy1]; rfl)
          cases s1 with
          | true =>
            have HR := Lib.hid (HOP.out.trans ((if_pos HM.out).trans (one_txt HF.out.1 HO.out)))
            simp only [Bool.and_false] at HR
            have HNm := Lib.hid (num_any 0 1 _ false _ (dec_lit1 w6 0 (Nat.zero_le _)))
            rw [show (false && decide (0 < 1)) = false by simp] at HNm
            have HBn := Lib.hid ((Below.refl w6.heap.size w6).alloc (Nat.le_refl _) (.cells #[.int .i64 1] 3))
            clear hD1 hD2 hX hY
            go_wp2_with fail
            refine HNm.out.mono ?_
            rintro e w7 ⟨rfl, hb8⟩
            have HTx := Lib.hid (rText_any 0 1 false _ w7 ((dec_lit1 w6 0 (Nat.zero_le _)).kept hb8) (Nat.le_trans ((lims_len_le ten_ge 1 1).2 (by decide)) (by decide)))
            have HB9 := Lib.hid (HB7.out.trans ((Below.behind HBn.out hb8).mono (by omega)))
            clear hb8
            obtain ⟨p, hp⟩ : ∃ p, (⟨(txtS false 1).toArray⟩ : ByteArray) = p := ⟨_, rfl⟩
            have HP := Lib.hid hp
            rw [hp] at HTx
            clear hp
            go_wp2_with fail
            refine HTx.out.mono ?_
            rintro e w8 ⟨rfl, hb10⟩
            have HB10 := Lib.hid (Below.behind HB9.out hb10)
            clear hb10
            go_wp2
            go_ret2
            exact ⟨by rw [HR.out, ← HP.out]; rfl, HB10.out⟩
          | false =>
            have HR := Lib.hid (HOP.out.trans ((if_pos HM.out).trans (one_txt HF.out.1 HO.out)))
            simp only [Bool.and_false] at HR
            have HNm := Lib.hid (num_any 0 1 _ false _ (dec_lit1 w6 0 (Nat.zero_le _)))
            rw [show (false && decide (0 < 1)) = false by simp] at HNm
            have HBn := Lib.hid ((Below.refl w6.heap.size w6).alloc (Nat.le_refl _) (.cells #[.int .i64 1] 3))
            clear hD1 hD2 hX hY
            go_wp2_with fail
            refine HNm.out.mono ?_
            rintro e w7 ⟨rfl, hb8⟩
            have HTx := Lib.hid (rText_any 0 1 false _ w7 ((dec_lit1 w6 0 (Nat.zero_le _)).kept hb8) (Nat.le_trans ((lims_len_le ten_ge 1 1).2 (by decide)) (by decide)))
            have HB9 := Lib.hid (HB7.out.trans ((Below.behind HBn.out hb8).mono (by omega)))
            clear hb8
            obtain ⟨p, hp⟩ : ∃ p, (⟨(txtS false 1).toArray⟩ : ByteArray) = p := ⟨_, rfl⟩
            have HP := Lib.hid hp
            rw [hp] at HTx
            clear hp
            go_wp2_with fail
            refine HTx.out.mono ?_
            rintro e w8 ⟨rfl, hb10⟩
            have HB10 := Lib.hid (Below.behind HB9.out hb10)
            clear hb10
            go_wp2
            go_ret2
            exact ⟨by rw [HR.out, ← HP.out]; rfl, HB10.out⟩
        · have hI0 : ((n2 : Int) == 0) = false := by rw [beq_eq_false_iff_ne]; omega
          have hI1 : (n2 : Int) > 0 := by omega
          have hI2 : ¬ (n2 : Int) = 0 := by omega
          obtain ⟨d, hd⟩ : ∃ d, y.natAbs % 10 = d := ⟨_, rfl⟩
          rw [hd] at hcy
          obtain ⟨o, ho⟩ : ∃ o, decide (y.natAbs % 2 = 1) = o := ⟨_, rfl⟩
          have hO : ((d : Int) % 2 == 1) = o := by
            rw [← ho, Bool.eq_iff_iff, beq_iff_eq, decide_eq_true_iff]
            omega
          have HO := Lib.hid ho
          clear hd ho
          cases s1 with
          | true =>
            have HR := Lib.hid (HOP.out.trans ((if_pos HM.out).trans (one_txt HF.out.1 HO.out)))
            simp only [Bool.true_and] at HR
            have HNm := Lib.hid (num_any 0 1 _ o _ (dec_lit1 w6 0 (Nat.zero_le _)))
            rw [show (o && decide (0 < 1)) = o by simp] at HNm
            have HBn := Lib.hid ((Below.refl w6.heap.size w6).alloc (Nat.le_refl _) (.cells #[.int .i64 1] 3))
            clear hD1 hD2 hX hY
            go_wp2_with fail
            refine HNm.out.mono ?_
            rintro e w7 ⟨rfl, hb8⟩
            have HTx := Lib.hid (rText_any 0 1 o _ w7 ((dec_lit1 w6 0 (Nat.zero_le _)).kept hb8) (Nat.le_trans ((lims_len_le ten_ge 1 1).2 (by decide)) (by decide)))
            have HB9 := Lib.hid (HB7.out.trans ((Below.behind HBn.out hb8).mono (by omega)))
            clear hb8
            obtain ⟨p, hp⟩ : ∃ p, (⟨(txtS o 1).toArray⟩ : ByteArray) = p := ⟨_, rfl⟩
            have HP := Lib.hid hp
            rw [hp] at HTx
            clear hp
            go_wp2_with fail
            refine HTx.out.mono ?_
            rintro e w8 ⟨rfl, hb10⟩
            have HB10 := Lib.hid (Below.behind HB9.out hb10)
            clear hb10
            go_wp2
            go_ret2
            exact ⟨by rw [HR.out, ← HP.out]; rfl, HB10.out⟩
          | false =>
            have HR := Lib.hid (HOP.out.trans ((if_pos HM.out).trans (one_txt HF.out.1 HO.out)))
            simp only [Bool.false_and] at HR
            have HNm := Lib.hid (num_any 0 1 _ false _ (dec_lit1 w6 0 (Nat.zero_le _)))
            rw [show (false && decide (0 < 1)) = false by simp] at HNm
            have HBn := Lib.hid ((Below.refl w6.heap.size w6).alloc (Nat.le_refl _) (.cells #[.int .i64 1] 3))
            clear hD1 hD2 hX hY
            go_wp2_with fail
            refine HNm.out.mono ?_
            rintro e w7 ⟨rfl, hb8⟩
            have HTx := Lib.hid (rText_any 0 1 false _ w7 ((dec_lit1 w6 0 (Nat.zero_le _)).kept hb8) (Nat.le_trans ((lims_len_le ten_ge 1 1).2 (by decide)) (by decide)))
            have HB9 := Lib.hid (HB7.out.trans ((Below.behind HBn.out hb8).mono (by omega)))
            clear hb8
            obtain ⟨p, hp⟩ : ∃ p, (⟨(txtS false 1).toArray⟩ : ByteArray) = p := ⟨_, rfl⟩
            have HP := Lib.hid hp
            rw [hp] at HTx
            clear hp
            go_wp2_with fail
            refine HTx.out.mono ?_
            rintro e w8 ⟨rfl, hb10⟩
            have HB10 := Lib.hid (Below.behind HB9.out hb10)
            clear hb10
            go_wp2
            go_ret2
            exact ⟨by rw [HR.out, ← HP.out]; rfl, HB10.out⟩
      | false =>
        go_upto_region 7 with fail
        go_wp2_with fail
        refine HSh.out.mono ?_
        rintro e w6 ⟨rfl, hb6⟩
        have hb7 := Below.behind HA0.out hb6
        have HB7 := Lib.hid (HBB.out.trans (hb7.mono (show w.heap.size ≤ W0.heap.size by omega)))
        obtain ⟨hD1, hD2, hX, hY⟩ := HK.out w6 hb7
        obtain ⟨x0, x1, -⟩ := cells_two hX
        obtain ⟨y0, y1, -⟩ := cells_two hY
        have hz6 := hb7.size
        clear x2 x3 y2 y3 hb6 hb7
        rcases hD2.nilOr with ⟨hn20, hy1⟩ | ⟨hn20, hy1, gy, rfl, hcy⟩
        · have hI0 : ((n2 : Int) == 0) = true := by rw [beq_iff_eq]; omega
          have hI1 : ¬ (n2 : Int) > 0 := by omega
          have hI2 : (n2 : Int) = 0 := by omega
          have HO := Lib.hid (show decide (y.natAbs % 2 = 1) = false by rw [hy1]; rfl)
          cases s1 with
          | true =>
            have HR := Lib.hid (HOP.out.trans ((if_pos HM.out).trans (one_txt HF.out.1 HO.out)))
            simp only [Bool.and_false] at HR
            have HNm := Lib.hid (num_any 0 1 _ false _ (dec_lit1 w6 0 (Nat.zero_le _)))
            rw [show (false && decide (0 < 1)) = false by simp] at HNm
            have HBn := Lib.hid ((Below.refl w6.heap.size w6).alloc (Nat.le_refl _) (.cells #[.int .i64 1] 3))
            clear hD1 hD2 hX hY
            go_wp2_with fail
            refine HNm.out.mono ?_
            rintro e w7 ⟨rfl, hb8⟩
            have HTx := Lib.hid (rText_any 0 1 false _ w7 ((dec_lit1 w6 0 (Nat.zero_le _)).kept hb8) (Nat.le_trans ((lims_len_le ten_ge 1 1).2 (by decide)) (by decide)))
            have HB9 := Lib.hid (HB7.out.trans ((Below.behind HBn.out hb8).mono (by omega)))
            clear hb8
            obtain ⟨p, hp⟩ : ∃ p, (⟨(txtS false 1).toArray⟩ : ByteArray) = p := ⟨_, rfl⟩
            have HP := Lib.hid hp
            rw [hp] at HTx
            clear hp
            go_wp2_with fail
            refine HTx.out.mono ?_
            rintro e w8 ⟨rfl, hb10⟩
            have HB10 := Lib.hid (Below.behind HB9.out hb10)
            clear hb10
            go_wp2
            go_ret2
            exact ⟨by rw [HR.out, ← HP.out]; rfl, HB10.out⟩
          | false =>
            have HR := Lib.hid (HOP.out.trans ((if_pos HM.out).trans (one_txt HF.out.1 HO.out)))
            simp only [Bool.and_false] at HR
            have HNm := Lib.hid (num_any 0 1 _ false _ (dec_lit1 w6 0 (Nat.zero_le _)))
            rw [show (false && decide (0 < 1)) = false by simp] at HNm
            have HBn := Lib.hid ((Below.refl w6.heap.size w6).alloc (Nat.le_refl _) (.cells #[.int .i64 1] 3))
            clear hD1 hD2 hX hY
            go_wp2_with fail
            refine HNm.out.mono ?_
            rintro e w7 ⟨rfl, hb8⟩
            have HTx := Lib.hid (rText_any 0 1 false _ w7 ((dec_lit1 w6 0 (Nat.zero_le _)).kept hb8) (Nat.le_trans ((lims_len_le ten_ge 1 1).2 (by decide)) (by decide)))
            have HB9 := Lib.hid (HB7.out.trans ((Below.behind HBn.out hb8).mono (by omega)))
            clear hb8
            obtain ⟨p, hp⟩ : ∃ p, (⟨(txtS false 1).toArray⟩ : ByteArray) = p := ⟨_, rfl⟩
            have HP := Lib.hid hp
            rw [hp] at HTx
            clear hp
            go_wp2_with fail
            refine HTx.out.mono ?_
            rintro e w8 ⟨rfl, hb10⟩
            have HB10 := Lib.hid (Below.behind HB9.out hb10)
            clear hb10
            go_wp2
            go_ret2
            exact ⟨by rw [HR.out, ← HP.out]; rfl, HB10.out⟩
        · have hI0 : ((n2 : Int) == 0) = false := by rw [beq_eq_false_iff_ne]; omega
          have hI1 : (n2 : Int) > 0 := by omega
          have hI2 : ¬ (n2 : Int) = 0 := by omega
          obtain ⟨d, hd⟩ : ∃ d, y.natAbs % 10 = d := ⟨_, rfl⟩
          rw [hd] at hcy
          obtain ⟨o, ho⟩ : ∃ o, decide (y.natAbs % 2 = 1) = o := ⟨_, rfl⟩
          have hO : ((d : Int) % 2 == 1) = o := by
            rw [← ho, Bool.eq_iff_iff, beq_iff_eq, decide_eq_true_iff]
            omega
          have HO := Lib.hid ho
          clear hd ho
          cases s1 with
          | true =>
            have HR := Lib.hid (HOP.out.trans ((if_pos HM.out).trans (one_txt HF.out.1 HO.out)))
            simp only [Bool.true_and] at HR
            have HNm := Lib.hid (num_any 0 1 _ o _ (dec_lit1 w6 0 (Nat.zero_le _)))
            rw [show (o && decide (0 < 1)) = o by simp] at HNm
            have HBn := Lib.hid ((Below.refl w6.heap.size w6).alloc (Nat.le_refl _) (.cells #[.int .i64 1] 3))
            clear hD1 hD2 hX hY
            go_wp2_with fail
            refine HNm.out.mono ?_
            rintro e w7 ⟨rfl, hb8⟩
            have HTx := Lib.hid (rText_any 0 1 o _ w7 ((dec_lit1 w6 0 (Nat.zero_le _)).kept hb8) (Nat.le_trans ((lims_len_le ten_ge 1 1).2 (by decide)) (by decide)))
            have HB9 := Lib.hid (HB7.out.trans ((Below.behind HBn.out hb8).mono (by omega)))
            clear hb8
            obtain ⟨p, hp⟩ : ∃ p, (⟨(txtS o 1).toArray⟩ : ByteArray) = p := ⟨_, rfl⟩
            have HP := Lib.hid hp
            rw [hp] at HTx
            clear hp
            go_wp2_with fail
            refine HTx.out.mono ?_
            rintro e w8 ⟨rfl, hb10⟩
            have HB10 := Lib.hid (Below.behind HB9.out hb10)
            clear hb10
            go_wp2
            go_ret2
            exact ⟨by rw [HR.out, ← HP.out]; rfl, HB10.out⟩
          | false =>
            have HR := Lib.hid (HOP.out.trans ((if_pos HM.out).trans (one_txt HF.out.1 HO.out)))
            simp only [Bool.false_and] at HR
            have HNm := Lib.hid (num_any 0 1 _ false _ (dec_lit1 w6 0 (Nat.zero_le _)))
            rw [show (false && decide (0 < 1)) = false by simp] at HNm
            have HBn := Lib.hid ((Below.refl w6.heap.size w6).alloc (Nat.le_refl _) (.cells #[.int .i64 1] 3))
            clear hD1 hD2 hX hY
            go_wp2_with fail
            refine HNm.out.mono ?_
            rintro e w7 ⟨rfl, hb8⟩
            have HTx := Lib.hid (rText_any 0 1 false _ w7 ((dec_lit1 w6 0 (Nat.zero_le _)).kept hb8) (Nat.le_trans ((lims_len_le ten_ge 1 1).2 (by decide)) (by decide)))
            have HB9 := Lib.hid (HB7.out.trans ((Below.behind HBn.out hb8).mono (by omega)))
            clear hb8
            obtain ⟨p, hp⟩ : ∃ p, (⟨(txtS false 1).toArray⟩ : ByteArray) = p := ⟨_, rfl⟩
            have HP := Lib.hid hp
            rw [hp] at HTx
            clear hp
            go_wp2_with fail
            refine HTx.out.mono ?_
            rintro e w8 ⟨rfl, hb10⟩
            have HB10 := Lib.hid (Below.behind HB9.out hb10)
            clear hb10
            go_wp2
            go_ret2
            exact ⟨by rw [HR.out, ← HP.out]; rfl, HB10.out⟩
    · have hC0 : ¬ C = 0 := fun h => hm (hC1.1 h)
      have hCb : (C == 0) = false := by rw [beq_eq_false_iff_ne]; exact hC0
      have HI2 := Lib.hid (HOP.out.trans (if_neg hm))
      have HM := Lib.hid hm
      clear hC1 hm
      cases s2 with
      | true =>
        have HR := Lib.hid (HI2.out.trans (if_pos (of_decide_eq_true HF.out.2.1)))
        have HB7 := Lib.hid (HBB.out.trans (HA1.out.mono (show w.heap.size ≤ W0.heap.size by omega)))
        clear hD1 hD2 hX hY
        go_wp2
        go_ret2
        exact ⟨by rw [HR.out]; rfl, HB7.out⟩
      | false =>
        have HI3 := Lib.hid (HI2.out.trans (if_neg (of_decide_eq_false HF.out.2.1)))
        have HY0 := Lib.hid (show ¬ y < 0 from of_decide_eq_false HF.out.2.1)
        go_upto_region 7 with fail
        go_wp2_with fail
        refine HSh.out.mono ?_
        rintro e w6 ⟨rfl, hb6⟩
        have hb7 := Below.behind HA0.out hb6
        have HB7 := Lib.hid (HBB.out.trans (hb7.mono (show w.heap.size ≤ W0.heap.size by omega)))
        obtain ⟨hD1, hD2, hX, hY⟩ := HK.out w6 hb7
        obtain ⟨x0, x1, -⟩ := cells_two hX
        obtain ⟨y0, y1, -⟩ := cells_two hY
        have hz6 := hb7.size
        clear x2 x3 y2 y3 hb6 hb7
        rcases hD2.nilOr with ⟨hn20, hy1⟩ | ⟨hn20, hy1, gy, rfl, hcy⟩
        · have hI0 : ((n2 : Int) == 0) = true := by rw [beq_iff_eq]; omega
          have hI1 : ¬ (n2 : Int) > 0 := by omega
          have hI2 : (n2 : Int) = 0 := by omega
          have HO := Lib.hid (show decide (y.natAbs % 2 = 1) = false by rw [hy1]; rfl)
          have HR := Lib.hid (HI3.out.trans (if_pos (show y = 0 by omega)))
          clear hD1 hD2 hX hY
          go_wp2
          go_ret2
          exact ⟨by rw [HR.out]; rfl, HB7.out⟩
        · have hI0 : ((n2 : Int) == 0) = false := by rw [beq_eq_false_iff_ne]; omega
          have hI1 : (n2 : Int) > 0 := by omega
          have hI2 : ¬ (n2 : Int) = 0 := by omega
          obtain ⟨d, hd⟩ : ∃ d, y.natAbs % 10 = d := ⟨_, rfl⟩
          rw [hd] at hcy
          obtain ⟨o, ho⟩ : ∃ o, decide (y.natAbs % 2 = 1) = o := ⟨_, rfl⟩
          have hO : ((d : Int) % 2 == 1) = o := by
            rw [← ho, Bool.eq_iff_iff, beq_iff_eq, decide_eq_true_iff]
            omega
          have HO := Lib.hid ho
          clear hd ho
          have HI4 := Lib.hid (HI3.out.trans (if_neg (show ¬ y = 0 by omega)))
          rcases hD1.nilOr with ⟨hn10, hx1⟩ | ⟨hn10, hx1, -⟩
          · have hJ0 : ((n1 : Int) == 0) = true := by rw [beq_iff_eq]; omega
            have hJ1 : (n1 : Int) = 0 := by omega
            have HR := Lib.hid (HI4.out.trans (if_pos (show x = 0 by omega)))
            clear hD1 hD2 hX hY
            go_wp2
            go_ret2
            exact ⟨by rw [HR.out]; rfl, HB7.out⟩
          · have hJ0 : ((n1 : Int) == 0) = false := by rw [beq_eq_false_iff_ne]; omega
            have hJ1 : ¬ (n1 : Int) = 0 := by omega
            have HI5 := Lib.hid (HI4.out.trans (if_neg (show ¬ x = 0 by omega)))
            have HNat := Lib.hid (fun W => natOf_any 10000 W (by omega))
            rw [show ((10000 : Nat) : Int) = 10000 from rfl] at HNat
            have HOrd := Lib.hid (fun W (hW : Below w6.heap.size w6 W) v (hv : DecIs W w6.heap.size v 10000) => order_any w.heap.size w6.heap.size y.natAbs 10000 _ v W (hD2.kept hW) hv (Nat.le_trans HLL.out.2 (by decide)) (Nat.le_trans ((lims_len_le ten_ge 10000 5).2 (by decide)) (by decide)))
            obtain ⟨O, hOO⟩ : ∃ O, ordI y.natAbs 10000 = O := ⟨_, rfl⟩
            rw [hOO] at HOrd
            have HOO := Lib.hid hOO
            have HK2 := Lib.hid (fun W (h : Below w6.heap.size w6 W) => And.intro (hD1.kept h) (And.intro (hD2.kept h) (And.intro (hX.below h) (hY.below h))))
            clear hOO
            go_wp2_with fail
            have hst := pwPr_stays w6.heap.size (w1.heap.size + 1) (some ⟨gy, 0, none⟩) n2 c2 O
            refine wp_region_inv (Inv := fun listed x' w' => ∃ u, x' = { tmps := #[.string a, .string b, undef, undef, .string ⟨#[]⟩, .int .i64 0, .pointer (some ⟨w1.heap.size, 0, none⟩), .pointer (some ⟨w1.heap.size + 1, 0, none⟩), .int .i64 0, .bool false, .bool o, undef, undef, .tuple #[.agg #[.bool s1, .slice a1 n1 c1], .agg #[.bool false, .slice (some ⟨gy, 0, none⟩) n2 c2], .int .i64 0], .string a, .string b, .tuple #[.agg #[.bool s1, .slice a1 n1 c1], .agg #[.bool false, .slice (some ⟨gy, 0, none⟩) n2 c2], .int .i64 0], .agg #[.bool s1, .slice a1 n1 c1], .agg #[.bool false, .slice (some ⟨gy, 0, none⟩) n2 c2], .int .i64 0, .int .i64 0, .bool false, undef, .pointer (some ⟨w1.heap.size, 1, none⟩), .slice a1 n1 c1, .slice (some ⟨w1.heap.size + 2, 0, none⟩) 1 1, .int .i64 C, .bool false, .pointer (some ⟨w1.heap.size + 1, 0, none⟩), .bool false, .bool false, undef, undef, .bool false, .agg #[.bool s1, .slice a1 n1 c1], .agg #[.bool false, .slice (some ⟨gy, 0, none⟩) n2 c2], .slice (some ⟨w1.heap.size + 3, 0, none⟩) 2 2, .bool true, .bool false, .pointer (some ⟨w1.heap.size + 1, 1, none⟩), .slice (some ⟨gy, 0, none⟩) n2 c2, .int .i64 (n2 : Int), .bool true, .bool true, .pointer (some ⟨w1.heap.size + 1, 1, none⟩), .slice (some ⟨gy, 0, none⟩) n2 c2, .pointer (some ⟨gy, 0, none⟩), .int .i64 (d : Int), .int .i64 ((d : Int) % 2), .bool o, .bool o, .bool false, undef, undef, undef, undef, undef, undef, undef, undef, .pointer (some ⟨w1.heap.size + 1, 1, none⟩), .slice (some ⟨gy, 0, none⟩) n2 c2, .int .i64 (n2 : Int), .bool false, .pointer (some ⟨w1.heap.size, 1, none⟩), .slice a1 n1 c1, .int .i64 (n1 : Int), .bool false, u 68, u 69, u 70, u 71, u 72, undef, undef, undef, undef, undef, undef, undef, undef, undef, undef, undef, undef, undef, undef, undef, undef, undef, undef, undef], defers := [] } ∧ RegRow w6 5 false pwS (pwPr w6.heap.size (w1.heap.size + 1) (some ⟨gy, 0, none⟩) n2 c2 O) (fun _ _ => True) (fun i => listed.getD i false) u w') (by kernel_rfl) (ord_of (by kernel_rfl)) ?h0 ?step ?fin
            case h0 => exact ⟨fun i => undef, rfl, RegRow.start (none_listed _)⟩
            case fin =>
              rintro listed x' w' ⟨u, rfl, F⟩ hall
              have e72 : u 72 = _ := F.each 4 (by decide) (fun h => by cases h) (hall 4 (by decide))
              rw [e72]
              have hb := F.below
              have hO1 : O > 0 ↔ 10000 < y.natAbs := by rw [← HOO.out]; exact ord_gt
              have HBF := Lib.hid (HB7.out.trans (hb.mono (by omega)))
              obtain ⟨hD1, hD2, hX, hY⟩ := HK2.out w' hb
              have hzf := hb.size
              clear F hall hb e72 x0 x1 y0 y1
              by_cases hgt : O > 0
              · have HR := Lib.hid (HI5.out.trans (if_pos (show 2008 < y by have := hO1.1 hgt; have := HY0.out; omega)))
                clear hO1 hD1 hD2 hX hY
                go_wp2
                go_ret2
                exact ⟨by rw [HR.out]; rfl, HBF.out⟩
              · obtain ⟨yn, hyn⟩ : ∃ yn, y.natAbs = yn := ⟨_, rfl⟩
                have hx2 : 2 ≤ x.natAbs := by have := HM.out; omega
                have HX2 := Lib.hid hx2
                have HPW := Lib.hid (show powS a.data.toList b.data.toList = told (x ^ yn) by
                  rw [HI5.out, ← hyn]
                  split
                  · rw [told_long (pow_2008 hx2 (by unfold k2008; omega))]
                  · rw [show y.toNat = y.natAbs by have := HY0.out; omega])
                rw [hyn] at hD2 hO1
                have HYN := Lib.hid (show yn ≤ 10000 from Nat.not_lt.1 (fun h => hgt (hO1.2 h)))
                have HYL := Lib.hid (show (lims 10 yn).length ≤ 1100 by rw [← hyn]; exact HLL.out.2)
                have HKK := Lib.hid (fun W (h : Below w'.heap.size w' W) => And.intro (hD1.kept h) (And.intro (hD2.kept h) (And.intro (hX.below h) (hY.below h))))
                clear hO1 hyn hx2
                obtain ⟨x0, x1, -⟩ := cells_two hX
                obtain ⟨y0, y1, -⟩ := cells_two hY
                clear hD1 hD2 hX hY
                go_wp2_with fail
                refine (rWhole_any 1 (by decide) (by decide) _).mono ?_
                rintro e v1 ⟨⟨q1, rfl, hq1⟩, hb8⟩
                rw [show decide ((1 : Int) < 0) = false from rfl]
                obtain ⟨ao, co, rfl⟩ := hq1.slice
                have hz8 := hb8.size
                obtain ⟨V1, hV1⟩ : ∃ V1, v1.alloc (.cells #[.bool false, .slice ao (lims 10 (1 : Int).natAbs).length co] 51) = V1 := ⟨_, rfl⟩
                have hO1 : NumAt V1 w'.heap.size v1.heap.size 1 := ⟨ao, _, co, by rw [← hV1]; exact Has.new _ _ _, by rw [← hV1]; exact hq1.alloc _⟩
                have hB8 : Below w'.heap.size w' V1 := by rw [← hV1]; exact hb8.alloc hz8 _
                have hzV : V1.heap.size = v1.heap.size + 1 := by rw [← hV1]; simp
                obtain ⟨hD1, hD2, hX, hY⟩ := HKK.out V1 hB8
                clear x0 x1 y0 y1
                obtain ⟨x0, x1, -⟩ := cells_two hX
                obtain ⟨y0, y1, -⟩ := cells_two hY
                have HV1 := Lib.hid hV1
                generalize (lims 10 (1 : Int).natAbs).length = no at *
                clear hq1 hb8 hV1
                go_upto_region 19 with fail
                rw [HV1.out]
                go_wp2_with fail
                refine (rWhole_any 0 (by decide) (by decide) _).mono ?_
                rintro e v2 ⟨⟨q2, rfl, hq2⟩, hb9⟩
                rw [show decide ((0 : Int) < 0) = false from rfl]
                obtain ⟨ai, ci, rfl⟩ := hq2.slice
                have hz9 := hb9.size
                obtain ⟨V2, hV2⟩ : ∃ V2, v2.alloc (.cells #[.bool false, .slice ai (lims 10 (0 : Int).natAbs).length ci] 51) = V2 := ⟨_, rfl⟩
                have hI1 : Has V2 v2.heap.size 51 #[.bool false, .slice ai (lims 10 (0 : Int).natAbs).length ci] ∧ DecIs V2 w'.heap.size (.slice ai (lims 10 (0 : Int).natAbs).length ci) 0 := ⟨by rw [← hV2]; exact Has.new _ _ _, by rw [← hV2]; exact DecIs.mono (hq2.alloc _) (by omega)⟩
                have hb10 : Below V1.heap.size V1 V2 := by rw [← hV2]; exact hb9.alloc hz9 _
                have hO2 := num_at_kept hO1 hb10
                have hB10 := hB8.trans (hb10.mono (by omega))
                have hzV2 : V2.heap.size = v2.heap.size + 1 := by rw [← hV2]; simp
                have HV2 := Lib.hid hV2
                generalize (lims 10 (0 : Int).natAbs).length = ni at *
                clear hq2 hb9 hV2 hb10 hO1 hB8 hD1 hD2 hX hY x0 x1 y0 y1
                have HRel := Lib.hid (And.intro hI1 (And.intro hO2 (And.intro hB10 (And.intro hz8 (And.intro hz9 (And.intro hzV hzV2))))))
                clear hI1 hO2 hB10
                go_wp2
                rw [HV2.out]
                go_loopg [12] yn (fun gh v12 wx => ∃ (j gi : Nat) (ai : Option Addr) (ni ci : Nat), v12 = .pointer (some ⟨gi, 0, none⟩) ∧ j + gh = yn ∧ Has wx gi 51 #[.bool false, .slice ai ni ci] ∧ DecIs wx w'.heap.size (.slice ai ni ci) j ∧ NumAt wx w'.heap.size v1.heap.size (x ^ j) ∧ gi ≠ v1.heap.size ∧ w'.heap.size ≤ gi ∧ tooL (x ^ j).natAbs = false ∧ Below w'.heap.size w' wx)
                case atStart => exact ⟨0, v2.heap.size, ai, ni, ci, rfl, by omega, HRel.out.1.1, HRel.out.1.2, by rw [Int.pow_zero]; exact HRel.out.2.1, by omega, by omega, by rw [Int.pow_zero]; exact tool_small (by decide), HRel.out.2.2.1⟩
                case round =>
                  obtain ⟨j, gi, aj, nj, cj, rfl, hj, hI, hDi, ⟨aO, nO, cO, hOh, hDo⟩, hne, hgi, htl, hB⟩ := hrel
                  have hol := hOh.lt
                  have hgl := hI.lt
                  have hlo : (lims 10 (x ^ j).natAbs).length ≤ 600 := by rw [tool_len] at htl; exact Nat.not_lt.1 (of_decide_eq_false htl)
                  obtain ⟨hD1, hD2, hX, hY⟩ := HKK.out wr hB
                  have hOr := rOrder_any w'.heap.size w.heap.size j yn _ _ false false wr hDi hD2 (Nat.le_trans ((lims_len_le ten_ge j 5).2 (by have := HYN.out; omega)) (by decide)) (Nat.le_trans HYL.out (by decide))
                  obtain ⟨Q, hQ⟩ : ∃ Q, ordZ (sgI false j) (sgI false yn) = Q := ⟨_, rfl⟩
                  rw [hQ] at hOr
                  have hQ1 : Q < 0 ↔ j < yn := by
                    rw [← hQ, ordZ_lt]
                    show (j : Int) < (yn : Int) ↔ _
                    omega
                  have HOr := Lib.hid hOr
                  have HKR := Lib.hid (fun W (h : Below wr.heap.size wr W) => And.intro (And.intro (hI.below h) (And.intro (hDi.kept h) (And.intro (hOh.below h) (hDo.kept h)))) (And.intro (hB.trans (h.mono hB.size)) (HKK.out W (hB.trans (h.mono hB.size)))))
                  obtain ⟨i0, i1, -⟩ := cells_two hI
                  obtain ⟨o0, o1, -⟩ := cells_two hOh
                  obtain ⟨x0, x1, -⟩ := cells_two hX
                  obtain ⟨y0, y1, -⟩ := cells_two hY
                  have HTL := Lib.hid (And.intro htl hlo)
                  clear hI hDi hOh hDo htl hlo hB hD1 hD2 hX hY hOr hQ
                  go_wp2_with fail
                  refine HOr.out.mono ?_
                  rintro e u1 ⟨rfl, hb11⟩
                  obtain ⟨⟨hI, hDi, hOh, hDo⟩, hB, hD1, hD2, hX, hY⟩ := HKR.out u1 hb11
                  have hz11 := hb11.size
                  clear hb11 i0 i1 o0 o1 x0 x1 y0 y1
                  obtain ⟨i0, i1, -⟩ := cells_two hI
                  obtain ⟨o0, o1, -⟩ := cells_two hOh
                  obtain ⟨x0, x1, -⟩ := cells_two hX
                  obtain ⟨y0, y1, -⟩ := cells_two hY
                  cases gk with
                  | zero =>
                    obtain rfl : j = yn := by omega
                    have hq0 : ¬ Q < 0 := fun h => by have := hQ1.1 h; omega
                    have HTo := Lib.hid (rTold_none _ (x ^ j).natAbs (decide (x ^ j < 0)) _ u1 hDo)
                    rw [toldS_sg, sg_z, ← HPW.out] at HTo
                    obtain ⟨p, hp⟩ : ∃ p, powS a.data.toList b.data.toList = p := ⟨_, rfl⟩
                    rw [hp] at HTo
                    have HP := Lib.hid hp
                    unfold retS at HTo
                    have HB5 := Lib.hid (HBF.out.trans (hB.mono (by omega)))
                    obtain ⟨sg, hsg⟩ : ∃ sg, decide (x ^ j < 0) = sg := ⟨_, rfl⟩
                    rw [hsg] at o0 HTo
                    clear hp hI hDi hOh hDo hB hD1 hD2 hX hY hsg hQ1
                    go_wp2_with fail
                    refine HTo.out.mono ?_
                    rintro e w9 ⟨rfl, hb12⟩
                    have HB6 := Lib.hid (Below.behind HB5.out hb12)
                    clear hb12
                    go_wp2
                    go_ret2
                    exact ⟨by rw [HP.out]; rfl, HB6.out⟩
                  | succ k =>
                    have hq0 : Q < 0 := hQ1.2 (by omega)
                    have hTi := rTimes_any w'.heap.size w.heap.size (x ^ j).natAbs x.natAbs _ _ (decide (x ^ j < 0)) s1 u1 hDo hD1 (Nat.le_trans HTL.out.2 (by decide)) (Nat.le_trans HLL.out.1 (by decide))
                    rw [sgI_z, show sgI s1 x.natAbs = x by rw [← HF.out.1]; exact sg_z x, ← Int.pow_succ] at hTi
                    have HTi := Lib.hid hTi
                    obtain ⟨R, hR⟩ : ∃ R, x ^ (j + 1) = R := ⟨_, rfl⟩
                    rw [hR] at HTi
                    have HRR := Lib.hid hR
                    obtain ⟨sg, hsg⟩ : ∃ sg, decide (x ^ j < 0) = sg := ⟨_, rfl⟩
                    rw [hsg] at o0 HTi
                    have hzu1 := hB.size
                    have HKU := Lib.hid (fun W (h : Below u1.heap.size u1 W) => And.intro (And.intro (hI.below h) (And.intro (hDi.kept h) (hOh.below h))) (And.intro (hB.trans (h.mono hB.size)) (HKK.out W (hB.trans (h.mono hB.size)))))
                    clear hR hsg hI hDi hOh hDo hB hD1 hD2 hX hY hTi hQ1
                    go_wp2_with fail
                    refine HTi.out.mono ?_
                    rintro e u2 ⟨⟨q3, rfl, hq3⟩, hb12⟩
                    obtain ⟨a3, c3, rfl⟩ := hq3.slice
                    obtain ⟨⟨hI, hDi, hOh⟩, hB, hD1, hD2, hX, hY⟩ := HKU.out u2 hb12
                    have hz12 := hb12.size
                    have hol2 := hOh.lt
                    have hgl2 := hI.lt
                    obtain ⟨n3, hn3⟩ : ∃ n3, (lims 10 R.natAbs).length = n3 := ⟨_, rfl⟩
                    rw [hn3] at hq3 ⊢
                    obtain ⟨W3, hW3⟩ : ∃ W3, (u2.setCell ⟨v1.heap.size, 0, none⟩ (.bool (decide (R < 0)))).setCell ⟨v1.heap.size, 1, none⟩ (.slice a3 n3 c3) = W3 := ⟨_, rfl⟩
                    have hG3 : Has W3 v1.heap.size 51 #[.bool (decide (R < 0)), .slice a3 n3 c3] := by rw [← hW3]; exact hOh.put2 _ _
                    have hD3 : DecIs W3 w'.heap.size (.slice a3 n3 c3) R.natAbs := by rw [← hW3]; exact DecIs.mono (hq3.far2 hOh _ _) hzu1
                    have hI3 : Has W3 gi 51 #[.bool false, .slice aj nj cj] := by rw [← hW3]; exact hI.far2 hne _ _
                    have hDi3 : DecIs W3 w'.heap.size (.slice aj nj cj) j := by rw [← hW3]; exact hDi.far2 hOh _ _
                    have hB3 : Below w'.heap.size w' W3 := by rw [← hW3]; exact Below.two hB hz8 _ _
                    have HW3 := Lib.hid hW3
                    obtain ⟨o2, o3, o4, o5⟩ := cells_two hOh
                    obtain ⟨sR, hsR⟩ : ∃ sR, decide (R < 0) = sR := ⟨_, rfl⟩
                    rw [hsR] at hG3 HW3 ⊢
                    have HLn := Lib.hid (rLong_any w'.heap.size R.natAbs sR _ W3 hD3)
                    obtain ⟨tl, htl⟩ : ∃ tl, tooL R.natAbs = tl := ⟨_, rfl⟩
                    rw [htl] at HLn
                    have HKW := Lib.hid (fun W (h : Below W3.heap.size W3 W) => And.intro (And.intro (hI3.below h) (And.intro (hDi3.kept h) (And.intro (hG3.below h) (hD3.kept h)))) (And.intro (hB3.trans (h.mono hB3.size)) (HKK.out W (hB3.trans (h.mono hB3.size)))))
                    have HTL2 := Lib.hid htl
                    have HSR := Lib.hid hsR
                    obtain ⟨p0, p1, -⟩ := cells_two hG3
                    have hz13 := hG3.lt
                    clear hn3 hq3 hb12 hW3 hD3 hI3 hDi3 hB3 hI hDi hOh hB hD1 hD2 hX hY i0 i1 o0 o1 x0 x1 y0 y1 hsR htl
                    go_upto_region 23 with fail
                    rw [HW3.out]
                    clear HW3 o2 o3 o4 o5
                    go_wp2_with fail
                    refine HLn.out.mono ?_
                    rintro e u3 ⟨rfl, hb13⟩
                    obtain ⟨⟨hI, hDi, hOh, hDo⟩, hB, hD1, hD2, hX, hY⟩ := HKW.out u3 hb13
                    have hz14 := hb13.size
                    clear p0 p1
                    obtain ⟨i0, i1, -⟩ := cells_two hI
                    cases tl with
                    | true =>
                      have HR := Lib.hid (show powS a.data.toList b.data.toList = ([], 4) by
                        rw [HPW.out]
                        exact told_long (pow_up HX2.out (show j + 1 ≤ yn by omega) (by rw [HRR.out]; exact HTL2.out)))
                      have HB5 := Lib.hid (HBF.out.trans (hB.mono (by omega)))
                      clear hI hDi hOh hDo hB hD1 hD2 hX hY hb13
                      go_wp2
                      go_ret2
                      exact ⟨by rw [HR.out]; rfl, HB5.out⟩
                    | false =>
                      have hgl3 := hI.lt
                      have hol3 := hOh.lt
                      obtain ⟨V4, hV4⟩ : ∃ V4, u3.alloc (.cells #[.bool false, .slice aj nj cj] 51) = V4 := ⟨_, rfl⟩
                      have hG4 : Has V4 u3.heap.size 51 #[.bool false, .slice aj nj cj] := by rw [← hV4]; exact Has.new _ _ _
                      have hDj4 : DecIs V4 w'.heap.size (.slice aj nj cj) j := by rw [← hV4]; exact hDi.alloc _
                      have hO4 : NumAt V4 w'.heap.size v1.heap.size R := ⟨a3, n3, c3, by rw [← hV4, HSR.out]; exact hOh.alloc _, by rw [← hV4]; exact hDo.alloc _⟩
                      have hB4 : Below w'.heap.size w' V4 := by rw [← hV4]; exact hB.alloc (by omega) _
                      have hzV4 : V4.heap.size = u3.heap.size + 1 := by rw [← hV4]; simp
                      have HV4 := Lib.hid hV4
                      have HP1 := Lib.hid (fun W (hW : Below V4.heap.size V4 W) v (hv : DecIs W V4.heap.size v 1) => rPlus_one w'.heap.size V4.heap.size j _ v W (hDj4.kept hW) hv (by have := HYN.out; omega))
                      clear hV4 hI hDi hOh hDo hB hD1 hD2 hX hY hb13
                      go_upto_region 21 with fail
                      rw [HV4.out]
                      clear HV4 i0 i1
                      go_wp2_with fail
                      have hst := ppPr_stays V4.heap.size j aj nj cj
                      refine wp_region_inv (Inv := fun listed x' wx => ∃ U, x' = { tmps := #[.string a, .string b, undef, undef, u4, u5, .pointer (some ⟨w1.heap.size, 0, none⟩), .pointer (some ⟨w1.heap.size + 1, 0, none⟩), .int .i64 0, .bool false, .bool o, .pointer (some ⟨v1.heap.size, 0, none⟩), .pointer (some ⟨u3.heap.size, 0, none⟩), .tuple #[.agg #[.bool s1, .slice a1 n1 c1], .agg #[.bool false, .slice (some ⟨gy, 0, none⟩) n2 c2], .int .i64 0], .string a, .string b, .tuple #[.agg #[.bool s1, .slice a1 n1 c1], .agg #[.bool false, .slice (some ⟨gy, 0, none⟩) n2 c2], .int .i64 0], .agg #[.bool s1, .slice a1 n1 c1], .agg #[.bool false, .slice (some ⟨gy, 0, none⟩) n2 c2], .int .i64 0, .int .i64 0, .bool false, undef, .pointer (some ⟨w1.heap.size, 1, none⟩), .slice a1 n1 c1, .slice (some ⟨w1.heap.size + 2, 0, none⟩) 1 1, .int .i64 C, .bool false, .pointer (some ⟨w1.heap.size + 1, 0, none⟩), .bool false, .bool false, undef, undef, .bool false, .agg #[.bool s1, .slice a1 n1 c1], .agg #[.bool false, .slice (some ⟨gy, 0, none⟩) n2 c2], .slice (some ⟨w1.heap.size + 3, 0, none⟩) 2 2, .bool true, .bool false, .pointer (some ⟨w1.heap.size + 1, 1, none⟩), .slice (some ⟨gy, 0, none⟩) n2 c2, .int .i64 (n2 : Int), .bool true, .bool true, .pointer (some ⟨w1.heap.size + 1, 1, none⟩), .slice (some ⟨gy, 0, none⟩) n2 c2, .pointer (some ⟨gy, 0, none⟩), .int .i64 (d : Int), .int .i64 ((d : Int) % 2), .bool o, .bool o, .bool false, undef, undef, undef, undef, undef, undef, undef, undef, .pointer (some ⟨w1.heap.size + 1, 1, none⟩), .slice (some ⟨gy, 0, none⟩) n2 c2, .int .i64 (n2 : Int), .bool false, .pointer (some ⟨w1.heap.size, 1, none⟩), .slice a1 n1 c1, .int .i64 (n1 : Int), .bool false, u 68, u 69, u 70, u 71, .bool (decide (0 < O)), .agg #[.bool false, .slice ao no co], .agg #[.bool false, .slice ai ni ci], .agg #[.bool false, .slice aj nj cj], .agg #[.bool false, .slice (some ⟨gy, 0, none⟩) n2 c2], .int .i64 Q, .bool true, U 79, U 80, U 81, .agg #[.bool sg, .slice aO nO cO], .agg #[.bool s1, .slice a1 n1 c1], .agg #[.bool sR, .slice a3 n3 c3], .agg #[.bool sR, .slice a3 n3 c3], .bool false, .agg #[.bool false, .slice aj nj cj], undef, undef, undef, undef], defers := [] } ∧ RegInv (Below V4.heap.size V4) 3 ppS (ppPr V4.heap.size j aj nj cj) (fun _ _ wz => ∃ a n c, Has wz u3.heap.size 51 #[.bool false, .slice a n c] ∧ DecIs wz w'.heap.size (.slice a n c) (j + 1) ∧ NumAt wz w'.heap.size v1.heap.size R ∧ Below w'.heap.size w' wz) (fun i => listed.getD i false) U wx) (by kernel_rfl) (ord_of (by kernel_rfl)) ?h0b ?stepb ?finb
                      case h0b => exact ⟨fun i => if i = 79 then u79 else if i = 80 then u80 else u81, rfl, RegInv.start (none_listed _) (Below.refl _ _).drew⟩
                      case finb =>
                        rintro listed x' wz ⟨u, rfl, F⟩ hall
                        obtain ⟨a5, n5, c5, f1, f2, f3, f4⟩ := F.fin (hall 3 (by decide))
                        have HFF := Lib.hid (And.intro f1 (And.intro f2 (And.intro f3 f4)))
                        clear F f1 f2 f3 f4 hG4 hDj4 hO4 hB4
                        go_wp2_with fail
                        go_roundg k
                        case measure => omega
                        case rel => exact ⟨j + 1, u3.heap.size, a5, n5, c5, rfl, by omega, HFF.out.1, HFF.out.2.1, by rw [HRR.out]; exact HFF.out.2.2.1, by omega, by omega, by rw [HRR.out]; exact HTL2.out, HFF.out.2.2.2⟩
                      case stepb =>
                        rintro listed x' w' i9 ⟨u, rfl, F⟩ hi9 hn hd
                        have h6 : i9 = 0 ∨ i9 = 1 ∨ i9 = 2 ∨ i9 = 3 := by
                          have : i9 < 4 := hi9
                          omega
                        rcases h6 with rfl | rfl | rfl | rfl
                        · have hI := F.inv (F.not 0 (by decide) hn)
                          obtain ⟨q0, q1, -⟩ := cells_two (hG4.below hI)
                          refine wpOp_by rfl rfl (fun K hK => ?_)
                          go_simp
                          exact hK _ _ ⟨_, by simp [upd, ppS], F.put 0 hst (by decide) (by unfold ppS; omega) hn (Below.refl _ _) hI rfl⟩
                        · have hI := F.inv (F.not 1 (by decide) hn)
                          refine wpOp_by rfl rfl (fun K hK => ?_)
                          go_simp
                          refine (rWhole_any 1 (by decide) (by decide) _).mono ?_
                          rintro e w4 ⟨⟨v, rfl, hv⟩, hb1⟩
                          obtain ⟨a9, c9, rfl⟩ := hv.slice
                          exact hK _ _ ⟨_, by simp [upd, ppS], F.put 1 hst (by decide) (by unfold ppS; omega) hn hb1 (hI.trans (hb1.mono hI.size)) ⟨a9, _, c9, rfl, DecIs.mono hv hI.size⟩⟩
                        · have hI := F.inv (F.not 2 (by decide) hn)
                          have e0 : u 79 = _ := F.got 0 (by decide) 2 hn (by decide) (hd _ rfl ⟨0, .data⟩ (by simp) rfl)
                          obtain ⟨a9, l9, c9, e1, hv⟩ := F.got 1 (by decide) 2 hn (by decide) (hd _ rfl ⟨1, .data⟩ (by simp) rfl)
                          have e1 : u 80 = _ := e1
                          refine wpOp_by rfl rfl (fun K hK => ?_)
                          go_simp
                          refine (HP1.out _ hI _ hv).mono ?_
                          rintro e w4 ⟨⟨v, rfl, hv2⟩, hb1⟩
                          obtain ⟨a8, c8, rfl⟩ := hv2.slice
                          exact hK _ _ ⟨_, by simp [upd, ppS, e0, e1], F.put 2 hst (by decide) (by unfold ppS; omega) hn hb1 (hI.trans (hb1.mono hI.size)) ⟨a8, _, c8, rfl, DecIs.mono hv2 hI.size⟩⟩
                        · have hI := F.inv (F.not 3 (by decide) hn)
                          obtain ⟨a2', l2, c2', e2, d2⟩ := F.got 2 (by decide) 3 hn (by decide) (hd _ rfl ⟨2, .data⟩ (by simp) rfl)
                          have e2 : u 81 = _ := e2
                          have hRw := hG4.below hI
                          obtain ⟨q0, q1, q2, q3⟩ := cells_two hRw
                          obtain ⟨a7, l7, c7, h7, d7⟩ := num_at_kept hO4 hI
                          have hB5 := hB4.trans (hI.mono hB4.size)
                          have hzI := hI.size
                          refine wpOp_by rfl rfl (fun K hK => ?_)
                          go_simp
                          refine hK _ _ ⟨u, by simp [e2], F.last hn (fun i hi => ?_) (fun _ => ⟨a2', l2, c2', hRw.put2 _ _, DecIs.mono (d2.far2 hRw _ _) hB4.size, ⟨a7, l7, c7, h7.far2 (by omega) _ _, d7.far2 hRw _ _⟩, Below.two hB5 (by omega) _ _⟩)⟩
                          have : i = 0 ∨ i = 1 ∨ i = 2 := by omega
                          rcases this with rfl | rfl | rfl
                          · exact hd _ rfl ⟨0, .phase⟩ (by simp) rfl
                          · exact hd _ rfl ⟨1, .phase⟩ (by simp) rfl
                          · exact hd _ rfl ⟨2, .phase⟩ (by simp) rfl

            case step =>
              rintro listed x' w' i9 ⟨u, rfl, F⟩ hi9 hn hd
              have h6 : i9 = 0 ∨ i9 = 1 ∨ i9 = 2 ∨ i9 = 3 ∨ i9 = 4 := by
                have : i9 < 5 := hi9
                omega
              obtain ⟨y0, y1, -⟩ := cells_two (hY.below F.below)
              rcases h6 with rfl | rfl | rfl | rfl | rfl
              · refine wpOp_by rfl rfl (fun K hK => ?_)
                go_simp
                exact hK _ _ ⟨_, by simp [upd, pwS], F.put 0 hst (by decide) (by decide) hn (Below.refl _ _) rfl⟩
              · have e0 : u 68 = _ := F.got 0 (by decide) 1 hn (by decide) (hd _ rfl ⟨0, .data⟩ (by simp) rfl)
                refine wpOp_by rfl rfl (fun K hK => ?_)
                go_simp
                exact hK _ _ ⟨_, by simp [upd, pwS, e0], F.put 1 hst (by decide) (by decide) hn (Below.refl _ _) rfl⟩
              · refine wpOp_by rfl rfl (fun K hK => ?_)
                go_simp
                refine (HNat.out _).mono ?_
                rintro e w4 ⟨⟨v, rfl, hv⟩, hb1⟩
                obtain ⟨a9, c9, rfl⟩ := hv.slice
                exact hK _ _ ⟨_, by simp [upd, pwS], F.put 2 hst (by decide) (by decide) hn hb1 ⟨a9, _, c9, rfl, DecIs.mono hv F.below.size⟩⟩
              · have e1 : u 69 = _ := F.got 1 (by decide) 3 hn (by decide) (hd _ rfl ⟨1, .data⟩ (by simp) rfl)
                obtain ⟨a9, l9, c9, e2, hv⟩ := F.got 2 (by decide) 3 hn (by decide) (hd _ rfl ⟨2, .data⟩ (by simp) rfl)
                have e2 : u 70 = _ := e2
                refine wpOp_by rfl rfl (fun K hK => ?_)
                go_simp
                refine (HOrd.out _ F.below _ hv).mono ?_
                rintro e w4 ⟨rfl, rfl⟩
                have hb1 := Below.refl w'.heap.size w'
                exact hK _ _ ⟨_, by simp [upd, pwS, e1, e2], F.put 3 hst (by decide) (by decide) hn hb1 rfl⟩
              · have e3 : u 71 = _ := F.got 3 (by decide) 4 hn (by decide) (hd _ rfl ⟨3, .data⟩ (by simp) rfl)
                refine wpOp_by rfl rfl (fun K hK => ?_)
                go_simp
                exact hK _ _ ⟨_, by simp [upd, pwS, e3], F.put 4 hst (by decide) (by decide) hn (Below.refl _ _) rfl⟩
end Go.Proofs.YtmnibfdenmeepaaDoor
/- BigTimes answers true. -/
namespace Go.Proofs.YtmnibfdenmeepaaDoor
open Go.RowKit Go.Shelf Big

theorem longB_all {m : Nat} {L : List ByteArray} (h : longB m L = false) : ∀ s ∈ L, s.size ≤ m := by
  unfold longB at h
  rw [List.any_eq_false] at h
  intro s hs
  have := h s hs
  simpa using this
def k100 : Nat := 100
def k240 : Nat := 240
theorem num_100 {l : List UInt8} {z : Int} (h : numOf l = some z) (hl : l.length ≤ k240) : z.natAbs < 16 ^ k240 := by
  unfold numOf at h
  split at h
  · rename_i hok
    obtain ⟨h1, h2, h3⟩ := bas_len (sgnOf (strip l)).2
    have h4 := sgn_len (strip l)
    have h5 := strip_len l
    generalize (basOf (sgnOf (strip l)).2).2 = r at *
    generalize (basOf (sgnOf (strip l)).2).1 = b at *
    have hz := Option.some.inj h
    subst hz
    rw [sg_abs]
    unfold okn at hok
    simp only [Bool.and_eq_true, List.all_eq_true, decide_eq_true_eq] at hok
    have h6 := rdn_lt hok.2
    have h7 : b ^ r.length ≤ 16 ^ r.length := Nat.pow_le_pow_left h3 _
    have h8 : 16 ^ r.length ≤ 16 ^ k240 := Nat.pow_le_pow_right (by decide) (by omega)
    exact Nat.lt_of_lt_of_le h6 (Nat.le_trans h7 h8)
  · cases h
theorem tool_100 {a : ByteArray} (ha : a.size ≤ k100) : ∀ x, numOf a.data.toList = some x → tooL x.natAbs = false := fun x hx =>
  tool_lt (num_100 hx (by rw [← Lib.size_eq]; exact Nat.le_trans ha (by decide)))
set_option maxRecDepth 100000 in
set_option maxHeartbeats 8000000 in
theorem timesLaw_any (a b : ByteArray) (w : World) : Calls Tryd.prog 4 #[.string a, .string b] w fun e w' => e = .returned (.bool true) ∧ Below w.heap.size w w' := by
  have HAW := Lib.hid awake_any
  have hcell : ∀ i s, [a, b][i]? = some s → (w.alloc (.cells #[.string a, .string b] 9)).cell? ⟨w.heap.size, i, none⟩ = some (.string s) := by
    intro i s h
    rw [Has.cell (Has.new w _ _)]
    match i, h with
    | 0, h => cases h; rfl
    | 1, h => cases h; rfl
  have HLo := Lib.hid (long_any 100 w.heap.size 2 [a, b] _ (by omega) (by simp) hcell)
  have HB0 := Lib.hid ((Below.refl _ w).alloc (Nat.le_refl _) (.cells #[.string a, .string b] 9))
  clear hcell
  cases hlo : longB 100 [a, b] with
  | true =>
    rw [hlo] at HLo
    clear hlo
    go_enter Tryd.func4, Tryd.ntmps4
    go_wp2_with fail
    refine HLo.out.mono ?_
    rintro e w1 ⟨rfl, rfl⟩
    go_wp2_with fail
    refine (HAW.out _).mono ?_
    rintro e w2 ⟨rfl, hb2⟩
    have HB2 := Lib.hid (Below.behind HB0.out hb2)
    clear hb2
    go_wp2
    go_ret
    exact ⟨rfl, HB2.out⟩
  | false =>
    rw [hlo] at HLo
    have hs := longB_all hlo
    have ha0 : a.size ≤ k100 := hs a (by simp)
    have hb0 : b.size ≤ k100 := hs b (by simp)
    have ha : a.size ≤ k900 := Nat.le_trans ha0 (by decide)
    have hb : b.size ≤ k900 := Nat.le_trans hb0 (by decide)
    have ha1 : a.size ≤ 1000 := Nat.le_trans ha0 (by decide)
    have hb1 : b.size ≤ 1000 := Nat.le_trans hb0 (by decide)
    have m1 := fun W => Mul_any a b W ha1 hb1
    have m2 := fun W => rMul_any a b W ha hb
    have d1 := fun W => Div_any a b W ha1 hb1
    have d2 := fun W => rDiv_any a b W ha hb (tool_100 ha0) (tool_100 hb0)
    have p1 := fun W => Pow_any a b W ha1 hb1 (tool_100 ha0) (tool_100 hb0)
    have p2 := fun W => rPow_any a b W ha hb (tool_100 ha0) (tool_100 hb0)
    have g1 := fun W => Gcd_any a b W ha1 hb1
    have g2 := fun W => rGcd_any a b W ha hb
    clear hlo hs ha0 hb0 ha hb ha1 hb1
    revert m1 m2 d1 d2 p1 p2 g1 g2
    generalize opS (fun x y => x * y) a.data.toList b.data.toList = q1
    generalize divS a.data.toList b.data.toList = q2
    generalize powS a.data.toList b.data.toList = q3
    generalize opS gcdZ a.data.toList b.data.toList = q4
    obtain ⟨l1, e1⟩ := q1
    obtain ⟨l2, l2', e2⟩ := q2
    obtain ⟨l3, e3⟩ := q3
    obtain ⟨l4, e4⟩ := q4
    unfold retS ret3
    simp only []
    generalize (⟨l1.toArray⟩ : ByteArray) = t1
    generalize (⟨l2.toArray⟩ : ByteArray) = t2
    generalize (⟨l2'.toArray⟩ : ByteArray) = t2'
    generalize (⟨l3.toArray⟩ : ByteArray) = t3
    generalize (⟨l4.toArray⟩ : ByteArray) = t4
    intro m1 m2 d1 d2 p1 p2 g1 g2
    have M1 := Lib.hid m1
    have M2 := Lib.hid m2
    have D1 := Lib.hid d1
    have D2 := Lib.hid d2
    have P1 := Lib.hid p1
    have P2 := Lib.hid p2
    have G1 := Lib.hid g1
    have G2 := Lib.hid g2
    clear m1 m2 d1 d2 p1 p2 g1 g2
    go_enter Tryd.func4, Tryd.ntmps4
    go_wp2_with fail
    refine HLo.out.mono ?_
    rintro e w1 ⟨rfl, rfl⟩
    go_wp2_with fail
    refine (M1.out _).mono ?_
    rintro e w2 ⟨rfl, hb2⟩
    have HB2 := Lib.hid (Below.behind HB0.out hb2)
    clear hb2
    go_wp2_with fail
    refine (M2.out _).mono ?_
    rintro e w3 ⟨rfl, hb3⟩
    have HB3 := Lib.hid (Below.behind HB2.out hb3)
    clear hb3
    go_wp2_with fail
    refine (D1.out _).mono ?_
    rintro e w4 ⟨rfl, hb4⟩
    have HB4 := Lib.hid (Below.behind HB3.out hb4)
    clear hb4
    go_wp2_with fail
    refine (D2.out _).mono ?_
    rintro e w5 ⟨rfl, hb5⟩
    have HB5 := Lib.hid (Below.behind HB4.out hb5)
    clear hb5
    go_wp2_with fail
    refine (P1.out _).mono ?_
    rintro e w6 ⟨rfl, hb6⟩
    have HB6 := Lib.hid (Below.behind HB5.out hb6)
    clear hb6
    go_wp2_with fail
    refine (P2.out _).mono ?_
    rintro e w7 ⟨rfl, hb7⟩
    have HB7 := Lib.hid (Below.behind HB6.out hb7)
    clear hb7
    go_wp2_with fail
    refine (G1.out _).mono ?_
    rintro e w8 ⟨rfl, hb8⟩
    have HB8 := Lib.hid (Below.behind HB7.out hb8)
    clear hb8
    go_wp2_with fail
    refine (G2.out _).mono ?_
    rintro e w9 ⟨rfl, hb9⟩
    have HB9 := Lib.hid (Below.behind HB8.out hb9)
    clear hb9
    go_wp2_with fail
    refine (HAW.out _).mono ?_
    rintro e w10 ⟨rfl, hb10⟩
    have HB10 := Lib.hid (Below.behind HB9.out hb10)
    clear hb10
    go_wp2
    go_ret
    exact ⟨rfl, HB10.out⟩
end Go.Proofs.YtmnibfdenmeepaaDoor
