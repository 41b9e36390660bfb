/- parseTwo, two, one of the program. -/
import Derived.Test.YtmnibfdenmeepaaDoorNumT
namespace Go.Proofs.YtmnibfdenmeepaaDoor
open Go.RowKit Go.Shelf Big

theorem NatIs.drew {w : World} {B n : Nat} {v : Value} (h : NatIs w B v n) : NatIs w.drew B v n := h
/-- What is read of a text: a sign, a slice, whether it is long, whether it is a number. -/
def PF (B : Nat) (l : List UInt8) (w' : World) (s : Bool) (v : Value) (lg t : Bool) : Prop :=
  (t = true ∧ ∃ z : Int, numOf l = some z ∧ s = decide (z < 0) ∧ lg = tooL z.natAbs ∧ NatIs w' B v z.natAbs) ∨ (t = false ∧ numOf l = none)
theorem ParseIs.form {B : Nat} {l : List UInt8} {w' : World} {e : Ending} (h : ParseIs B l w' e) :
    ∃ (s : Bool) (av : Option Addr) (n c : Nat) (lg od t : Bool), e = .returned (.tuple #[.agg #[.bool s, .slice av n c, .bool lg, .bool od], .bool t]) ∧ PF B l w' s (.slice av n c) lg t := by
  rcases h with ⟨h1, h2⟩ | ⟨z, h1, v, h2, hn⟩
  · exact ⟨false, none, 0, 0, false, false, false, h2, .inr ⟨rfl, h1⟩⟩
  · obtain ⟨av, c, rfl⟩ := hn.slice
    exact ⟨_, av, _, c, _, _, true, h2, .inl ⟨rfl, z, h1, rfl, rfl, hn⟩⟩
theorem PF.stay {B b : Nat} {l : List UInt8} {w w' : World} {s : Bool} {v : Value} {lg t : Bool} (h : PF B l w s v lg t) (hk : ∀ n, NatIs w B v n → NatIs w' b v n) : PF b l w' s v lg t := by
  rcases h with ⟨h1, z, h2, h3, h4, h5⟩ | h
  · exact .inl ⟨h1, z, h2, h3, h4, hk _ h5⟩
  · exact .inr h

theorem fin12 (r : Nat) (a b c d x y z u : Value) (w : World) {a1 b1 c1 d1 a2 b2 c2 d2 : Value} (h1 : Has w r 46 #[a1, b1, c1, d1]) (h2 : Has w (r + 1) 46 #[a2, b2, c2, d2]) :
    Has (((((((((((((w.setCell ⟨r + 1, 0, none⟩ (x)).setCell ⟨r + 1, 1, none⟩ (y)).setCell ⟨r + 1, 2, none⟩ (z)).setCell ⟨r + 1, 3, none⟩ (u)).setCell ⟨r, 0, none⟩ (a)).setCell ⟨r, 1, none⟩ (b)).setCell ⟨r, 2, none⟩ (c)).setCell ⟨r, 3, none⟩ (d)).setCell ⟨r + 1, 0, none⟩ (x)).setCell ⟨r + 1, 1, none⟩ (y)).setCell ⟨r + 1, 2, none⟩ (z)).setCell ⟨r + 1, 3, none⟩ (u)).drew) r 46 #[a, b, c, d] ∧ Has (((((((((((((w.setCell ⟨r + 1, 0, none⟩ (x)).setCell ⟨r + 1, 1, none⟩ (y)).setCell ⟨r + 1, 2, none⟩ (z)).setCell ⟨r + 1, 3, none⟩ (u)).setCell ⟨r, 0, none⟩ (a)).setCell ⟨r, 1, none⟩ (b)).setCell ⟨r, 2, none⟩ (c)).setCell ⟨r, 3, none⟩ (d)).setCell ⟨r + 1, 0, none⟩ (x)).setCell ⟨r + 1, 1, none⟩ (y)).setCell ⟨r + 1, 2, none⟩ (z)).setCell ⟨r + 1, 3, none⟩ (u)).drew) (r + 1) 46 #[x, y, z, u] ∧ Below r w (((((((((((((w.setCell ⟨r + 1, 0, none⟩ (x)).setCell ⟨r + 1, 1, none⟩ (y)).setCell ⟨r + 1, 2, none⟩ (z)).setCell ⟨r + 1, 3, none⟩ (u)).setCell ⟨r, 0, none⟩ (a)).setCell ⟨r, 1, none⟩ (b)).setCell ⟨r, 2, none⟩ (c)).setCell ⟨r, 3, none⟩ (d)).setCell ⟨r + 1, 0, none⟩ (x)).setCell ⟨r + 1, 1, none⟩ (y)).setCell ⟨r + 1, 2, none⟩ (z)).setCell ⟨r + 1, 3, none⟩ (u)).drew) ∧ ∀ n v, NatIs w (r + 2) v n → NatIs (((((((((((((w.setCell ⟨r + 1, 0, none⟩ (x)).setCell ⟨r + 1, 1, none⟩ (y)).setCell ⟨r + 1, 2, none⟩ (z)).setCell ⟨r + 1, 3, none⟩ (u)).setCell ⟨r, 0, none⟩ (a)).setCell ⟨r, 1, none⟩ (b)).setCell ⟨r, 2, none⟩ (c)).setCell ⟨r, 3, none⟩ (d)).setCell ⟨r + 1, 0, none⟩ (x)).setCell ⟨r + 1, 1, none⟩ (y)).setCell ⟨r + 1, 2, none⟩ (z)).setCell ⟨r + 1, 3, none⟩ (u)).drew) r v n := by
  have far4 : ∀ {W : World} {g k : Nat} {cs : Array Value} (h : Has W g 46 cs) (hne : g ≠ k) (a b c d : Value), Has (((((W.setCell ⟨k, 0, none⟩ (a)).setCell ⟨k, 1, none⟩ (b)).setCell ⟨k, 2, none⟩ (c)).setCell ⟨k, 3, none⟩ (d))) g 46 cs :=
    fun h hne a b c d => (((h.far hne a).far hne b).far hne c).far hne d
  refine ⟨?_, ?_, ?_, ?_⟩
  · exact (far4 (Has.put4 (far4 h1 (by omega) x y z u) a b c d) (by omega) x y z u).drew
  · exact (Has.put4 (far4 (h2.put4 x y z u) (by omega) a b c d) x y z u).drew
  · exact (Below.four (Below.four (Below.four (Below.refl r w) (by omega) x y z u) (Nat.le_refl r) a b c d) (by omega) x y z u).drew
  · intro n v hn
    have e1 := hn.apart4 (hn.new (show r + 1 < r + 2 by omega)) x y z u
    have e2 := e1.apart4 (e1.new (show r < r + 2 by omega)) a b c d
    have e3 := e2.apart4 (e2.new (show r + 1 < r + 2 by omega)) x y z u
    exact (NatIs.mono e3 (by omega)).drew
/-- What parseTwo answers. -/
def P2 (B : Nat) (a b : List UInt8) (w' : World) (e : Ending) : Prop :=
  ∃ (s1 : Bool) (a1 : Option Addr) (n1 c1 : Nat) (g1 o1 t1 s2 : Bool) (a2 : Option Addr) (n2 c2 : Nat) (g2 o2 t2 : Bool),
    e = .returned (.tuple #[.agg #[.bool s1, .slice a1 n1 c1, .bool g1, .bool o1], .agg #[.bool s2, .slice a2 n2 c2, .bool g2, .bool o2], .int .i64 (if (t1 && t2) = true then 0 else 2)]) ∧
    PF B a w' s1 (.slice a1 n1 c1) g1 t1 ∧ PF B b w' s2 (.slice a2 n2 c2) g2 t2

set_option maxRecDepth 100000 in
set_option maxHeartbeats 4000000 in
theorem parseTwo_any (a b : ByteArray) (w : World) (ha : a.size ≤ 1000) (hb : b.size ≤ 1000) :
    Calls Tryd.prog 64 #[.string a, .string b] w fun e w' => P2 w.heap.size a.data.toList b.data.toList w' e ∧ Below w.heap.size w w' := by
  go_enter Tryd.func64, Tryd.ntmps64
  go_wp2_with fail
  obtain ⟨W0, hW0⟩ : ∃ W0, (w.alloc (.cells #[.bool false, .slice none 0 0, .bool false, .bool false] 46)).alloc (.cells #[.bool false, .slice none 0 0, .bool false, .bool false] 46) = W0 := ⟨_, rfl⟩
  rw [hW0]
  have hz0 : W0.heap.size = w.heap.size + 2 := by rw [← hW0]; simp
  have hX : Has W0 w.heap.size 46 #[.bool false, .slice none 0 0, .bool false, .bool false] := by rw [← hW0]; exact (Has.new w _ _).alloc _
  have hY : Has W0 (w.heap.size + 1) 46 #[.bool false, .slice none 0 0, .bool false, .bool false] := by rw [← hW0]; exact Has.new' (by simp) _ _
  have hBB : Below w.heap.size w W0 := by rw [← hW0]; exact ((Below.refl _ w).alloc (Nat.le_refl _) _).alloc (by simp) _
  clear hW0
  refine (parse_any a W0 ha).mono ?_
  rintro e w1 ⟨hp1, hb1⟩
  obtain ⟨s1, a1, n1, c1, g1, o1, t1, rfl, hf1⟩ := hp1.form
  have hz1 := hb1.size
  have hX1 := hX.below hb1
  have hY1 := hY.below hb1
  obtain ⟨q0, q1, q2, q3, q4, q5, q6, q7⟩ := hX1.four
  go_wp2_with fail
  have hX2 := hX1.put4 (.bool s1) (.slice a1 n1 c1) (.bool g1) (.bool o1)
  have hY2 : Has ((((w1.setCell ⟨w.heap.size, 0, none⟩ (.bool s1)).setCell ⟨w.heap.size, 1, none⟩ (.slice a1 n1 c1)).setCell ⟨w.heap.size, 2, none⟩ (.bool g1)).setCell ⟨w.heap.size, 3, none⟩ (.bool o1)) (w.heap.size + 1) 46 _ := (((hY1.far (by simp) _).far (by simp) _).far (by simp) _).far (by simp) _
  have hf2 : PF (w.heap.size + 2) a.data.toList ((((w1.setCell ⟨w.heap.size, 0, none⟩ (.bool s1)).setCell ⟨w.heap.size, 1, none⟩ (.slice a1 n1 c1)).setCell ⟨w.heap.size, 2, none⟩ (.bool g1)).setCell ⟨w.heap.size, 3, none⟩ (.bool o1)) s1 (.slice a1 n1 c1) g1 t1 :=
    hf1.stay (fun n hn => NatIs.mono (hn.apart4 (hn.new (by omega)) _ _ _ _) (by omega))
  have hB2 : Below w.heap.size w ((((w1.setCell ⟨w.heap.size, 0, none⟩ (.bool s1)).setCell ⟨w.heap.size, 1, none⟩ (.slice a1 n1 c1)).setCell ⟨w.heap.size, 2, none⟩ (.bool g1)).setCell ⟨w.heap.size, 3, none⟩ (.bool o1)) := Below.four (Below.behind hBB hb1) (Nat.le_refl _) _ _ _ _
  have hs2 : ((((w1.setCell ⟨w.heap.size, 0, none⟩ (.bool s1)).setCell ⟨w.heap.size, 1, none⟩ (.slice a1 n1 c1)).setCell ⟨w.heap.size, 2, none⟩ (.bool g1)).setCell ⟨w.heap.size, 3, none⟩ (.bool o1)).heap.size = w1.heap.size := by simp
  revert hX2 hY2 hf2 hB2 hs2
  generalize ((((w1.setCell ⟨w.heap.size, 0, none⟩ (.bool s1)).setCell ⟨w.heap.size, 1, none⟩ (.slice a1 n1 c1)).setCell ⟨w.heap.size, 2, none⟩ (.bool g1)).setCell ⟨w.heap.size, 3, none⟩ (.bool o1)) = W2
  intro hX2 hY2 hf2 hB2 hs2
  clear q0 q1 q2 q3 q4 q5 q6 q7 hX1 hY1 hX hY hf1 hp1
  refine (parse_any b W2 hb).mono ?_
  rintro e w3 ⟨hp3, hb3⟩
  obtain ⟨s2, a2, n2, c2, g2, o2, t2, rfl, hf3⟩ := hp3.form
  have hz3 := hb3.size
  have hX3 := hX2.below hb3
  have hY3 := hY2.below hb3
  obtain ⟨q0, q1, q2, q3, q4, q5, q6, q7⟩ := hX3.four
  obtain ⟨r0, r1, r2, r3, r4, r5, r6, r7⟩ := hY3.four
  have HF1 := Lib.hid (hf2.stay (w' := w3) (b := w.heap.size + 2) (fun n hn => hn.kept hb3))
  have HF2 := Lib.hid (hf3.stay (b := w.heap.size + 2) (fun n hn => NatIs.mono hn (by omega)))
  have HB3 := Lib.hid (Below.behind hB2 hb3)
  have HX3 := Lib.hid hX3
  have HY3 := Lib.hid hY3
  clear hf2 hf3 hp3 hX2 hY2 hX3 hY3 hB2
  cases t1 <;> cases t2
  all_goals
    go_wp2_with fail
    go_region
    have hfin := fin12 w.heap.size (.bool s1) (.slice a1 n1 c1) (.bool g1) (.bool o1) (.bool s2) (.slice a2 n2 c2) (.bool g2) (.bool o2) w3 HX3.out HY3.out
    have HFF := Lib.hid (fun l s v g t (h : PF (w.heap.size + 2) l w3 s v g t) => PF.stay (b := w.heap.size) h (fun n hn => hfin.2.2.2 n v hn))
    have HBF := Lib.hid (HB3.out.trans hfin.2.2.1)
    obtain ⟨x0, x1, x2, x3, -⟩ := hfin.1.four
    obtain ⟨y0, y1, y2, y3, -⟩ := hfin.2.1.four
    clear hfin q0 q1 q2 q3 q4 q5 q6 q7 r0 r1 r2 r3 r4 r5 r6 r7
    revert x0 x1 x2 x3 y0 y1 y2 y3 HFF HBF
    generalize ((((((((((((w3.setCell ⟨w.heap.size + 1, 0, none⟩ (.bool s2)).setCell ⟨w.heap.size + 1, 1, none⟩ (.slice a2 n2 c2)).setCell ⟨w.heap.size + 1, 2, none⟩ (.bool g2)).setCell ⟨w.heap.size + 1, 3, none⟩ (.bool o2)).setCell ⟨w.heap.size, 0, none⟩ (.bool s1)).setCell ⟨w.heap.size, 1, none⟩ (.slice a1 n1 c1)).setCell ⟨w.heap.size, 2, none⟩ (.bool g1)).setCell ⟨w.heap.size, 3, none⟩ (.bool o1)).setCell ⟨w.heap.size + 1, 0, none⟩ (.bool s2)).setCell ⟨w.heap.size + 1, 1, none⟩ (.slice a2 n2 c2)).setCell ⟨w.heap.size + 1, 2, none⟩ (.bool g2)).setCell ⟨w.heap.size + 1, 3, none⟩ (.bool o2)).drew = F
    intro HFF HBF x0 x1 x2 x3 y0 y1 y2 y3
    go_wp2
    refine bodyPost_ret (v := .tuple #[.agg #[.bool s1, .slice a1 n1 c1, .bool g1, .bool o1], .agg #[.bool s2, .slice a2 n2 c2, .bool g2, .bool o2], .int .i64 _]) (by simp [results, Tryd.results64, go_sem, x0, x1, x2, x3, y0, y1, y2, y3]; rfl) rfl ⟨⟨s1, a1, n1, c1, g1, o1, _, s2, a2, n2, c2, g2, o2, _, ?_, HFF.out _ _ _ _ _ HF1.out, HFF.out _ _ _ _ _ HF2.out⟩, HBF.out⟩
    rfl
end Go.Proofs.YtmnibfdenmeepaaDoor
