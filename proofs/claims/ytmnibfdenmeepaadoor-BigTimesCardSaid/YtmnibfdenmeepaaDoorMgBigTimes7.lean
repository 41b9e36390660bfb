/- The texts Num NumM Times NumT Two, one behind the other. -/
import Derived.Test.YtmnibfdenmeepaaDoorMgBigTimes6
import Derived.Deep.RegionHeld3
/- The sum, the opposite, the difference, the product of numbers. -/
namespace Go.Proofs.YtmnibfdenmeepaaDoor
open Go.RowKit Go.Shelf Big

/-- A value is a number of a sign and a size. -/
def NumIs (B : Nat) (s : Bool) (n : Nat) (w' : World) (e : Ending) : Prop := ∃ v, e = .returned (.agg #[.bool s, v, .bool false, .bool false]) ∧ NatIs w' B v n
theorem NatIs.apart {w : World} {B n b : Nat} {v : Value} (h : NatIs w B v n) (hb : ∀ g, v.ownBlock = some g → g ≠ b) (i : Nat) (u : Value) : NatIs (w.setCell ⟨b, i, none⟩ u) B v n :=
  World.ownsRow.kept h (grown_put (grownBy_refl w (some b)) i u) (by
    rcases hv : v.ownBlock with _ | g
    · exact .inl rfl
    · refine .inr ?_
      intro e
      cases e
      exact hb _ hv rfl)
theorem NatIs.apart4 {w : World} {B n b : Nat} {v : Value} (h : NatIs w B v n) (hb : ∀ g, v.ownBlock = some g → g ≠ b) (a c d e : Value) : NatIs ((((w.setCell ⟨b, 0, none⟩ a).setCell ⟨b, 1, none⟩ c).setCell ⟨b, 2, none⟩ d).setCell ⟨b, 3, none⟩ e) B v n :=
  (((h.apart hb 0 a).apart hb 1 c).apart hb 2 d).apart hb 3 e
theorem NatIs.old {w : World} {B n : Nat} {v : Value} (h : NatIs w B v n) {b : Nat} (hb : w.heap.size ≤ b) : ∀ g, v.ownBlock = some g → g ≠ b := fun g hg => by
  have := (World.ownsRow.lt h g hg).2
  omega
theorem NatIs.new {w : World} {B n : Nat} {v : Value} (h : NatIs w B v n) {b : Nat} (hb : b < B) : ∀ g, v.ownBlock = some g → g ≠ b := fun g hg => by
  have := (World.ownsRow.lt h g hg).1
  omega
theorem NatIs.alloc {w : World} {B n : Nat} {v : Value} (h : NatIs w B v n) (o : Obj) : NatIs (w.alloc o) B v n := World.ownsRow.alloc h o

set_option maxRecDepth 100000 in
set_option maxHeartbeats 1000000 in
theorem neg_any (B n : Nat) (v : Value) (s l o : Bool) (w : World) (h : NatIs w B v n) :
    Calls Tryd.prog 83 #[.agg #[.bool s, v, .bool l, .bool o]] w fun e w' => NumIs B (!s) n w' e ∧ Below w.heap.size w w' := by
  have hkeep : ∀ a b, NatIs ((w.alloc a).alloc b) B v n := fun a b => (h.alloc a).alloc b
  obtain ⟨av, cv, rfl⟩ := h.slice
  obtain ⟨lv, hlv⟩ : ∃ lv, (lims 4294967296 n).length = lv := ⟨_, rfl⟩
  rw [hlv] at hkeep ⊢
  have HK := Lib.hid hkeep
  clear h hlv hkeep
  go_enter Tryd.func83, Tryd.ntmps83
  go_wp2
  exact bodyPost_ret (v := .agg #[.bool (!s), .slice av lv cv, .bool false, .bool false]) (by simp [results, Tryd.results83, go_sem]) rfl ⟨⟨_, rfl, HK.out _ _⟩, ((Below.refl _ w).alloc (Nat.le_refl _) _).alloc (by simp) _⟩

theorem cell_keep {W W' : World} {a : Addr} {v : Value} (h : W.cell? a = some v) (hb : Below W.heap.size W W') : W'.cell? a = some v := (hb.cell (World.block_lt_of_cell? W _ h)).trans h
theorem free_keep {W W' : World} {b i : Nat} (h : W.frozen? ⟨b, i, none⟩ = false) (hl : b < W.heap.size) (hb : Below W.heap.size W W') : W'.frozen? ⟨b, i, none⟩ = false := (hb.frozen (p := ⟨b, i, none⟩) hl).trans h
/-- A number's block, whatever it holds. -/
def Box4 (w : World) (r : Nat) : Prop := ∃ a b c d, Has w r 46 #[a, b, c, d]
theorem Has.put4 {w : World} {r : Nat} {t : TypeId} {a b c d : Value} (h : Has w r t #[a, b, c, d]) (x y z u : Value) : Has ((((w.setCell ⟨r, 0, none⟩ x).setCell ⟨r, 1, none⟩ y).setCell ⟨r, 2, none⟩ z).setCell ⟨r, 3, none⟩ u) r t #[x, y, z, u] := by
  have put : ∀ {w : World} {cs : Array Value} (i : Nat) (v : Value), Has w r t cs → Has (w.setCell ⟨r, i, none⟩ v) r t (cs.setIfInBounds i v) := by
    intro w cs i v h
    have h' : w.heap[r]? = some (.cells cs t (0, 0)) := h
    show (w.setCell ⟨r, i, none⟩ v).heap[r]? = _
    simp [World.setCell, Array.getElem?_modify, h']
  exact put 3 u (put 2 z (put 1 y (put 0 x h)))
theorem Box4.four {w : World} {r : Nat} (h : Box4 w r) (x y z u : Value) : Box4 ((((w.setCell ⟨r, 0, none⟩ x).setCell ⟨r, 1, none⟩ y).setCell ⟨r, 2, none⟩ z).setCell ⟨r, 3, none⟩ u) r := by
  obtain ⟨a, b, c, d, h⟩ := h
  exact ⟨x, y, z, u, h.put4 x y z u⟩
theorem Box4.below {w w' : World} {r : Nat} (h : Box4 w r) (hb : Below w.heap.size w w') : Box4 w' r := by
  obtain ⟨a, b, c, d, h⟩ := h
  exact ⟨a, b, c, d, h.below hb⟩
theorem Box4.drew {w : World} {r : Nat} (h : Box4 w r) : Box4 w.drew r := h
/-- What a region that ends in a store of a number holds: the cells below b, and the block r itself. -/
structure Mid (b r : Nat) (W0 w' : World) : Prop where
  bel : Below b W0 w'
  box : Box4 w' r
  le : b ≤ r ∧ r < W0.heap.size
theorem Mid.drew {b r : Nat} {W0 w' : World} (h : Mid b r W0 w') : Mid b r W0 w'.drew := ⟨h.bel.drew, h.box, h.le⟩
theorem Mid.next {b r : Nat} {W0 W w' : World} (h : Mid b r W0 W) (hb : Below W.heap.size W w') : Mid b r W0 w' := ⟨h.bel.trans (hb.mono (by have := h.bel.size; have := h.le; omega)), h.box.below hb, h.le⟩
theorem Mid.four {b r : Nat} {W0 w' : World} (h : Mid b r W0 w') (x y z u : Value) : Mid b r W0 ((((w'.setCell ⟨r, 0, none⟩ x).setCell ⟨r, 1, none⟩ y).setCell ⟨r, 2, none⟩ z).setCell ⟨r, 3, none⟩ u) := ⟨Below.four h.bel h.le.1 x y z u, h.box.four x y z u, h.le⟩
theorem Mid.cell {b r : Nat} {W0 w' : World} (h : Mid b r W0 w') {g i : Nat} {v : Value} (hg : g < b) (hc : W0.cell? ⟨g, i, none⟩ = some v) : w'.cell? ⟨g, i, none⟩ = some v := (h.bel.cell (p := ⟨g, i, none⟩) hg).trans hc
theorem NatIs.stay {w w' : World} {B n b : Nat} {v : Value} (h : NatIs w B v n) (hb : Below b w w') (hlt : ∀ g, v.ownBlock = some g → g < b) : NatIs w' B v n := by
  refine ⟨h.1, ?_⟩
  rcases h.2 with hn | ⟨g, cap, cur, rfl, h1, hg, h3⟩
  · exact .inl hn
  · exact .inr ⟨g, cap, cur, rfl, h1, (hb.block g (hlt g rfl)).trans hg, h3⟩
theorem NatIs.lt {w : World} {B n : Nat} {v : Value} (h : NatIs w B v n) : ∀ g, v.ownBlock = some g → g < w.heap.size := fun g hg => (World.ownsRow.lt h g hg).2
theorem Below.behind {w W W' : World} (hB : Below w.heap.size w W) (hb : Below W.heap.size W W') : Below w.heap.size w W' := hB.trans (hb.mono hB.size)

theorem mid_keep {b r : Nat} {W0 : World} {P : World → Prop} {Q R : World → Prop} (h : ∀ W, Mid b r W0 W → P W ∧ Q W ∧ R W) {W : World} (hM : Mid b r W0 W) : P W ∧ Q W ∧ R W ∧ Mid b r W0 W := by
  obtain ⟨a, b, c⟩ := h W hM
  exact ⟨a, b, c, hM⟩
theorem sg_same (s : Bool) (m k : Nat) : sgI s (m + k) = sgI s m + sgI s k := by unfold sgI; cases s <;> simp <;> omega
theorem sg_left {s t : Bool} (h : ¬ s = t) {m k : Nat} (hk : k ≤ m) : sgI s (m - k) = sgI s m + sgI t k := by unfold sgI; cases s <;> cases t <;> simp at h ⊢ <;> omega
theorem sg_right {s t : Bool} (h : ¬ s = t) {m k : Nat} (hk : m ≤ k) : sgI t (k - m) = sgI s m + sgI t k := by unfold sgI; cases s <;> cases t <;> simp at h ⊢ <;> omega
set_option maxRecDepth 100000 in
set_option maxHeartbeats 1000000 in
theorem numPlus_any (B1 B2 m k : Nat) (va vb : Value) (s t l1 o1 l2 o2 : Bool) (w : World) (ha : NatIs w B1 va m) (hb : NatIs w B2 vb k) (hla : (lims 4294967296 m).length ≤ 100000) (hlb : (lims 4294967296 k).length ≤ 100000) :
    Calls Tryd.prog 59 #[.agg #[.bool s, va, .bool l1, .bool o1], .agg #[.bool t, vb, .bool l2, .bool o2]] w fun e w' => (∃ r n, NumIs w.heap.size r n w' e ∧ sgI r n = sgI s m + sgI t k) ∧ Below w.heap.size w w' := by
  have HA := Lib.hid ha
  have HB := Lib.hid hb
  obtain ⟨av, ca, rfl⟩ := ha.slice
  obtain ⟨bv, cb, rfl⟩ := hb.slice
  obtain ⟨lv, hlv⟩ : ∃ lv, (lims 4294967296 m).length = lv := ⟨_, rfl⟩
  obtain ⟨lu, hlu⟩ : ∃ lu, (lims 4294967296 k).length = lu := ⟨_, rfl⟩
  rw [hlv] at HA hla ⊢
  rw [hlu] at HB hlb ⊢
  have HLV := Lib.hid hlv
  have HLU := Lib.hid hlu
  clear ha hb hlv hlu
  by_cases hst : s = t
  · subst hst
    go_enter Tryd.func59, Tryd.ntmps59
    go_wp2_with fail
    obtain ⟨W0, hW0⟩ : ∃ W0, ((w.alloc (.cells #[.bool s, .slice av lv ca, .bool l1, .bool o1] 46)).alloc (.cells #[.bool s, .slice bv lu cb, .bool l2, .bool o2] 46)).alloc (.cells #[.bool false, .slice none 0 0, .bool false, .bool false] 46) = W0 := ⟨_, rfl⟩
    rw [hW0]
    have hz0 : W0.heap.size = w.heap.size + 3 := by rw [← hW0]; simp
    have hA0 : NatIs W0 B1 (.slice av lv ca) m := by rw [← hW0]; exact ((HA.out.alloc _).alloc _).alloc _
    have hB0 : NatIs W0 B2 (.slice bv lu cb) k := by rw [← hW0]; exact ((HB.out.alloc _).alloc _).alloc _
    have hX : Has (((w.alloc (.cells #[.bool s, .slice av lv ca, .bool l1, .bool o1] 46)).alloc (.cells #[.bool s, .slice bv lu cb, .bool l2, .bool o2] 46)).alloc (.cells #[.bool false, .slice none 0 0, .bool false, .bool false] 46)) w.heap.size 46 #[.bool s, .slice av lv ca, .bool l1, .bool o1] := ((Has.new w _ _).alloc _).alloc _
    have hY : Has (((w.alloc (.cells #[.bool s, .slice av lv ca, .bool l1, .bool o1] 46)).alloc (.cells #[.bool s, .slice bv lu cb, .bool l2, .bool o2] 46)).alloc (.cells #[.bool false, .slice none 0 0, .bool false, .bool false] 46)) (w.heap.size + 1) 46 #[.bool s, .slice bv lu cb, .bool l2, .bool o2] := (Has.new' (n := w.heap.size + 1) (by simp) _ _).alloc _
    have hZ : Has (((w.alloc (.cells #[.bool s, .slice av lv ca, .bool l1, .bool o1] 46)).alloc (.cells #[.bool s, .slice bv lu cb, .bool l2, .bool o2] 46)).alloc (.cells #[.bool false, .slice none 0 0, .bool false, .bool false] 46)) (w.heap.size + 1 + 1) 46 #[.bool false, .slice none 0 0, .bool false, .bool false] := Has.new' (by simp) _ _
    have hBB : Below w.heap.size w W0 := by rw [← hW0]; exact (((Below.refl _ w).alloc (Nat.le_refl _) _).alloc (by simp) _).alloc (by simp; omega) _
    rw [hW0] at hX hY hZ
    clear hW0
    obtain ⟨x0, x1, -⟩ := hX.four
    obtain ⟨y0, y1, -⟩ := hY.four
    have hM : Mid (w.heap.size + 1 + 1) (w.heap.size + 1 + 1) W0 W0 := ⟨Below.refl _ _, ⟨_, _, _, _, hZ⟩, by omega⟩
    have hA1 := fun W (h : Mid (w.heap.size + 1 + 1) (w.heap.size + 1 + 1) W0 W) => hA0.stay h.bel (fun g hg => by have := HA.out.lt g hg; omega)
    have hB1 := fun W (h : Mid (w.heap.size + 1 + 1) (w.heap.size + 1 + 1) W0 W) => hB0.stay h.bel (fun g hg => by have := HB.out.lt g hg; omega)
    have HA1 := Lib.hid hA1
    have HB1 := Lib.hid hB1
    have HM := Lib.hid (fun W (h : Mid (w.heap.size + 1 + 1) (w.heap.size + 1 + 1) W0 W) => And.intro (h.cell (by omega) x0) (And.intro (h.cell (by omega) x1) (h.cell (by omega) y1)))
    clear hA1 hB1 hZ hA0 hB0 hX hY
    go_region_held3 (fun w' => w'.cell? ⟨w.heap.size, 0, none⟩ = some (.bool s) ∧ w'.cell? ⟨w.heap.size, 1, none⟩ = some (.slice av lv ca) ∧ w'.cell? ⟨w.heap.size + 1, 1, none⟩ = some (.slice bv lu cb) ∧ Mid (w.heap.size + 1 + 1) (w.heap.size + 1 + 1) W0 w')
      ((go_split_ands; exact mid_keep HM.out (by first | assumption | (with_reducible exact Mid.drew (by assumption)) | (with_reducible exact Mid.four (by assumption) _ _ _ _) | (with_reducible exact Mid.next (by assumption) (by assumption)))))
      ((go_split_ands; go_at_call 107; refine (plus_any B1 B2 m k _ _ _ (HA1.out _ (by assumption)) (HB1.out _ (by assumption)) (by rw [HLV.out]; exact hla) (by rw [HLU.out]; exact hlb)).mono ?_; rintro e w3 ⟨⟨v, rfl, hn⟩, hb'⟩; obtain ⟨v9, c9, rfl⟩ := hn.slice; have hM3 := Mid.next (by assumption) hb'; obtain ⟨p0, p1, p2, p3, hbx⟩ := hM3.box; obtain ⟨q0, q1, q2, q3, q4, q5, q6, q7⟩ := hbx.four))
    go_wp2
    refine bodyPost_ret (v := .agg #[.bool s, .slice v9 _ c9, .bool false, .bool false]) (by simp [results, Tryd.results59, go_sem, World.cell?_setCell_same', q0, q1, q2, q3]) rfl ⟨⟨_, m + k, ⟨_, rfl, NatIs.mono (hn.apart4 (hn.new (by show _ < W0.heap.size; omega)) _ _ _ _) (by show _ ≤ W0.heap.size; omega)⟩, sg_same s m k⟩, hBB.trans ((hM3.four _ _ _ _).bel.mono (by omega))⟩
  · have hstE : (s == t) = false := by simpa using hst
    have hcmp := fun W (h1 : NatIs W B1 (.slice av lv ca) m) (h2 : NatIs W B2 (.slice bv lu cb) k) => compare_any B1 B2 m k _ _ W h1 h2 (by rw [HLV.out]; exact hla) (by rw [HLU.out]; exact hlb)
    have hc : (k ≤ m ∧ cmp m k ≥ 0) ∨ (m < k ∧ cmp m k < 0) := by
      unfold cmp
      split
      · right; omega
      · left; refine ⟨by omega, ?_⟩; split <;> omega
    have HCM := Lib.hid hcmp
    clear hcmp
    obtain ⟨C, hC⟩ : ∃ C, cmp m k = C := ⟨_, rfl⟩
    rw [hC] at hc HCM
    clear hC
    have HST := Lib.hid hst
    clear hst
    rcases hc with ⟨hkm, hCs⟩ | ⟨hkm, hCs⟩
    · go_enter Tryd.func59, Tryd.ntmps59
      go_wp2_with fail
      obtain ⟨W00, hW00⟩ : ∃ W00, ((w.alloc (.cells #[.bool s, .slice av lv ca, .bool l1, .bool o1] 46)).alloc (.cells #[.bool t, .slice bv lu cb, .bool l2, .bool o2] 46)).alloc (.cells #[.bool false, .slice none 0 0, .bool false, .bool false] 46) = W00 := ⟨_, rfl⟩
      rw [hW00]
      have hz00 : W00.heap.size = w.heap.size + 3 := by rw [← hW00]; simp
      have hA00 : NatIs W00 B1 (.slice av lv ca) m := by rw [← hW00]; exact ((HA.out.alloc _).alloc _).alloc _
      have hB00 : NatIs W00 B2 (.slice bv lu cb) k := by rw [← hW00]; exact ((HB.out.alloc _).alloc _).alloc _
      have hX0 : Has (((w.alloc (.cells #[.bool s, .slice av lv ca, .bool l1, .bool o1] 46)).alloc (.cells #[.bool t, .slice bv lu cb, .bool l2, .bool o2] 46)).alloc (.cells #[.bool false, .slice none 0 0, .bool false, .bool false] 46)) w.heap.size 46 #[.bool s, .slice av lv ca, .bool l1, .bool o1] := ((Has.new w _ _).alloc _).alloc _
      have hY0 : Has (((w.alloc (.cells #[.bool s, .slice av lv ca, .bool l1, .bool o1] 46)).alloc (.cells #[.bool t, .slice bv lu cb, .bool l2, .bool o2] 46)).alloc (.cells #[.bool false, .slice none 0 0, .bool false, .bool false] 46)) (w.heap.size + 1) 46 #[.bool t, .slice bv lu cb, .bool l2, .bool o2] := (Has.new' (n := w.heap.size + 1) (by simp) _ _).alloc _
      have hZ0 : Has (((w.alloc (.cells #[.bool s, .slice av lv ca, .bool l1, .bool o1] 46)).alloc (.cells #[.bool t, .slice bv lu cb, .bool l2, .bool o2] 46)).alloc (.cells #[.bool false, .slice none 0 0, .bool false, .bool false] 46)) (w.heap.size + 1 + 1) 46 #[.bool false, .slice none 0 0, .bool false, .bool false] := Has.new' (by simp) _ _
      have hBB0 : Below w.heap.size w W00 := by rw [← hW00]; exact (((Below.refl _ w).alloc (Nat.le_refl _) _).alloc (by simp) _).alloc (by simp; omega) _
      rw [hW00] at hX0 hY0 hZ0
      clear hW00
      refine (HCM.out W00 hA00 hB00).mono ?_
      rintro e W0 ⟨rfl, hb1⟩
      have hz1 := hb1.size
      have hz0 : w.heap.size + 3 ≤ W0.heap.size := by omega
      have hA0 := hA00.kept hb1
      have hB0 := hB00.kept hb1
      have hX := hX0.below hb1
      have hY := hY0.below hb1
      have hZ := hZ0.below hb1
      have hBB := Below.behind hBB0 hb1
      clear hA00 hB00 hX0 hY0 hZ0 hz1 hz00 hb1
      obtain ⟨x0, x1, -⟩ := hX.four
      obtain ⟨y0, y1, -⟩ := hY.four
      have hM : Mid (w.heap.size + 1 + 1) (w.heap.size + 1 + 1) W0 W0 := ⟨Below.refl _ _, ⟨_, _, _, _, hZ⟩, by omega⟩
      have hA1 := fun W (h : Mid (w.heap.size + 1 + 1) (w.heap.size + 1 + 1) W0 W) => hA0.stay h.bel (fun g hg => by have := HA.out.lt g hg; omega)
      have hB1 := fun W (h : Mid (w.heap.size + 1 + 1) (w.heap.size + 1 + 1) W0 W) => hB0.stay h.bel (fun g hg => by have := HB.out.lt g hg; omega)
      have HA1 := Lib.hid hA1
      have HB1 := Lib.hid hB1
      have HM := Lib.hid (fun W (h : Mid (w.heap.size + 1 + 1) (w.heap.size + 1 + 1) W0 W) => And.intro (h.cell (by omega) x0) (And.intro (h.cell (by omega) x1) (h.cell (by omega) y1)))
      clear hA1 hB1 hZ hA0 hB0 hX hY
      go_wp2_with fail
      go_region_held3 (fun w' => w'.cell? ⟨w.heap.size, 0, none⟩ = some (.bool s) ∧ w'.cell? ⟨w.heap.size, 1, none⟩ = some (.slice av lv ca) ∧ w'.cell? ⟨w.heap.size + 1, 1, none⟩ = some (.slice bv lu cb) ∧ Mid (w.heap.size + 1 + 1) (w.heap.size + 1 + 1) W0 w')
        ((go_split_ands; exact mid_keep HM.out (by first | assumption | (with_reducible exact Mid.drew (by assumption)) | (with_reducible exact Mid.four (by assumption) _ _ _ _) | (with_reducible exact Mid.next (by assumption) (by assumption)))))
        ((go_split_ands; go_at_call 108; refine (minus_any B1 B2 m k _ _ _ (HA1.out _ (by assumption)) (HB1.out _ (by assumption)) (by rw [HLV.out]; exact hla) hkm).mono ?_; rintro e w3 ⟨⟨v, rfl, hn⟩, hb'⟩; obtain ⟨v9, c9, rfl⟩ := hn.slice; have hM3 := Mid.next (by assumption) hb'; obtain ⟨p0, p1, p2, p3, hbx⟩ := hM3.box; obtain ⟨q0, q1, q2, q3, q4, q5, q6, q7⟩ := hbx.four))
      go_wp2
      exact bodyPost_ret (v := .agg #[.bool s, .slice v9 _ c9, .bool false, .bool false]) (by simp [results, Tryd.results59, go_sem, World.cell?_setCell_same', q0, q1, q2, q3]) rfl ⟨⟨_, m - k, ⟨_, rfl, NatIs.mono (hn.apart4 (hn.new (by show _ < W0.heap.size; omega)) _ _ _ _) (by show _ ≤ W0.heap.size; omega)⟩, sg_left HST.out hkm⟩, hBB.trans ((hM3.four _ _ _ _).bel.mono (by omega))⟩
    · go_enter Tryd.func59, Tryd.ntmps59
      go_wp2_with fail
      obtain ⟨W00, hW00⟩ : ∃ W00, ((w.alloc (.cells #[.bool s, .slice av lv ca, .bool l1, .bool o1] 46)).alloc (.cells #[.bool t, .slice bv lu cb, .bool l2, .bool o2] 46)).alloc (.cells #[.bool false, .slice none 0 0, .bool false, .bool false] 46) = W00 := ⟨_, rfl⟩
      rw [hW00]
      have hz00 : W00.heap.size = w.heap.size + 3 := by rw [← hW00]; simp
      have hA00 : NatIs W00 B1 (.slice av lv ca) m := by rw [← hW00]; exact ((HA.out.alloc _).alloc _).alloc _
      have hB00 : NatIs W00 B2 (.slice bv lu cb) k := by rw [← hW00]; exact ((HB.out.alloc _).alloc _).alloc _
      have hX0 : Has (((w.alloc (.cells #[.bool s, .slice av lv ca, .bool l1, .bool o1] 46)).alloc (.cells #[.bool t, .slice bv lu cb, .bool l2, .bool o2] 46)).alloc (.cells #[.bool false, .slice none 0 0, .bool false, .bool false] 46)) w.heap.size 46 #[.bool s, .slice av lv ca, .bool l1, .bool o1] := ((Has.new w _ _).alloc _).alloc _
      have hY0 : Has (((w.alloc (.cells #[.bool s, .slice av lv ca, .bool l1, .bool o1] 46)).alloc (.cells #[.bool t, .slice bv lu cb, .bool l2, .bool o2] 46)).alloc (.cells #[.bool false, .slice none 0 0, .bool false, .bool false] 46)) (w.heap.size + 1) 46 #[.bool t, .slice bv lu cb, .bool l2, .bool o2] := (Has.new' (n := w.heap.size + 1) (by simp) _ _).alloc _
      have hZ0 : Has (((w.alloc (.cells #[.bool s, .slice av lv ca, .bool l1, .bool o1] 46)).alloc (.cells #[.bool t, .slice bv lu cb, .bool l2, .bool o2] 46)).alloc (.cells #[.bool false, .slice none 0 0, .bool false, .bool false] 46)) (w.heap.size + 1 + 1) 46 #[.bool false, .slice none 0 0, .bool false, .bool false] := Has.new' (by simp) _ _
      have hBB0 : Below w.heap.size w W00 := by rw [← hW00]; exact (((Below.refl _ w).alloc (Nat.le_refl _) _).alloc (by simp) _).alloc (by simp; omega) _
      rw [hW00] at hX0 hY0 hZ0
      clear hW00
      refine (HCM.out W00 hA00 hB00).mono ?_
      rintro e W0 ⟨rfl, hb1⟩
      have hz1 := hb1.size
      have hz0 : w.heap.size + 3 ≤ W0.heap.size := by omega
      have hA0 := hA00.kept hb1
      have hB0 := hB00.kept hb1
      have hX := hX0.below hb1
      have hY := hY0.below hb1
      have hZ := hZ0.below hb1
      have hBB := Below.behind hBB0 hb1
      clear hA00 hB00 hX0 hY0 hZ0 hz1 hz00 hb1
      obtain ⟨x0, x1, -⟩ := hX.four
      obtain ⟨y0, y1, -⟩ := hY.four
      have hM : Mid (w.heap.size + 1 + 1) (w.heap.size + 1 + 1) W0 W0 := ⟨Below.refl _ _, ⟨_, _, _, _, hZ⟩, by omega⟩
      have hA1 := fun W (h : Mid (w.heap.size + 1 + 1) (w.heap.size + 1 + 1) W0 W) => hA0.stay h.bel (fun g hg => by have := HA.out.lt g hg; omega)
      have hB1 := fun W (h : Mid (w.heap.size + 1 + 1) (w.heap.size + 1 + 1) W0 W) => hB0.stay h.bel (fun g hg => by have := HB.out.lt g hg; omega)
      have HA1 := Lib.hid hA1
      have HB1 := Lib.hid hB1
      have HM := Lib.hid (fun W (h : Mid (w.heap.size + 1 + 1) (w.heap.size + 1 + 1) W0 W) => And.intro (h.cell (by omega) y0) (And.intro (h.cell (by omega) x1) (h.cell (by omega) y1)))
      clear hA1 hB1 hZ hA0 hB0 hX hY
      go_wp2_with fail
      go_region_held3 (fun w' => w'.cell? ⟨w.heap.size + 1, 0, none⟩ = some (.bool t) ∧ w'.cell? ⟨w.heap.size, 1, none⟩ = some (.slice av lv ca) ∧ w'.cell? ⟨w.heap.size + 1, 1, none⟩ = some (.slice bv lu cb) ∧ Mid (w.heap.size + 1 + 1) (w.heap.size + 1 + 1) W0 w')
        ((go_split_ands; exact mid_keep HM.out (by first | assumption | (with_reducible exact Mid.drew (by assumption)) | (with_reducible exact Mid.four (by assumption) _ _ _ _) | (with_reducible exact Mid.next (by assumption) (by assumption)))))
        ((go_split_ands; go_at_call 108; refine (minus_any B2 B1 k m _ _ _ (HB1.out _ (by assumption)) (HA1.out _ (by assumption)) (by rw [HLU.out]; exact hlb) (Nat.le_of_lt hkm)).mono ?_; rintro e w3 ⟨⟨v, rfl, hn⟩, hb'⟩; obtain ⟨v9, c9, rfl⟩ := hn.slice; have hM3 := Mid.next (by assumption) hb'; obtain ⟨p0, p1, p2, p3, hbx⟩ := hM3.box; obtain ⟨q0, q1, q2, q3, q4, q5, q6, q7⟩ := hbx.four))
      go_wp2
      exact bodyPost_ret (v := .agg #[.bool t, .slice v9 _ c9, .bool false, .bool false]) (by simp [results, Tryd.results59, go_sem, World.cell?_setCell_same', q0, q1, q2, q3]) rfl ⟨⟨_, k - m, ⟨_, rfl, NatIs.mono (hn.apart4 (hn.new (by show _ < W0.heap.size; omega)) _ _ _ _) (by show _ ≤ W0.heap.size; omega)⟩, sg_right HST.out (Nat.le_of_lt hkm)⟩, hBB.trans ((hM3.four _ _ _ _).bel.mono (by omega))⟩
end Go.Proofs.YtmnibfdenmeepaaDoor
/- The difference of numbers. -/
namespace Go.Proofs.YtmnibfdenmeepaaDoor
open Go.RowKit Go.Shelf Big

theorem sg_neg (t : Bool) (k : Nat) : sgI (!t) k = -sgI t k := by unfold sgI; cases t <;> simp

set_option maxRecDepth 100000 in
set_option maxHeartbeats 1000000 in
theorem numMinus_any (B1 B2 m k : Nat) (va vb : Value) (s t l1 o1 l2 o2 : Bool) (w : World) (ha : NatIs w B1 va m) (hb : NatIs w B2 vb k) (hla : (lims 4294967296 m).length ≤ 100000) (hlb : (lims 4294967296 k).length ≤ 100000) :
    Calls Tryd.prog 62 #[.agg #[.bool s, va, .bool l1, .bool o1], .agg #[.bool t, vb, .bool l2, .bool o2]] w fun e w' => (∃ r n, NumIs w.heap.size r n w' e ∧ sgI r n = sgI s m - sgI t k) ∧ Below w.heap.size w w' := by
  have HA := Lib.hid ha
  have HB := Lib.hid hb
  obtain ⟨av, ca, rfl⟩ := ha.slice
  obtain ⟨bv, cb, rfl⟩ := hb.slice
  obtain ⟨lv, hlv⟩ : ∃ lv, (lims 4294967296 m).length = lv := ⟨_, rfl⟩
  obtain ⟨lu, hlu⟩ : ∃ lu, (lims 4294967296 k).length = lu := ⟨_, rfl⟩
  rw [hlv] at HA hla ⊢
  rw [hlu] at HB hlb ⊢
  have HLV := Lib.hid hlv
  have HLU := Lib.hid hlu
  clear ha hb hlv hlu
  go_enter Tryd.func62, Tryd.ntmps62
  go_wp2_with fail
  obtain ⟨W0, hW0⟩ : ∃ W0, ((w.alloc (.cells #[.bool s, .slice av lv ca, .bool l1, .bool o1] 46)).alloc (.cells #[.bool t, .slice bv lu cb, .bool l2, .bool o2] 46)).alloc (.cells #[.bool false, .slice none 0 0, .bool false, .bool false] 46) = W0 := ⟨_, rfl⟩
  rw [hW0]
  have hz0 : W0.heap.size = w.heap.size + 3 := by rw [← hW0]; simp
  have hA0 : NatIs W0 B1 (.slice av lv ca) m := by rw [← hW0]; exact ((HA.out.alloc _).alloc _).alloc _
  have hB0 : NatIs W0 B2 (.slice bv lu cb) k := by rw [← hW0]; exact ((HB.out.alloc _).alloc _).alloc _
  have hX : Has (((w.alloc (.cells #[.bool s, .slice av lv ca, .bool l1, .bool o1] 46)).alloc (.cells #[.bool t, .slice bv lu cb, .bool l2, .bool o2] 46)).alloc (.cells #[.bool false, .slice none 0 0, .bool false, .bool false] 46)) w.heap.size 46 #[.bool s, .slice av lv ca, .bool l1, .bool o1] := ((Has.new w _ _).alloc _).alloc _
  have hY : Has (((w.alloc (.cells #[.bool s, .slice av lv ca, .bool l1, .bool o1] 46)).alloc (.cells #[.bool t, .slice bv lu cb, .bool l2, .bool o2] 46)).alloc (.cells #[.bool false, .slice none 0 0, .bool false, .bool false] 46)) (w.heap.size + 1) 46 #[.bool t, .slice bv lu cb, .bool l2, .bool o2] := (Has.new' (n := w.heap.size + 1) (by simp) _ _).alloc _
  have hZ : Has (((w.alloc (.cells #[.bool s, .slice av lv ca, .bool l1, .bool o1] 46)).alloc (.cells #[.bool t, .slice bv lu cb, .bool l2, .bool o2] 46)).alloc (.cells #[.bool false, .slice none 0 0, .bool false, .bool false] 46)) (w.heap.size + 1 + 1) 46 #[.bool false, .slice none 0 0, .bool false, .bool false] := Has.new' (by simp) _ _
  have hBB : Below w.heap.size w W0 := by rw [← hW0]; exact (((Below.refl _ w).alloc (Nat.le_refl _) _).alloc (by simp) _).alloc (by simp; omega) _
  rw [hW0] at hX hY hZ
  clear hW0
  obtain ⟨x0, x1, x2, x3, -⟩ := hX.four
  obtain ⟨y0, y1, y2, y3, -⟩ := hY.four
  have hM : Mid (w.heap.size + 1 + 1) (w.heap.size + 1 + 1) W0 W0 := ⟨Below.refl _ _, ⟨_, _, _, _, hZ⟩, by omega⟩
  have hA1 := fun W (h : Mid (w.heap.size + 1 + 1) (w.heap.size + 1 + 1) W0 W) => hA0.stay h.bel (fun g hg => by have := HA.out.lt g hg; omega)
  have hB1 := fun W (h : Mid (w.heap.size + 1 + 1) (w.heap.size + 1 + 1) W0 W) => hB0.stay h.bel (fun g hg => by have := HB.out.lt g hg; omega)
  have HA1 := Lib.hid hA1
  have HB1 := Lib.hid hB1
  have HM : Hid (∀ w', Mid (w.heap.size + 1 + 1) (w.heap.size + 1 + 1) W0 w' → w'.cell? ⟨w.heap.size, 0, none⟩ = some (.bool s) ∧ w'.cell? ⟨w.heap.size, 1, none⟩ = some (.slice av lv ca) ∧ w'.cell? ⟨w.heap.size, 2, none⟩ = some (.bool l1) ∧ w'.cell? ⟨w.heap.size, 3, none⟩ = some (.bool o1) ∧ w'.cell? ⟨w.heap.size + 1, 0, none⟩ = some (.bool t) ∧ w'.cell? ⟨w.heap.size + 1, 1, none⟩ = some (.slice bv lu cb) ∧ w'.cell? ⟨w.heap.size + 1, 2, none⟩ = some (.bool l2) ∧ w'.cell? ⟨w.heap.size + 1, 3, none⟩ = some (.bool o2) ∧ Mid (w.heap.size + 1 + 1) (w.heap.size + 1 + 1) W0 w') := Lib.hid (fun w' h => ⟨h.cell (by omega) x0, h.cell (by omega) x1, h.cell (by omega) x2, h.cell (by omega) x3, h.cell (by omega) y0, h.cell (by omega) y1, h.cell (by omega) y2, h.cell (by omega) y3, h⟩)
  clear hA1 hB1 hZ hA0 hB0 hX hY
  go_region_held3 (fun w' => w'.cell? ⟨w.heap.size, 0, none⟩ = some (.bool s) ∧ w'.cell? ⟨w.heap.size, 1, none⟩ = some (.slice av lv ca) ∧ w'.cell? ⟨w.heap.size, 2, none⟩ = some (.bool l1) ∧ w'.cell? ⟨w.heap.size, 3, none⟩ = some (.bool o1) ∧ w'.cell? ⟨w.heap.size + 1, 0, none⟩ = some (.bool t) ∧ w'.cell? ⟨w.heap.size + 1, 1, none⟩ = some (.slice bv lu cb) ∧ w'.cell? ⟨w.heap.size + 1, 2, none⟩ = some (.bool l2) ∧ w'.cell? ⟨w.heap.size + 1, 3, none⟩ = some (.bool o2) ∧ Mid (w.heap.size + 1 + 1) (w.heap.size + 1 + 1) W0 w')
    ((go_split_ands; exact HM.out _ (by first | assumption | (with_reducible exact Mid.drew (by assumption)) | (with_reducible exact Mid.four (by assumption) _ _ _ _) | (with_reducible exact Mid.next (by assumption) (by assumption)))))
    ((go_split_ands; first
      | (go_at_call 83; refine (neg_any B2 k _ _ _ _ _ (HB1.out _ (by assumption))).mono ?_; rintro e w2 ⟨⟨u, rfl, hnu⟩, hb2⟩; obtain ⟨u9, d9, rfl⟩ := hnu.slice; have hM2 := Mid.next (by assumption) hb2)
      | (go_at_call 59; refine (numPlus_any B1 B2 m k _ _ _ _ _ _ _ _ _ (HA1.out _ (by assumption)) (by first | assumption | exact hnu) (by rw [HLV.out]; exact hla) (by rw [HLU.out]; exact hlb)).mono ?_; rintro e w3 ⟨⟨r, n, ⟨v, rfl, hn⟩, hsg⟩, hb'⟩; obtain ⟨v9, c9, rfl⟩ := hn.slice; have hM3 := Mid.next (by assumption) hb'; obtain ⟨p0, p1, p2, p3, hbx⟩ := hM3.box; obtain ⟨q0, q1, q2, q3, q4, q5, q6, q7⟩ := hbx.four)))
  go_wp2
  exact bodyPost_ret (v := .agg #[.bool r, .slice v9 _ c9, .bool false, .bool false]) (by simp [results, Tryd.results62, go_sem, World.cell?_setCell_same', q0, q1, q2, q3]) rfl ⟨⟨_, n, ⟨_, rfl, NatIs.mono (hn.apart4 (hn.new (by have := hM2.bel.size; omega)) _ _ _ _) (by have := hM2.bel.size; omega)⟩, by rw [hsg, sg_neg]; omega⟩, hBB.trans ((hM3.four _ _ _ _).bel.mono (by omega))⟩
end Go.Proofs.YtmnibfdenmeepaaDoor
/- The product of two numbers in words. -/
namespace Go.Proofs.YtmnibfdenmeepaaDoor
open Go.RowKit Go.Shelf Big

theorem tm_step (od db : List Nat) (i j x y o c X _k0 : Nat) (hp : i + j < od.length) (hy : db.getD j 0 = y) (ho : od.getD (i + j) 0 = o)
    (he : ev 4294967296 od + 4294967296 ^ (i + j) * c = X + x * ev 4294967296 (db.take j) * 4294967296 ^ i) :
    ev 4294967296 (od.set (i + j) ((x * y + o + c) % 4294967296)) + 4294967296 ^ (i + (j + 1)) * ((x * y + o + c) / 4294967296) = X + x * ev 4294967296 (db.take (j + 1)) * 4294967296 ^ i := by
  have h1 := ev_set 4294967296 od (i + j) ((x * y + o + c) % 4294967296) hp
  rw [ho] at h1
  have h2 := Nat.mod_add_div (x * y + o + c) 4294967296
  have h3 : 4294967296 ^ (i + j) * ((x * y + o + c) % 4294967296) + 4294967296 ^ (i + (j + 1)) * ((x * y + o + c) / 4294967296) = 4294967296 ^ (i + j) * (x * y) + 4294967296 ^ (i + j) * o + 4294967296 ^ (i + j) * c := by
    rw [← Nat.add_assoc i j 1, Nat.pow_succ, Nat.mul_assoc, ← Nat.mul_add, h2, Nat.mul_add, Nat.mul_add]
  have h4 : x * ev 4294967296 (db.take (j + 1)) * 4294967296 ^ i = x * ev 4294967296 (db.take j) * 4294967296 ^ i + 4294967296 ^ (i + j) * (x * y) := by
    rw [ev_take_succ, hy, Nat.mul_add, Nat.add_mul]
    congr 1
    rw [Nat.pow_add, Nat.mul_left_comm x, Nat.mul_comm _ (4294967296 ^ i), Nat.mul_assoc]
  rw [h4]
  omega
theorem tm_end (od : List Nat) (da : List Nat) (i lb x c k : Nat) (hp : i + lb < od.length) (h0 : od.getD (i + lb) 0 = 0) (hx : da.getD i 0 = x)
    (he : ev 4294967296 od + 4294967296 ^ (i + lb) * c = ev 4294967296 (da.take i) * k + x * k * 4294967296 ^ i) :
    ev 4294967296 (od.set (i + lb) c) = ev 4294967296 (da.take (i + 1)) * k := by
  have h1 := ev_set 4294967296 od (i + lb) c hp
  rw [h0, Nat.mul_zero, Nat.add_zero] at h1
  rw [h1, he, ev_take_succ, hx, Nat.add_mul]
  congr 1
  rw [Nat.mul_comm (4294967296 ^ i) x, Nat.mul_right_comm]
theorem word_mul2 (x y o c : Nat) (hx : x < 4294967296) (hy : y < 4294967296) (ho : o < 4294967296) (hc : c < 4294967296) : x * y + o + c < 18446744073709551616 ∧ (x * y + o + c) / 4294967296 < 4294967296 := by
  have h1 : x * y ≤ 4294967295 * 4294967295 := Nat.mul_le_mul (by omega) (by omega)
  omega
theorem getD_small {ds : List Nat} (h : Small ds) (j : Nat) : ds.getD j 0 < 4294967296 := by
  rw [List.getD_eq_getElem?_getD]
  by_cases hj : j < ds.length
  · rw [List.getElem?_eq_getElem hj]; exact h _ (List.getElem_mem hj)
  · rw [List.getElem?_eq_none (by omega)]; decide
theorem getD_of {ds : List Nat} {j : Nat} (h : j < ds.length) : ds.getD j 0 = ds[j] := by
  rw [List.getD_eq_getElem?_getD, List.getElem?_eq_getElem h]; rfl
theorem getD_set_ne {ds : List Nat} {j p v : Nat} (h : p ≠ j) : (ds.set p v).getD j 0 = ds.getD j 0 := by
  rw [List.getD_eq_getElem?_getD, List.getD_eq_getElem?_getD, List.getElem?_set_ne h]

set_option maxRecDepth 100000 in
set_option maxHeartbeats 4000000 in
theorem times_any (B1 B2 m k : Nat) (va vb : Value) (w : World) (ha : NatIs w B1 va m) (hb : NatIs w B2 vb k) (hla : (lims 4294967296 m).length ≤ 100000) (hlb : (lims 4294967296 k).length ≤ 100000) :
    Calls Tryd.prog 111 #[va, vb] w fun e w' => (∃ v, e = .returned v ∧ NatIs w' w.heap.size v (m * k)) ∧ Below w.heap.size w w' := by
  obtain ⟨ao, ca, rfl, ra⟩ := ha.reads hla
  obtain ⟨bo, cb, rfl, rb⟩ := hb.reads hlb
  have HDA := Lib.hid (And.intro (ev_lims w32_ge m) (And.intro (lims_lt w32_ge m) (fun j => lims_getD w32_ge m j)))
  have HDB := Lib.hid (And.intro (ev_lims w32_ge k) (And.intro (lims_lt w32_ge k) (fun j => lims_getD w32_ge k j)))
  revert ra rb HDA HDB hla hlb
  generalize lims 4294967296 m = da
  generalize lims 4294967296 k = db
  intro hla hlb ra rb HDA HDB
  clear ha hb
  obtain ⟨la, hl⟩ : ∃ la, da.length = la := ⟨_, rfl⟩
  obtain ⟨lb, hl2⟩ : ∃ lb, db.length = lb := ⟨_, rfl⟩
  rw [hl] at hla ra ⊢
  rw [hl2] at hlb rb ⊢
  have Hl := Lib.hid (And.intro hl hl2)
  clear hl hl2
  obtain ⟨C, hC1, hC2⟩ : ∃ C, C ≤ la + lb ∧ la + lb ≤ C := ⟨la + lb, by omega, by omega⟩
  have hmk : ∀ W, (Instr.makeSlice 44 (.int .i64 ((la : Int) + (lb : Int))) (.int .i64 ((la : Int) + (lb : Int)))).run Tryd.prog W = .ok (.slice (some ⟨W.heap.size, 0, none⟩) C C) (W.alloc (.cells (noughts C) 75)) := make_any _ _ C C (by omega) (by omega) (by omega) (by omega)
  have hrow := RowIs.made w w.heap.size C (Nat.le_refl _) (by omega)
  have hb0 : Below w.heap.size w (w.alloc (.cells (noughts C) 75)) := (Below.refl _ w).alloc (Nat.le_refl _) _
  go_enter Tryd.func111, Tryd.ntmps111
  go_wp2
  clear hmk
  go_loopg [20] la (fun gh v20 wx => ∃ (i : Nat) (od : List Nat), v20 = .int .i64 (i : Int) ∧ i + gh = la ∧ od.length = C ∧ Small od ∧ RowIs wx w.heap.size w.heap.size C od ∧ (∀ j, i + lb ≤ j → od.getD j 0 = 0) ∧ ev 4294967296 od = ev 4294967296 (da.take i) * k ∧ Below w.heap.size w wx)
  case atStart =>
    refine ⟨0, _, rfl, by omega, by simp, small_zeros _, hrow, fun j _ => ?_, by rw [ev_replicate]; simp [ev], hb0⟩
    rw [List.getD_eq_getElem?_getD, List.getElem?_replicate]
    split <;> rfl
  case round =>
    obtain ⟨G, rfl⟩ : ∃ G, G = gk := ⟨_, rfl⟩
    obtain ⟨i, od, rfl, hig, hod, hsm, hR, hz0, he, hB⟩ := hrel
    have Hod := Lib.hid hod
    have HSm := Lib.hid hsm
    have HZ := Lib.hid hz0
    have He := Lib.hid he
    clear hod hsm hz0 he
    by_cases hi : i < la
    · have hiI : (i : Int) < (la : Int) := by omega
      obtain ⟨ga, rfl, hga, hca⟩ := ra.2.1 i hi
      obtain ⟨x, hx⟩ : ∃ x, m / 4294967296 ^ i % 4294967296 = x := ⟨_, rfl⟩
      rw [hx] at hca
      have hx2 : x < 4294967296 := by rw [← hx]; exact Nat.mod_lt _ (by decide)
      have HX := Lib.hid ((HDA.out.2.2 i).trans hx)
      have hca2 := (hB.cell (p := ⟨ga, i, none⟩) hga).trans hca
      clear hx hca ra
      go_wp2_with fail
      go_loopg [8, 27] lb (fun gh v8 v27 wx => ∃ (j c : Nat) (od : List Nat), v8 = .int .u64 (c : Int) ∧ v27 = .int .i64 (j : Int) ∧ j + gh = lb ∧ c < 4294967296 ∧ od.length = C ∧ Small od ∧ RowIs wx w.heap.size w.heap.size C od ∧ (∀ j, i + lb ≤ j → od.getD j 0 = 0) ∧ ev 4294967296 od + 4294967296 ^ (i + j) * c = ev 4294967296 (da.take i) * k + x * ev 4294967296 (db.take j) * 4294967296 ^ i ∧ Below w.heap.size w wx)
      case atStart => exact ⟨0, 0, od, rfl, rfl, by omega, by omega, Hod.out, HSm.out, hR, HZ.out, by rw [He.out]; simp [ev], hB⟩
      case round =>
        obtain ⟨j, c, od1, rfl, rfl, hjg, hc, hod1, hsm1, hR1, hz1, he1, hB1⟩ := hrel
        have Hod1 := Lib.hid hod1
        have HSm1 := Lib.hid hsm1
        have HZ1 := Lib.hid hz1
        have He1 := Lib.hid he1
        clear hod1 hsm1 hz1 he1
        by_cases hj : j < lb
        · have hjI : (j : Int) < (lb : Int) := by omega
          obtain ⟨gb, rfl, hgb, hcb⟩ := rb.2.1 j hj
          obtain ⟨y, hy⟩ : ∃ y, k / 4294967296 ^ j % 4294967296 = y := ⟨_, rfl⟩
          rw [hy] at hcb
          have hy2 : y < 4294967296 := by rw [← hy]; exact Nat.mod_lt _ (by decide)
          have hyd := (HDB.out.2.2 j).trans hy
          have hcb2 := (hB1.cell (p := ⟨gb, j, none⟩) hgb).trans hcb
          have hpl : i + j < od1.length := by rw [Hod1.out]; omega
          obtain ⟨o, ho⟩ : ∃ o, od1[i + j] = o := ⟨_, rfl⟩
          have ho2 : o < 4294967296 := by rw [← ho]; exact HSm1.out _ (List.getElem_mem hpl)
          have hco := hR1.cell (i + j) hpl
          rw [ho] at hco
          have hfo := hR1.free (i + j)
          have hstep := tm_step od1 db i j x y o c _ k hpl hyd (by rw [getD_of hpl, ho]) He1.out
          obtain ⟨hT, hq⟩ := word_mul2 x y o c hx2 hy2 ho2 hc
          have hmul : (x : Int) * (y : Int) = ((x * y : Nat) : Int) := (Int.natCast_mul _ _).symm
          obtain ⟨P, hP⟩ : ∃ P, x * y = P := ⟨_, rfl⟩
          rw [hP] at hT hq hmul hstep
          obtain ⟨T, hTe⟩ : ∃ T, P + o + c = T := ⟨_, rfl⟩
          have hPle : P ≤ T := by omega
          have hadd : (P : Int) + (o : Int) + (c : Int) = (T : Int) := by omega
          have hPo : (P : Int) + (o : Int) ≤ (T : Int) := by omega
          rw [hTe] at hT hq hstep
          have hdi : (T : Int) / 4294967296 = ((T / 4294967296 : Nat) : Int) := by omega
          have hmi : (T : Int) % 4294967296 = ((T % 4294967296 : Nat) : Int) := by omega
          have hr := Nat.mod_lt T (show 0 < 4294967296 by decide)
          obtain ⟨q, hqe⟩ : ∃ q, T / 4294967296 = q := ⟨_, rfl⟩
          obtain ⟨r, hre⟩ : ∃ r, T % 4294967296 = r := ⟨_, rfl⟩
          rw [hqe] at hdi hq hstep
          rw [hre] at hmi hr hstep
          have HT := Lib.hid hstep
          have HPt := Lib.hid (hR1.put (i + j) r)
          have HBt := Lib.hid (hB1.setCell (p := ⟨w.heap.size, i + j, none⟩) (Nat.le_refl _) (.int .u32 (r : Int)))
          have HZt := Lib.hid (show ∀ j', i + lb ≤ j' → (od1.set (i + j) r).getD j' 0 = 0 from fun j' h => (getD_set_ne (by omega)).trans (HZ1.out j' h))
          have hsum : (i : Int) + (j : Int) = ((i + j : Nat) : Int) := by omega
          have hpC : i + j < C := by omega
          obtain ⟨p, hpe⟩ : ∃ p, i + j = p := ⟨_, rfl⟩
          rw [hpe] at hco hfo HPt HBt HZt hsum hpC HT
          have hpI : (p : Int) < (C : Int) := by omega
          have HPE := Lib.hid hpe
          clear hy hcb hyd ho hP hTe hqe hre hstep hR1 hB1 hpl hpe
          obtain ⟨gh, rfl⟩ : ∃ gh, gk = gh + 1 := ⟨gk - 1, by omega⟩
          go_wp2
          go_roundg gh
          case measure => omega
          case rel => exact ⟨j + 1, q, od1.set p r, rfl, by go_num, by omega, hq, by rw [List.length_set]; exact Hod1.out, small_set HSm1.out p r hr, HPt.out, HZt.out, HT.out, HBt.out⟩
        · obtain rfl : j = lb := by omega
          have hpl : i + j < od1.length := by rw [Hod1.out]; omega
          have hend := tm_end od1 da i j x c k hpl (HZ1.out _ (Nat.le_refl _)) HX.out (by
            have h := He1.out
            have e : db.take j = db := List.take_of_length_le (by rw [Hl.out.2]; exact Nat.le_refl _)
            rw [e, HDB.out.1] at h
            exact h)
          have hco := hR1.cell (i + j) hpl
          have hfo := hR1.free (i + j)
          obtain ⟨o, ho⟩ : ∃ o, od1[i + j] = o := ⟨_, rfl⟩
          rw [ho] at hco
          have HE := Lib.hid hend
          have HPt := Lib.hid (hR1.put (i + j) c)
          have HBt := Lib.hid (hB1.setCell (p := ⟨w.heap.size, i + j, none⟩) (Nat.le_refl _) (.int .u32 (c : Int)))
          have HZt := Lib.hid (show ∀ j', i + 1 + j ≤ j' → (od1.set (i + j) c).getD j' 0 = 0 from fun j' h => (getD_set_ne (by omega)).trans (HZ1.out j' (by omega)))
          have hsum : (i : Int) + (j : Int) = ((i + j : Nat) : Int) := by omega
          have hpC : i + j < C := by omega
          have hcI : (c : Int) < 4294967296 := by omega
          obtain ⟨p, hpe⟩ : ∃ p, i + j = p := ⟨_, rfl⟩
          rw [hpe] at hco hfo HPt HBt HZt hsum hpC HE
          have hpI : (p : Int) < (C : Int) := by omega
          clear ho hend hR1 hB1 hpl hpe
          obtain ⟨G2, rfl⟩ : ∃ G2, G = G2 + 1 := ⟨G - 1, by omega⟩
          go_wp2
          go_roundg G2
          case measure => omega
          case rel => exact ⟨i + 1, od1.set p c, by go_num, by omega, by rw [List.length_set]; exact Hod1.out, small_set HSm1.out p c hc, HPt.out, HZt.out, HE.out, HBt.out⟩
    · have he := He.out
      rw [List.take_of_length_le (by rw [Hl.out.1]; omega), HDA.out.1] at he
      have HV := Lib.hid he
      have hrow2 := hR.row
      have hcut := cut_any w.heap.size _ od wr hrow2 HSm.out (by rw [Hod.out]; omega)
      rw [Hod.out, he] at hcut
      clear he
      go_wp2_with (go_at_call 91; refine hcut.mono ?_; rintro e w2 ⟨⟨v', rfl, hnat⟩, rfl⟩; obtain ⟨ao', c1, rfl⟩ := hnat.slice)
      go_ret
      exact ⟨⟨_, rfl, hnat⟩, hB⟩
end Go.Proofs.YtmnibfdenmeepaaDoor
/- The product of numbers. -/
namespace Go.Proofs.YtmnibfdenmeepaaDoor
open Go.RowKit Go.Shelf Big

theorem sg_mul (s t : Bool) (m k : Nat) : sgI (s != t) (m * k) = sgI s m * sgI t k := by
  unfold sgI
  cases s <;> cases t <;> simp [Int.natCast_mul, Int.neg_mul, Int.mul_neg]

set_option maxRecDepth 100000 in
set_option maxHeartbeats 1000000 in
theorem numTimes_any (B1 B2 m k : Nat) (va vb : Value) (s t l1 o1 l2 o2 : Bool) (w : World) (ha : NatIs w B1 va m) (hb : NatIs w B2 vb k) (hla : (lims 4294967296 m).length ≤ 100000) (hlb : (lims 4294967296 k).length ≤ 100000) :
    Calls Tryd.prog 68 #[.agg #[.bool s, va, .bool l1, .bool o1], .agg #[.bool t, vb, .bool l2, .bool o2]] w fun e w' => (∃ r n, NumIs w.heap.size r n w' e ∧ sgI r n = sgI s m * sgI t k) ∧ Below w.heap.size w w' := by
  have HA := Lib.hid ha
  have HB := Lib.hid hb
  obtain ⟨av, ca, rfl⟩ := ha.slice
  obtain ⟨bv, cb, rfl⟩ := hb.slice
  obtain ⟨lv, hlv⟩ : ∃ lv, (lims 4294967296 m).length = lv := ⟨_, rfl⟩
  obtain ⟨lu, hlu⟩ : ∃ lu, (lims 4294967296 k).length = lu := ⟨_, rfl⟩
  rw [hlv] at HA hla ⊢
  rw [hlu] at HB hlb ⊢
  have HLV := Lib.hid hlv
  have HLU := Lib.hid hlu
  clear ha hb hlv hlu
  go_enter Tryd.func68, Tryd.ntmps68
  go_wp2_with fail
  obtain ⟨W0, hW0⟩ : ∃ W0, ((w.alloc (.cells #[.bool s, .slice av lv ca, .bool l1, .bool o1] 46)).alloc (.cells #[.bool t, .slice bv lu cb, .bool l2, .bool o2] 46)).alloc (.cells #[.bool false, .slice none 0 0, .bool false, .bool false] 46) = W0 := ⟨_, rfl⟩
  rw [hW0]
  have hz0 : W0.heap.size = w.heap.size + 3 := by rw [← hW0]; simp
  have hA0 : NatIs W0 B1 (.slice av lv ca) m := by rw [← hW0]; exact ((HA.out.alloc _).alloc _).alloc _
  have hB0 : NatIs W0 B2 (.slice bv lu cb) k := by rw [← hW0]; exact ((HB.out.alloc _).alloc _).alloc _
  have hX : Has (((w.alloc (.cells #[.bool s, .slice av lv ca, .bool l1, .bool o1] 46)).alloc (.cells #[.bool t, .slice bv lu cb, .bool l2, .bool o2] 46)).alloc (.cells #[.bool false, .slice none 0 0, .bool false, .bool false] 46)) w.heap.size 46 #[.bool s, .slice av lv ca, .bool l1, .bool o1] := ((Has.new w _ _).alloc _).alloc _
  have hY : Has (((w.alloc (.cells #[.bool s, .slice av lv ca, .bool l1, .bool o1] 46)).alloc (.cells #[.bool t, .slice bv lu cb, .bool l2, .bool o2] 46)).alloc (.cells #[.bool false, .slice none 0 0, .bool false, .bool false] 46)) (w.heap.size + 1) 46 #[.bool t, .slice bv lu cb, .bool l2, .bool o2] := (Has.new' (n := w.heap.size + 1) (by simp) _ _).alloc _
  have hZ : Has (((w.alloc (.cells #[.bool s, .slice av lv ca, .bool l1, .bool o1] 46)).alloc (.cells #[.bool t, .slice bv lu cb, .bool l2, .bool o2] 46)).alloc (.cells #[.bool false, .slice none 0 0, .bool false, .bool false] 46)) (w.heap.size + 1 + 1) 46 #[.bool false, .slice none 0 0, .bool false, .bool false] := Has.new' (by simp) _ _
  have hBB : Below w.heap.size w W0 := by rw [← hW0]; exact (((Below.refl _ w).alloc (Nat.le_refl _) _).alloc (by simp) _).alloc (by simp; omega) _
  rw [hW0] at hX hY hZ
  clear hW0
  obtain ⟨x0, x1, x2, x3, -⟩ := hX.four
  obtain ⟨y0, y1, y2, y3, -⟩ := hY.four
  have hM : Mid (w.heap.size + 1 + 1) (w.heap.size + 1 + 1) W0 W0 := ⟨Below.refl _ _, ⟨_, _, _, _, hZ⟩, by omega⟩
  have hA1 := fun W (h : Mid (w.heap.size + 1 + 1) (w.heap.size + 1 + 1) W0 W) => hA0.stay h.bel (fun g hg => by have := HA.out.lt g hg; omega)
  have hB1 := fun W (h : Mid (w.heap.size + 1 + 1) (w.heap.size + 1 + 1) W0 W) => hB0.stay h.bel (fun g hg => by have := HB.out.lt g hg; omega)
  have HA1 := Lib.hid hA1
  have HB1 := Lib.hid hB1
  have HM : Hid (∀ w', Mid (w.heap.size + 1 + 1) (w.heap.size + 1 + 1) W0 w' → w'.cell? ⟨w.heap.size, 0, none⟩ = some (.bool s) ∧ w'.cell? ⟨w.heap.size, 1, none⟩ = some (.slice av lv ca) ∧ w'.cell? ⟨w.heap.size + 1, 0, none⟩ = some (.bool t) ∧ w'.cell? ⟨w.heap.size + 1, 1, none⟩ = some (.slice bv lu cb) ∧ Mid (w.heap.size + 1 + 1) (w.heap.size + 1 + 1) W0 w') := Lib.hid (fun w' h => ⟨h.cell (by omega) x0, h.cell (by omega) x1, h.cell (by omega) y0, h.cell (by omega) y1, h⟩)
  clear hA1 hB1 hZ hA0 hB0 hX hY
  go_region_held3 (fun w' => w'.cell? ⟨w.heap.size, 0, none⟩ = some (.bool s) ∧ w'.cell? ⟨w.heap.size, 1, none⟩ = some (.slice av lv ca) ∧ w'.cell? ⟨w.heap.size + 1, 0, none⟩ = some (.bool t) ∧ w'.cell? ⟨w.heap.size + 1, 1, none⟩ = some (.slice bv lu cb) ∧ Mid (w.heap.size + 1 + 1) (w.heap.size + 1 + 1) W0 w')
    ((go_split_ands; exact HM.out _ (by first | assumption | (with_reducible exact Mid.drew (by assumption)) | (with_reducible exact Mid.four (by assumption) _ _ _ _) | (with_reducible exact Mid.next (by assumption) (by assumption)))))
    ((go_split_ands; go_at_call 111; refine (times_any B1 B2 m k _ _ _ (HA1.out _ (by assumption)) (HB1.out _ (by assumption)) (by rw [HLV.out]; exact hla) (by rw [HLU.out]; exact hlb)).mono ?_; rintro e w3 ⟨⟨v, rfl, hn⟩, hb'⟩; obtain ⟨v9, c9, rfl⟩ := hn.slice; have hM3 := Mid.next (by assumption) hb'; obtain ⟨p0, p1, p2, p3, hbx⟩ := hM3.box; obtain ⟨q0, q1, q2, q3, q4, q5, q6, q7⟩ := hbx.four))
  go_wp2
  refine bodyPost_ret (v := .agg #[.bool (s != t), .slice v9 _ c9, .bool false, .bool false]) (by simp [results, Tryd.results68, go_sem, World.cell?_setCell_same', q0, q1, q2, q3]; first | done | rfl | (cases s <;> cases t <;> rfl)) rfl ⟨⟨_, m * k, ⟨_, rfl, NatIs.mono (hn.apart4 (hn.new (by show _ < W0.heap.size; omega)) _ _ _ _) (by show _ ≤ W0.heap.size; omega)⟩, sg_mul s t m k⟩, hBB.trans ((hM3.four _ _ _ _).bel.mono (by omega))⟩
end Go.Proofs.YtmnibfdenmeepaaDoor
/- parseTwo, two, one of the program. -/
namespace Go.Proofs.YtmnibfdenmeepaaDoor
open Go.RowKit Go.Shelf Big

theorem NatIs.drew {w : World} {B n : Nat} {v : Value} (h : NatIs w B v n) : NatIs w.drew B v n := h
/-- What is read of a text: a sign, a slice, whether it is long, whether it is a number. -/
def PF (B : Nat) (l : List UInt8) (w' : World) (s : Bool) (v : Value) (lg t : Bool) : Prop :=
  (t = true ∧ ∃ z : Int, numOf l = some z ∧ s = decide (z < 0) ∧ lg = tooL z.natAbs ∧ NatIs w' B v z.natAbs) ∨ (t = false ∧ numOf l = none)
theorem ParseIs.form {B : Nat} {l : List UInt8} {w' : World} {e : Ending} (h : ParseIs B l w' e) :
    ∃ (s : Bool) (av : Option Addr) (n c : Nat) (lg od t : Bool), e = .returned (.tuple #[.agg #[.bool s, .slice av n c, .bool lg, .bool od], .bool t]) ∧ PF B l w' s (.slice av n c) lg t := by
  rcases h with ⟨h1, h2⟩ | ⟨z, h1, v, h2, hn⟩
  · exact ⟨false, none, 0, 0, false, false, false, h2, .inr ⟨rfl, h1⟩⟩
  · obtain ⟨av, c, rfl⟩ := hn.slice
    exact ⟨_, av, _, c, _, _, true, h2, .inl ⟨rfl, z, h1, rfl, rfl, hn⟩⟩
theorem PF.stay {B b : Nat} {l : List UInt8} {w w' : World} {s : Bool} {v : Value} {lg t : Bool} (h : PF B l w s v lg t) (hk : ∀ n, NatIs w B v n → NatIs w' b v n) : PF b l w' s v lg t := by
  rcases h with ⟨h1, z, h2, h3, h4, h5⟩ | h
  · exact .inl ⟨h1, z, h2, h3, h4, hk _ h5⟩
  · exact .inr h

theorem fin12 (r : Nat) (a b c d x y z u : Value) (w : World) {a1 b1 c1 d1 a2 b2 c2 d2 : Value} (h1 : Has w r 46 #[a1, b1, c1, d1]) (h2 : Has w (r + 1) 46 #[a2, b2, c2, d2]) :
    Has (((((((((((((w.setCell ⟨r + 1, 0, none⟩ (x)).setCell ⟨r + 1, 1, none⟩ (y)).setCell ⟨r + 1, 2, none⟩ (z)).setCell ⟨r + 1, 3, none⟩ (u)).setCell ⟨r, 0, none⟩ (a)).setCell ⟨r, 1, none⟩ (b)).setCell ⟨r, 2, none⟩ (c)).setCell ⟨r, 3, none⟩ (d)).setCell ⟨r + 1, 0, none⟩ (x)).setCell ⟨r + 1, 1, none⟩ (y)).setCell ⟨r + 1, 2, none⟩ (z)).setCell ⟨r + 1, 3, none⟩ (u)).drew) r 46 #[a, b, c, d] ∧ Has (((((((((((((w.setCell ⟨r + 1, 0, none⟩ (x)).setCell ⟨r + 1, 1, none⟩ (y)).setCell ⟨r + 1, 2, none⟩ (z)).setCell ⟨r + 1, 3, none⟩ (u)).setCell ⟨r, 0, none⟩ (a)).setCell ⟨r, 1, none⟩ (b)).setCell ⟨r, 2, none⟩ (c)).setCell ⟨r, 3, none⟩ (d)).setCell ⟨r + 1, 0, none⟩ (x)).setCell ⟨r + 1, 1, none⟩ (y)).setCell ⟨r + 1, 2, none⟩ (z)).setCell ⟨r + 1, 3, none⟩ (u)).drew) (r + 1) 46 #[x, y, z, u] ∧ Below r w (((((((((((((w.setCell ⟨r + 1, 0, none⟩ (x)).setCell ⟨r + 1, 1, none⟩ (y)).setCell ⟨r + 1, 2, none⟩ (z)).setCell ⟨r + 1, 3, none⟩ (u)).setCell ⟨r, 0, none⟩ (a)).setCell ⟨r, 1, none⟩ (b)).setCell ⟨r, 2, none⟩ (c)).setCell ⟨r, 3, none⟩ (d)).setCell ⟨r + 1, 0, none⟩ (x)).setCell ⟨r + 1, 1, none⟩ (y)).setCell ⟨r + 1, 2, none⟩ (z)).setCell ⟨r + 1, 3, none⟩ (u)).drew) ∧ ∀ n v, NatIs w (r + 2) v n → NatIs (((((((((((((w.setCell ⟨r + 1, 0, none⟩ (x)).setCell ⟨r + 1, 1, none⟩ (y)).setCell ⟨r + 1, 2, none⟩ (z)).setCell ⟨r + 1, 3, none⟩ (u)).setCell ⟨r, 0, none⟩ (a)).setCell ⟨r, 1, none⟩ (b)).setCell ⟨r, 2, none⟩ (c)).setCell ⟨r, 3, none⟩ (d)).setCell ⟨r + 1, 0, none⟩ (x)).setCell ⟨r + 1, 1, none⟩ (y)).setCell ⟨r + 1, 2, none⟩ (z)).setCell ⟨r + 1, 3, none⟩ (u)).drew) r v n := by
  have far4 : ∀ {W : World} {g k : Nat} {cs : Array Value} (h : Has W g 46 cs) (hne : g ≠ k) (a b c d : Value), Has (((((W.setCell ⟨k, 0, none⟩ (a)).setCell ⟨k, 1, none⟩ (b)).setCell ⟨k, 2, none⟩ (c)).setCell ⟨k, 3, none⟩ (d))) g 46 cs :=
    fun h hne a b c d => (((h.far hne a).far hne b).far hne c).far hne d
  refine ⟨?_, ?_, ?_, ?_⟩
  · exact (far4 (Has.put4 (far4 h1 (by omega) x y z u) a b c d) (by omega) x y z u).drew
  · exact (Has.put4 (far4 (h2.put4 x y z u) (by omega) a b c d) x y z u).drew
  · exact (Below.four (Below.four (Below.four (Below.refl r w) (by omega) x y z u) (Nat.le_refl r) a b c d) (by omega) x y z u).drew
  · intro n v hn
    have e1 := hn.apart4 (hn.new (show r + 1 < r + 2 by omega)) x y z u
    have e2 := e1.apart4 (e1.new (show r < r + 2 by omega)) a b c d
    have e3 := e2.apart4 (e2.new (show r + 1 < r + 2 by omega)) x y z u
    exact (NatIs.mono e3 (by omega)).drew
/-- What parseTwo answers. -/
def P2 (B : Nat) (a b : List UInt8) (w' : World) (e : Ending) : Prop :=
  ∃ (s1 : Bool) (a1 : Option Addr) (n1 c1 : Nat) (g1 o1 t1 s2 : Bool) (a2 : Option Addr) (n2 c2 : Nat) (g2 o2 t2 : Bool),
    e = .returned (.tuple #[.agg #[.bool s1, .slice a1 n1 c1, .bool g1, .bool o1], .agg #[.bool s2, .slice a2 n2 c2, .bool g2, .bool o2], .int .i64 (if (t1 && t2) = true then 0 else 2)]) ∧
    PF B a w' s1 (.slice a1 n1 c1) g1 t1 ∧ PF B b w' s2 (.slice a2 n2 c2) g2 t2

set_option maxRecDepth 100000 in
set_option maxHeartbeats 4000000 in
theorem parseTwo_any (a b : ByteArray) (w : World) (ha : a.size ≤ 1000) (hb : b.size ≤ 1000) :
    Calls Tryd.prog 64 #[.string a, .string b] w fun e w' => P2 w.heap.size a.data.toList b.data.toList w' e ∧ Below w.heap.size w w' := by
  go_enter Tryd.func64, Tryd.ntmps64
  go_wp2_with fail
  obtain ⟨W0, hW0⟩ : ∃ W0, (w.alloc (.cells #[.bool false, .slice none 0 0, .bool false, .bool false] 46)).alloc (.cells #[.bool false, .slice none 0 0, .bool false, .bool false] 46) = W0 := ⟨_, rfl⟩
  rw [hW0]
  have hz0 : W0.heap.size = w.heap.size + 2 := by rw [← hW0]; simp
  have hX : Has W0 w.heap.size 46 #[.bool false, .slice none 0 0, .bool false, .bool false] := by rw [← hW0]; exact (Has.new w _ _).alloc _
  have hY : Has W0 (w.heap.size + 1) 46 #[.bool false, .slice none 0 0, .bool false, .bool false] := by rw [← hW0]; exact Has.new' (by simp) _ _
  have hBB : Below w.heap.size w W0 := by rw [← hW0]; exact ((Below.refl _ w).alloc (Nat.le_refl _) _).alloc (by simp) _
  clear hW0
  refine (parse_any a W0 ha).mono ?_
  rintro e w1 ⟨hp1, hb1⟩
  obtain ⟨s1, a1, n1, c1, g1, o1, t1, rfl, hf1⟩ := hp1.form
  have hz1 := hb1.size
  have hX1 := hX.below hb1
  have hY1 := hY.below hb1
  obtain ⟨q0, q1, q2, q3, q4, q5, q6, q7⟩ := hX1.four
  go_wp2_with fail
  have hX2 := hX1.put4 (.bool s1) (.slice a1 n1 c1) (.bool g1) (.bool o1)
  have hY2 : Has ((((w1.setCell ⟨w.heap.size, 0, none⟩ (.bool s1)).setCell ⟨w.heap.size, 1, none⟩ (.slice a1 n1 c1)).setCell ⟨w.heap.size, 2, none⟩ (.bool g1)).setCell ⟨w.heap.size, 3, none⟩ (.bool o1)) (w.heap.size + 1) 46 _ := (((hY1.far (by simp) _).far (by simp) _).far (by simp) _).far (by simp) _
  have hf2 : PF (w.heap.size + 2) a.data.toList ((((w1.setCell ⟨w.heap.size, 0, none⟩ (.bool s1)).setCell ⟨w.heap.size, 1, none⟩ (.slice a1 n1 c1)).setCell ⟨w.heap.size, 2, none⟩ (.bool g1)).setCell ⟨w.heap.size, 3, none⟩ (.bool o1)) s1 (.slice a1 n1 c1) g1 t1 :=
    hf1.stay (fun n hn => NatIs.mono (hn.apart4 (hn.new (by omega)) _ _ _ _) (by omega))
  have hB2 : Below w.heap.size w ((((w1.setCell ⟨w.heap.size, 0, none⟩ (.bool s1)).setCell ⟨w.heap.size, 1, none⟩ (.slice a1 n1 c1)).setCell ⟨w.heap.size, 2, none⟩ (.bool g1)).setCell ⟨w.heap.size, 3, none⟩ (.bool o1)) := Below.four (Below.behind hBB hb1) (Nat.le_refl _) _ _ _ _
  have hs2 : ((((w1.setCell ⟨w.heap.size, 0, none⟩ (.bool s1)).setCell ⟨w.heap.size, 1, none⟩ (.slice a1 n1 c1)).setCell ⟨w.heap.size, 2, none⟩ (.bool g1)).setCell ⟨w.heap.size, 3, none⟩ (.bool o1)).heap.size = w1.heap.size := by simp
  revert hX2 hY2 hf2 hB2 hs2
  generalize ((((w1.setCell ⟨w.heap.size, 0, none⟩ (.bool s1)).setCell ⟨w.heap.size, 1, none⟩ (.slice a1 n1 c1)).setCell ⟨w.heap.size, 2, none⟩ (.bool g1)).setCell ⟨w.heap.size, 3, none⟩ (.bool o1)) = W2
  intro hX2 hY2 hf2 hB2 hs2
  clear q0 q1 q2 q3 q4 q5 q6 q7 hX1 hY1 hX hY hf1 hp1
  refine (parse_any b W2 hb).mono ?_
  rintro e w3 ⟨hp3, hb3⟩
  obtain ⟨s2, a2, n2, c2, g2, o2, t2, rfl, hf3⟩ := hp3.form
  have hz3 := hb3.size
  have hX3 := hX2.below hb3
  have hY3 := hY2.below hb3
  obtain ⟨q0, q1, q2, q3, q4, q5, q6, q7⟩ := hX3.four
  obtain ⟨r0, r1, r2, r3, r4, r5, r6, r7⟩ := hY3.four
  have HF1 := Lib.hid (hf2.stay (w' := w3) (b := w.heap.size + 2) (fun n hn => hn.kept hb3))
  have HF2 := Lib.hid (hf3.stay (b := w.heap.size + 2) (fun n hn => NatIs.mono hn (by omega)))
  have HB3 := Lib.hid (Below.behind hB2 hb3)
  have HX3 := Lib.hid hX3
  have HY3 := Lib.hid hY3
  clear hf2 hf3 hp3 hX2 hY2 hX3 hY3 hB2
  cases t1 <;> cases t2
  all_goals
    go_wp2_with fail
    go_region
    have hfin := fin12 w.heap.size (.bool s1) (.slice a1 n1 c1) (.bool g1) (.bool o1) (.bool s2) (.slice a2 n2 c2) (.bool g2) (.bool o2) w3 HX3.out HY3.out
    have HFF := Lib.hid (fun l s v g t (h : PF (w.heap.size + 2) l w3 s v g t) => PF.stay (b := w.heap.size) h (fun n hn => hfin.2.2.2 n v hn))
    have HBF := Lib.hid (HB3.out.trans hfin.2.2.1)
    obtain ⟨x0, x1, x2, x3, -⟩ := hfin.1.four
    obtain ⟨y0, y1, y2, y3, -⟩ := hfin.2.1.four
    clear hfin q0 q1 q2 q3 q4 q5 q6 q7 r0 r1 r2 r3 r4 r5 r6 r7
    revert x0 x1 x2 x3 y0 y1 y2 y3 HFF HBF
    generalize ((((((((((((w3.setCell ⟨w.heap.size + 1, 0, none⟩ (.bool s2)).setCell ⟨w.heap.size + 1, 1, none⟩ (.slice a2 n2 c2)).setCell ⟨w.heap.size + 1, 2, none⟩ (.bool g2)).setCell ⟨w.heap.size + 1, 3, none⟩ (.bool o2)).setCell ⟨w.heap.size, 0, none⟩ (.bool s1)).setCell ⟨w.heap.size, 1, none⟩ (.slice a1 n1 c1)).setCell ⟨w.heap.size, 2, none⟩ (.bool g1)).setCell ⟨w.heap.size, 3, none⟩ (.bool o1)).setCell ⟨w.heap.size + 1, 0, none⟩ (.bool s2)).setCell ⟨w.heap.size + 1, 1, none⟩ (.slice a2 n2 c2)).setCell ⟨w.heap.size + 1, 2, none⟩ (.bool g2)).setCell ⟨w.heap.size + 1, 3, none⟩ (.bool o2)).drew = F
    intro HFF HBF x0 x1 x2 x3 y0 y1 y2 y3
    go_wp2
    refine bodyPost_ret (v := .tuple #[.agg #[.bool s1, .slice a1 n1 c1, .bool g1, .bool o1], .agg #[.bool s2, .slice a2 n2 c2, .bool g2, .bool o2], .int .i64 _]) (by simp [results, Tryd.results64, go_sem, x0, x1, x2, x3, y0, y1, y2, y3]; rfl) rfl ⟨⟨s1, a1, n1, c1, g1, o1, _, s2, a2, n2, c2, g2, o2, _, ?_, HFF.out _ _ _ _ _ HF1.out, HFF.out _ _ _ _ _ HF2.out⟩, HBF.out⟩
    rfl
end Go.Proofs.YtmnibfdenmeepaaDoor
