/- The sum, the opposite, the difference, the product of numbers. -/
import Derived.Test.YtmnibfdenmeepaaDoorText
import Derived.Deep.RegionHeld3
namespace Go.Proofs.YtmnibfdenmeepaaDoor
open Go.RowKit Go.Shelf Big

/-- A value is a number of a sign and a size. -/
def NumIs (B : Nat) (s : Bool) (n : Nat) (w' : World) (e : Ending) : Prop := ∃ v, e = .returned (.agg #[.bool s, v, .bool false, .bool false]) ∧ NatIs w' B v n
theorem NatIs.apart {w : World} {B n b : Nat} {v : Value} (h : NatIs w B v n) (hb : ∀ g, v.ownBlock = some g → g ≠ b) (i : Nat) (u : Value) : NatIs (w.setCell ⟨b, i, none⟩ u) B v n :=
  World.ownsRow.kept h (grown_put (grownBy_refl w (some b)) i u) (by
    rcases hv : v.ownBlock with _ | g
    · exact .inl rfl
    · refine .inr ?_
      intro e
      cases e
      exact hb _ hv rfl)
theorem NatIs.apart4 {w : World} {B n b : Nat} {v : Value} (h : NatIs w B v n) (hb : ∀ g, v.ownBlock = some g → g ≠ b) (a c d e : Value) : NatIs ((((w.setCell ⟨b, 0, none⟩ a).setCell ⟨b, 1, none⟩ c).setCell ⟨b, 2, none⟩ d).setCell ⟨b, 3, none⟩ e) B v n :=
  (((h.apart hb 0 a).apart hb 1 c).apart hb 2 d).apart hb 3 e
theorem NatIs.old {w : World} {B n : Nat} {v : Value} (h : NatIs w B v n) {b : Nat} (hb : w.heap.size ≤ b) : ∀ g, v.ownBlock = some g → g ≠ b := fun g hg => by
  have := (World.ownsRow.lt h g hg).2
  omega
theorem NatIs.new {w : World} {B n : Nat} {v : Value} (h : NatIs w B v n) {b : Nat} (hb : b < B) : ∀ g, v.ownBlock = some g → g ≠ b := fun g hg => by
  have := (World.ownsRow.lt h g hg).1
  omega
theorem NatIs.alloc {w : World} {B n : Nat} {v : Value} (h : NatIs w B v n) (o : Obj) : NatIs (w.alloc o) B v n := World.ownsRow.alloc h o

set_option maxRecDepth 100000 in
set_option maxHeartbeats 1000000 in
theorem neg_any (B n : Nat) (v : Value) (s l o : Bool) (w : World) (h : NatIs w B v n) :
    Calls Tryd.prog 83 #[.agg #[.bool s, v, .bool l, .bool o]] w fun e w' => NumIs B (!s) n w' e ∧ Below w.heap.size w w' := by
  have hkeep : ∀ a b, NatIs ((w.alloc a).alloc b) B v n := fun a b => (h.alloc a).alloc b
  obtain ⟨av, cv, rfl⟩ := h.slice
  obtain ⟨lv, hlv⟩ : ∃ lv, (lims 4294967296 n).length = lv := ⟨_, rfl⟩
  rw [hlv] at hkeep ⊢
  have HK := Lib.hid hkeep
  clear h hlv hkeep
  go_enter Tryd.func83, Tryd.ntmps83
  go_wp2
  exact bodyPost_ret (v := .agg #[.bool (!s), .slice av lv cv, .bool false, .bool false]) (by simp [results, Tryd.results83, go_sem]) rfl ⟨⟨_, rfl, HK.out _ _⟩, ((Below.refl _ w).alloc (Nat.le_refl _) _).alloc (by simp) _⟩

theorem cell_keep {W W' : World} {a : Addr} {v : Value} (h : W.cell? a = some v) (hb : Below W.heap.size W W') : W'.cell? a = some v := (hb.cell (World.block_lt_of_cell? W _ h)).trans h
theorem free_keep {W W' : World} {b i : Nat} (h : W.frozen? ⟨b, i, none⟩ = false) (hl : b < W.heap.size) (hb : Below W.heap.size W W') : W'.frozen? ⟨b, i, none⟩ = false := (hb.frozen (p := ⟨b, i, none⟩) hl).trans h
/-- A number's block, whatever it holds. -/
def Box4 (w : World) (r : Nat) : Prop := ∃ a b c d, Has w r 46 #[a, b, c, d]
theorem Has.put4 {w : World} {r : Nat} {t : TypeId} {a b c d : Value} (h : Has w r t #[a, b, c, d]) (x y z u : Value) : Has ((((w.setCell ⟨r, 0, none⟩ x).setCell ⟨r, 1, none⟩ y).setCell ⟨r, 2, none⟩ z).setCell ⟨r, 3, none⟩ u) r t #[x, y, z, u] := by
  have put : ∀ {w : World} {cs : Array Value} (i : Nat) (v : Value), Has w r t cs → Has (w.setCell ⟨r, i, none⟩ v) r t (cs.setIfInBounds i v) := by
    intro w cs i v h
    have h' : w.heap[r]? = some (.cells cs t (0, 0)) := h
    show (w.setCell ⟨r, i, none⟩ v).heap[r]? = _
    simp [World.setCell, Array.getElem?_modify, h']
  exact put 3 u (put 2 z (put 1 y (put 0 x h)))
theorem Box4.four {w : World} {r : Nat} (h : Box4 w r) (x y z u : Value) : Box4 ((((w.setCell ⟨r, 0, none⟩ x).setCell ⟨r, 1, none⟩ y).setCell ⟨r, 2, none⟩ z).setCell ⟨r, 3, none⟩ u) r := by
  obtain ⟨a, b, c, d, h⟩ := h
  exact ⟨x, y, z, u, h.put4 x y z u⟩
theorem Box4.below {w w' : World} {r : Nat} (h : Box4 w r) (hb : Below w.heap.size w w') : Box4 w' r := by
  obtain ⟨a, b, c, d, h⟩ := h
  exact ⟨a, b, c, d, h.below hb⟩
theorem Box4.drew {w : World} {r : Nat} (h : Box4 w r) : Box4 w.drew r := h
/-- What a region that ends in a store of a number holds: the cells below b, and the block r itself. -/
structure Mid (b r : Nat) (W0 w' : World) : Prop where
  bel : Below b W0 w'
  box : Box4 w' r
  le : b ≤ r ∧ r < W0.heap.size
theorem Mid.drew {b r : Nat} {W0 w' : World} (h : Mid b r W0 w') : Mid b r W0 w'.drew := ⟨h.bel.drew, h.box, h.le⟩
theorem Mid.next {b r : Nat} {W0 W w' : World} (h : Mid b r W0 W) (hb : Below W.heap.size W w') : Mid b r W0 w' := ⟨h.bel.trans (hb.mono (by have := h.bel.size; have := h.le; omega)), h.box.below hb, h.le⟩
theorem Mid.four {b r : Nat} {W0 w' : World} (h : Mid b r W0 w') (x y z u : Value) : Mid b r W0 ((((w'.setCell ⟨r, 0, none⟩ x).setCell ⟨r, 1, none⟩ y).setCell ⟨r, 2, none⟩ z).setCell ⟨r, 3, none⟩ u) := ⟨Below.four h.bel h.le.1 x y z u, h.box.four x y z u, h.le⟩
theorem Mid.cell {b r : Nat} {W0 w' : World} (h : Mid b r W0 w') {g i : Nat} {v : Value} (hg : g < b) (hc : W0.cell? ⟨g, i, none⟩ = some v) : w'.cell? ⟨g, i, none⟩ = some v := (h.bel.cell (p := ⟨g, i, none⟩) hg).trans hc
theorem NatIs.stay {w w' : World} {B n b : Nat} {v : Value} (h : NatIs w B v n) (hb : Below b w w') (hlt : ∀ g, v.ownBlock = some g → g < b) : NatIs w' B v n := by
  refine ⟨h.1, ?_⟩
  rcases h.2 with hn | ⟨g, cap, cur, rfl, h1, hg, h3⟩
  · exact .inl hn
  · exact .inr ⟨g, cap, cur, rfl, h1, (hb.block g (hlt g rfl)).trans hg, h3⟩
theorem NatIs.lt {w : World} {B n : Nat} {v : Value} (h : NatIs w B v n) : ∀ g, v.ownBlock = some g → g < w.heap.size := fun g hg => (World.ownsRow.lt h g hg).2
theorem Below.behind {w W W' : World} (hB : Below w.heap.size w W) (hb : Below W.heap.size W W') : Below w.heap.size w W' := hB.trans (hb.mono hB.size)

theorem mid_keep {b r : Nat} {W0 : World} {P : World → Prop} {Q R : World → Prop} (h : ∀ W, Mid b r W0 W → P W ∧ Q W ∧ R W) {W : World} (hM : Mid b r W0 W) : P W ∧ Q W ∧ R W ∧ Mid b r W0 W := by
  obtain ⟨a, b, c⟩ := h W hM
  exact ⟨a, b, c, hM⟩
theorem sg_same (s : Bool) (m k : Nat) : sgI s (m + k) = sgI s m + sgI s k := by unfold sgI; cases s <;> simp <;> omega
theorem sg_left {s t : Bool} (h : ¬ s = t) {m k : Nat} (hk : k ≤ m) : sgI s (m - k) = sgI s m + sgI t k := by unfold sgI; cases s <;> cases t <;> simp at h ⊢ <;> omega
theorem sg_right {s t : Bool} (h : ¬ s = t) {m k : Nat} (hk : m ≤ k) : sgI t (k - m) = sgI s m + sgI t k := by unfold sgI; cases s <;> cases t <;> simp at h ⊢ <;> omega
set_option maxRecDepth 100000 in
set_option maxHeartbeats 1000000 in
theorem numPlus_any (B1 B2 m k : Nat) (va vb : Value) (s t l1 o1 l2 o2 : Bool) (w : World) (ha : NatIs w B1 va m) (hb : NatIs w B2 vb k) (hla : (lims 4294967296 m).length ≤ 100000) (hlb : (lims 4294967296 k).length ≤ 100000) :
    Calls Tryd.prog 59 #[.agg #[.bool s, va, .bool l1, .bool o1], .agg #[.bool t, vb, .bool l2, .bool o2]] w fun e w' => (∃ r n, NumIs w.heap.size r n w' e ∧ sgI r n = sgI s m + sgI t k) ∧ Below w.heap.size w w' := by
  have HA := Lib.hid ha
  have HB := Lib.hid hb
  obtain ⟨av, ca, rfl⟩ := ha.slice
  obtain ⟨bv, cb, rfl⟩ := hb.slice
  obtain ⟨lv, hlv⟩ : ∃ lv, (lims 4294967296 m).length = lv := ⟨_, rfl⟩
  obtain ⟨lu, hlu⟩ : ∃ lu, (lims 4294967296 k).length = lu := ⟨_, rfl⟩
  rw [hlv] at HA hla ⊢
  rw [hlu] at HB hlb ⊢
  have HLV := Lib.hid hlv
  have HLU := Lib.hid hlu
  clear ha hb hlv hlu
  by_cases hst : s = t
  · subst hst
    go_enter Tryd.func59, Tryd.ntmps59
    go_wp2_with fail
    obtain ⟨W0, hW0⟩ : ∃ W0, ((w.alloc (.cells #[.bool s, .slice av lv ca, .bool l1, .bool o1] 46)).alloc (.cells #[.bool s, .slice bv lu cb, .bool l2, .bool o2] 46)).alloc (.cells #[.bool false, .slice none 0 0, .bool false, .bool false] 46) = W0 := ⟨_, rfl⟩
    rw [hW0]
    have hz0 : W0.heap.size = w.heap.size + 3 := by rw [← hW0]; simp
    have hA0 : NatIs W0 B1 (.slice av lv ca) m := by rw [← hW0]; exact ((HA.out.alloc _).alloc _).alloc _
    have hB0 : NatIs W0 B2 (.slice bv lu cb) k := by rw [← hW0]; exact ((HB.out.alloc _).alloc _).alloc _
    have hX : Has (((w.alloc (.cells #[.bool s, .slice av lv ca, .bool l1, .bool o1] 46)).alloc (.cells #[.bool s, .slice bv lu cb, .bool l2, .bool o2] 46)).alloc (.cells #[.bool false, .slice none 0 0, .bool false, .bool false] 46)) w.heap.size 46 #[.bool s, .slice av lv ca, .bool l1, .bool o1] := ((Has.new w _ _).alloc _).alloc _
    have hY : Has (((w.alloc (.cells #[.bool s, .slice av lv ca, .bool l1, .bool o1] 46)).alloc (.cells #[.bool s, .slice bv lu cb, .bool l2, .bool o2] 46)).alloc (.cells #[.bool false, .slice none 0 0, .bool false, .bool false] 46)) (w.heap.size + 1) 46 #[.bool s, .slice bv lu cb, .bool l2, .bool o2] := (Has.new' (n := w.heap.size + 1) (by simp) _ _).alloc _
    have hZ : Has (((w.alloc (.cells #[.bool s, .slice av lv ca, .bool l1, .bool o1] 46)).alloc (.cells #[.bool s, .slice bv lu cb, .bool l2, .bool o2] 46)).alloc (.cells #[.bool false, .slice none 0 0, .bool false, .bool false] 46)) (w.heap.size + 1 + 1) 46 #[.bool false, .slice none 0 0, .bool false, .bool false] := Has.new' (by simp) _ _
    have hBB : Below w.heap.size w W0 := by rw [← hW0]; exact (((Below.refl _ w).alloc (Nat.le_refl _) _).alloc (by simp) _).alloc (by simp; omega) _
    rw [hW0] at hX hY hZ
    clear hW0
    obtain ⟨x0, x1, -⟩ := hX.four
    obtain ⟨y0, y1, -⟩ := hY.four
    have hM : Mid (w.heap.size + 1 + 1) (w.heap.size + 1 + 1) W0 W0 := ⟨Below.refl _ _, ⟨_, _, _, _, hZ⟩, by omega⟩
    have hA1 := fun W (h : Mid (w.heap.size + 1 + 1) (w.heap.size + 1 + 1) W0 W) => hA0.stay h.bel (fun g hg => by have := HA.out.lt g hg; omega)
    have hB1 := fun W (h : Mid (w.heap.size + 1 + 1) (w.heap.size + 1 + 1) W0 W) => hB0.stay h.bel (fun g hg => by have := HB.out.lt g hg; omega)
    have HA1 := Lib.hid hA1
    have HB1 := Lib.hid hB1
    have HM := Lib.hid (fun W (h : Mid (w.heap.size + 1 + 1) (w.heap.size + 1 + 1) W0 W) => And.intro (h.cell (by omega) x0) (And.intro (h.cell (by omega) x1) (h.cell (by omega) y1)))
    clear hA1 hB1 hZ hA0 hB0 hX hY
    go_region_held3 (fun w' => w'.cell? ⟨w.heap.size, 0, none⟩ = some (.bool s) ∧ w'.cell? ⟨w.heap.size, 1, none⟩ = some (.slice av lv ca) ∧ w'.cell? ⟨w.heap.size + 1, 1, none⟩ = some (.slice bv lu cb) ∧ Mid (w.heap.size + 1 + 1) (w.heap.size + 1 + 1) W0 w')
      ((go_split_ands; exact mid_keep HM.out (by first | assumption | (with_reducible exact Mid.drew (by assumption)) | (with_reducible exact Mid.four (by assumption) _ _ _ _) | (with_reducible exact Mid.next (by assumption) (by assumption)))))
      ((go_split_ands; go_at_call 107; refine (plus_any B1 B2 m k _ _ _ (HA1.out _ (by assumption)) (HB1.out _ (by assumption)) (by rw [HLV.out]; exact hla) (by rw [HLU.out]; exact hlb)).mono ?_; rintro e w3 ⟨⟨v, rfl, hn⟩, hb'⟩; obtain ⟨v9, c9, rfl⟩ := hn.slice; have hM3 := Mid.next (by assumption) hb'; obtain ⟨p0, p1, p2, p3, hbx⟩ := hM3.box; obtain ⟨q0, q1, q2, q3, q4, q5, q6, q7⟩ := hbx.four))
    go_wp2
    refine bodyPost_ret (v := .agg #[.bool s, .slice v9 _ c9, .bool false, .bool false]) (by simp [results, Tryd.results59, go_sem, World.cell?_setCell_same', q0, q1, q2, q3]) rfl ⟨⟨_, m + k, ⟨_, rfl, NatIs.mono (hn.apart4 (hn.new (by show _ < W0.heap.size; omega)) _ _ _ _) (by show _ ≤ W0.heap.size; omega)⟩, sg_same s m k⟩, hBB.trans ((hM3.four _ _ _ _).bel.mono (by omega))⟩
  · have hstE : (s == t) = false := by simpa using hst
    have hcmp := fun W (h1 : NatIs W B1 (.slice av lv ca) m) (h2 : NatIs W B2 (.slice bv lu cb) k) => compare_any B1 B2 m k _ _ W h1 h2 (by rw [HLV.out]; exact hla) (by rw [HLU.out]; exact hlb)
    have hc : (k ≤ m ∧ cmp m k ≥ 0) ∨ (m < k ∧ cmp m k < 0) := by
      unfold cmp
      split
      · right; omega
      · left; refine ⟨by omega, ?_⟩; split <;> omega
    have HCM := Lib.hid hcmp
    clear hcmp
    obtain ⟨C, hC⟩ : ∃ C, cmp m k = C := ⟨_, rfl⟩
    rw [hC] at hc HCM
    clear hC
    have HST := Lib.hid hst
    clear hst
    rcases hc with ⟨hkm, hCs⟩ | ⟨hkm, hCs⟩
    · go_enter Tryd.func59, Tryd.ntmps59
      go_wp2_with fail
      obtain ⟨W00, hW00⟩ : ∃ W00, ((w.alloc (.cells #[.bool s, .slice av lv ca, .bool l1, .bool o1] 46)).alloc (.cells #[.bool t, .slice bv lu cb, .bool l2, .bool o2] 46)).alloc (.cells #[.bool false, .slice none 0 0, .bool false, .bool false] 46) = W00 := ⟨_, rfl⟩
      rw [hW00]
      have hz00 : W00.heap.size = w.heap.size + 3 := by rw [← hW00]; simp
      have hA00 : NatIs W00 B1 (.slice av lv ca) m := by rw [← hW00]; exact ((HA.out.alloc _).alloc _).alloc _
      have hB00 : NatIs W00 B2 (.slice bv lu cb) k := by rw [← hW00]; exact ((HB.out.alloc _).alloc _).alloc _
      have hX0 : Has (((w.alloc (.cells #[.bool s, .slice av lv ca, .bool l1, .bool o1] 46)).alloc (.cells #[.bool t, .slice bv lu cb, .bool l2, .bool o2] 46)).alloc (.cells #[.bool false, .slice none 0 0, .bool false, .bool false] 46)) w.heap.size 46 #[.bool s, .slice av lv ca, .bool l1, .bool o1] := ((Has.new w _ _).alloc _).alloc _
      have hY0 : Has (((w.alloc (.cells #[.bool s, .slice av lv ca, .bool l1, .bool o1] 46)).alloc (.cells #[.bool t, .slice bv lu cb, .bool l2, .bool o2] 46)).alloc (.cells #[.bool false, .slice none 0 0, .bool false, .bool false] 46)) (w.heap.size + 1) 46 #[.bool t, .slice bv lu cb, .bool l2, .bool o2] := (Has.new' (n := w.heap.size + 1) (by simp) _ _).alloc _
      have hZ0 : Has (((w.alloc (.cells #[.bool s, .slice av lv ca, .bool l1, .bool o1] 46)).alloc (.cells #[.bool t, .slice bv lu cb, .bool l2, .bool o2] 46)).alloc (.cells #[.bool false, .slice none 0 0, .bool false, .bool false] 46)) (w.heap.size + 1 + 1) 46 #[.bool false, .slice none 0 0, .bool false, .bool false] := Has.new' (by simp) _ _
      have hBB0 : Below w.heap.size w W00 := by rw [← hW00]; exact (((Below.refl _ w).alloc (Nat.le_refl _) _).alloc (by simp) _).alloc (by simp; omega) _
      rw [hW00] at hX0 hY0 hZ0
      clear hW00
      refine (HCM.out W00 hA00 hB00).mono ?_
      rintro e W0 ⟨rfl, hb1⟩
      have hz1 := hb1.size
      have hz0 : w.heap.size + 3 ≤ W0.heap.size := by omega
      have hA0 := hA00.kept hb1
      have hB0 := hB00.kept hb1
      have hX := hX0.below hb1
      have hY := hY0.below hb1
      have hZ := hZ0.below hb1
      have hBB := Below.behind hBB0 hb1
      clear hA00 hB00 hX0 hY0 hZ0 hz1 hz00 hb1
      obtain ⟨x0, x1, -⟩ := hX.four
      obtain ⟨y0, y1, -⟩ := hY.four
      have hM : Mid (w.heap.size + 1 + 1) (w.heap.size + 1 + 1) W0 W0 := ⟨Below.refl _ _, ⟨_, _, _, _, hZ⟩, by omega⟩
      have hA1 := fun W (h : Mid (w.heap.size + 1 + 1) (w.heap.size + 1 + 1) W0 W) => hA0.stay h.bel (fun g hg => by have := HA.out.lt g hg; omega)
      have hB1 := fun W (h : Mid (w.heap.size + 1 + 1) (w.heap.size + 1 + 1) W0 W) => hB0.stay h.bel (fun g hg => by have := HB.out.lt g hg; omega)
      have HA1 := Lib.hid hA1
      have HB1 := Lib.hid hB1
      have HM := Lib.hid (fun W (h : Mid (w.heap.size + 1 + 1) (w.heap.size + 1 + 1) W0 W) => And.intro (h.cell (by omega) x0) (And.intro (h.cell (by omega) x1) (h.cell (by omega) y1)))
      clear hA1 hB1 hZ hA0 hB0 hX hY
      go_wp2_with fail
      go_region_held3 (fun w' => w'.cell? ⟨w.heap.size, 0, none⟩ = some (.bool s) ∧ w'.cell? ⟨w.heap.size, 1, none⟩ = some (.slice av lv ca) ∧ w'.cell? ⟨w.heap.size + 1, 1, none⟩ = some (.slice bv lu cb) ∧ Mid (w.heap.size + 1 + 1) (w.heap.size + 1 + 1) W0 w')
        ((go_split_ands; exact mid_keep HM.out (by first | assumption | (with_reducible exact Mid.drew (by assumption)) | (with_reducible exact Mid.four (by assumption) _ _ _ _) | (with_reducible exact Mid.next (by assumption) (by assumption)))))
        ((go_split_ands; go_at_call 108; refine (minus_any B1 B2 m k _ _ _ (HA1.out _ (by assumption)) (HB1.out _ (by assumption)) (by rw [HLV.out]; exact hla) hkm).mono ?_; rintro e w3 ⟨⟨v, rfl, hn⟩, hb'⟩; obtain ⟨v9, c9, rfl⟩ := hn.slice; have hM3 := Mid.next (by assumption) hb'; obtain ⟨p0, p1, p2, p3, hbx⟩ := hM3.box; obtain ⟨q0, q1, q2, q3, q4, q5, q6, q7⟩ := hbx.four))
      go_wp2
      exact bodyPost_ret (v := .agg #[.bool s, .slice v9 _ c9, .bool false, .bool false]) (by simp [results, Tryd.results59, go_sem, World.cell?_setCell_same', q0, q1, q2, q3]) rfl ⟨⟨_, m - k, ⟨_, rfl, NatIs.mono (hn.apart4 (hn.new (by show _ < W0.heap.size; omega)) _ _ _ _) (by show _ ≤ W0.heap.size; omega)⟩, sg_left HST.out hkm⟩, hBB.trans ((hM3.four _ _ _ _).bel.mono (by omega))⟩
    · go_enter Tryd.func59, Tryd.ntmps59
      go_wp2_with fail
      obtain ⟨W00, hW00⟩ : ∃ W00, ((w.alloc (.cells #[.bool s, .slice av lv ca, .bool l1, .bool o1] 46)).alloc (.cells #[.bool t, .slice bv lu cb, .bool l2, .bool o2] 46)).alloc (.cells #[.bool false, .slice none 0 0, .bool false, .bool false] 46) = W00 := ⟨_, rfl⟩
      rw [hW00]
      have hz00 : W00.heap.size = w.heap.size + 3 := by rw [← hW00]; simp
      have hA00 : NatIs W00 B1 (.slice av lv ca) m := by rw [← hW00]; exact ((HA.out.alloc _).alloc _).alloc _
      have hB00 : NatIs W00 B2 (.slice bv lu cb) k := by rw [← hW00]; exact ((HB.out.alloc _).alloc _).alloc _
      have hX0 : Has (((w.alloc (.cells #[.bool s, .slice av lv ca, .bool l1, .bool o1] 46)).alloc (.cells #[.bool t, .slice bv lu cb, .bool l2, .bool o2] 46)).alloc (.cells #[.bool false, .slice none 0 0, .bool false, .bool false] 46)) w.heap.size 46 #[.bool s, .slice av lv ca, .bool l1, .bool o1] := ((Has.new w _ _).alloc _).alloc _
      have hY0 : Has (((w.alloc (.cells #[.bool s, .slice av lv ca, .bool l1, .bool o1] 46)).alloc (.cells #[.bool t, .slice bv lu cb, .bool l2, .bool o2] 46)).alloc (.cells #[.bool false, .slice none 0 0, .bool false, .bool false] 46)) (w.heap.size + 1) 46 #[.bool t, .slice bv lu cb, .bool l2, .bool o2] := (Has.new' (n := w.heap.size + 1) (by simp) _ _).alloc _
      have hZ0 : Has (((w.alloc (.cells #[.bool s, .slice av lv ca, .bool l1, .bool o1] 46)).alloc (.cells #[.bool t, .slice bv lu cb, .bool l2, .bool o2] 46)).alloc (.cells #[.bool false, .slice none 0 0, .bool false, .bool false] 46)) (w.heap.size + 1 + 1) 46 #[.bool false, .slice none 0 0, .bool false, .bool false] := Has.new' (by simp) _ _
      have hBB0 : Below w.heap.size w W00 := by rw [← hW00]; exact (((Below.refl _ w).alloc (Nat.le_refl _) _).alloc (by simp) _).alloc (by simp; omega) _
      rw [hW00] at hX0 hY0 hZ0
      clear hW00
      refine (HCM.out W00 hA00 hB00).mono ?_
      rintro e W0 ⟨rfl, hb1⟩
      have hz1 := hb1.size
      have hz0 : w.heap.size + 3 ≤ W0.heap.size := by omega
      have hA0 := hA00.kept hb1
      have hB0 := hB00.kept hb1
      have hX := hX0.below hb1
      have hY := hY0.below hb1
      have hZ := hZ0.below hb1
      have hBB := Below.behind hBB0 hb1
      clear hA00 hB00 hX0 hY0 hZ0 hz1 hz00 hb1
      obtain ⟨x0, x1, -⟩ := hX.four
      obtain ⟨y0, y1, -⟩ := hY.four
      have hM : Mid (w.heap.size + 1 + 1) (w.heap.size + 1 + 1) W0 W0 := ⟨Below.refl _ _, ⟨_, _, _, _, hZ⟩, by omega⟩
      have hA1 := fun W (h : Mid (w.heap.size + 1 + 1) (w.heap.size + 1 + 1) W0 W) => hA0.stay h.bel (fun g hg => by have := HA.out.lt g hg; omega)
      have hB1 := fun W (h : Mid (w.heap.size + 1 + 1) (w.heap.size + 1 + 1) W0 W) => hB0.stay h.bel (fun g hg => by have := HB.out.lt g hg; omega)
      have HA1 := Lib.hid hA1
      have HB1 := Lib.hid hB1
      have HM := Lib.hid (fun W (h : Mid (w.heap.size + 1 + 1) (w.heap.size + 1 + 1) W0 W) => And.intro (h.cell (by omega) y0) (And.intro (h.cell (by omega) x1) (h.cell (by omega) y1)))
      clear hA1 hB1 hZ hA0 hB0 hX hY
      go_wp2_with fail
      go_region_held3 (fun w' => w'.cell? ⟨w.heap.size + 1, 0, none⟩ = some (.bool t) ∧ w'.cell? ⟨w.heap.size, 1, none⟩ = some (.slice av lv ca) ∧ w'.cell? ⟨w.heap.size + 1, 1, none⟩ = some (.slice bv lu cb) ∧ Mid (w.heap.size + 1 + 1) (w.heap.size + 1 + 1) W0 w')
        ((go_split_ands; exact mid_keep HM.out (by first | assumption | (with_reducible exact Mid.drew (by assumption)) | (with_reducible exact Mid.four (by assumption) _ _ _ _) | (with_reducible exact Mid.next (by assumption) (by assumption)))))
        ((go_split_ands; go_at_call 108; refine (minus_any B2 B1 k m _ _ _ (HB1.out _ (by assumption)) (HA1.out _ (by assumption)) (by rw [HLU.out]; exact hlb) (Nat.le_of_lt hkm)).mono ?_; rintro e w3 ⟨⟨v, rfl, hn⟩, hb'⟩; obtain ⟨v9, c9, rfl⟩ := hn.slice; have hM3 := Mid.next (by assumption) hb'; obtain ⟨p0, p1, p2, p3, hbx⟩ := hM3.box; obtain ⟨q0, q1, q2, q3, q4, q5, q6, q7⟩ := hbx.four))
      go_wp2
      exact bodyPost_ret (v := .agg #[.bool t, .slice v9 _ c9, .bool false, .bool false]) (by simp [results, Tryd.results59, go_sem, World.cell?_setCell_same', q0, q1, q2, q3]) rfl ⟨⟨_, k - m, ⟨_, rfl, NatIs.mono (hn.apart4 (hn.new (by show _ < W0.heap.size; omega)) _ _ _ _) (by show _ ≤ W0.heap.size; omega)⟩, sg_right HST.out (Nat.le_of_lt hkm)⟩, hBB.trans ((hM3.four _ _ _ _).bel.mono (by omega))⟩
end Go.Proofs.YtmnibfdenmeepaaDoor
