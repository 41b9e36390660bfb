/- The texts RSum, one behind the other. -/
import Derived.Test.YtmnibfdenmeepaaDoorMgBigTimes9
/- Plus of the reference. -/
namespace Go.Proofs.YtmnibfdenmeepaaDoor
open Go.RowKit Go.Shelf Big

def Box2 (w : World) (r : Nat) : Prop := ∃ a b, Has w r 51 #[a, b]
theorem Has.put2 {w : World} {r : Nat} {t : TypeId} {a b : Value} (h : Has w r t #[a, b]) (x y : Value) : Has ((w.setCell ⟨r, 0, none⟩ x).setCell ⟨r, 1, none⟩ y) r t #[x, y] := by
  have put : ∀ {w : World} {cs : Array Value} (i : Nat) (v : Value), Has w r t cs → Has (w.setCell ⟨r, i, none⟩ v) r t (cs.setIfInBounds i v) := by
    intro w cs i v h
    have h' : w.heap[r]? = some (.cells cs t (0, 0)) := h
    show (w.setCell ⟨r, i, none⟩ v).heap[r]? = _
    simp [World.setCell, Array.getElem?_modify, h']
  exact put 1 y (put 0 x h)
theorem Box2.two {w : World} {r : Nat} (h : Box2 w r) (x y : Value) : Box2 ((w.setCell ⟨r, 0, none⟩ x).setCell ⟨r, 1, none⟩ y) r := by
  obtain ⟨a, b, h⟩ := h
  exact ⟨x, y, h.put2 x y⟩
theorem Box2.below {w w' : World} {r : Nat} (h : Box2 w r) (hb : Below w.heap.size w w') : Box2 w' r := by
  obtain ⟨a, b, h⟩ := h
  exact ⟨a, b, h.below hb⟩
structure Mid2 (b r : Nat) (W0 w' : World) : Prop where
  bel : Below b W0 w'
  box : Box2 w' r
  le : b ≤ r ∧ r < W0.heap.size
theorem Below.two {B b : Nat} {w w' : World} (h : Below B w w') (hb : B ≤ b) (x y : Value) : Below B w ((w'.setCell ⟨b, 0, none⟩ x).setCell ⟨b, 1, none⟩ y) := (h.setCell (p := ⟨b, 0, none⟩) hb x).setCell (p := ⟨b, 1, none⟩) hb y
theorem Mid2.drew {b r : Nat} {W0 w' : World} (h : Mid2 b r W0 w') : Mid2 b r W0 w'.drew := ⟨h.bel.drew, h.box, h.le⟩
theorem Mid2.next {b r : Nat} {W0 W w' : World} (h : Mid2 b r W0 W) (hb : Below W.heap.size W w') : Mid2 b r W0 w' := ⟨h.bel.trans (hb.mono (by have := h.bel.size; have := h.le; omega)), h.box.below hb, h.le⟩
theorem Mid2.two {b r : Nat} {W0 w' : World} (h : Mid2 b r W0 w') (x y : Value) : Mid2 b r W0 ((w'.setCell ⟨r, 0, none⟩ x).setCell ⟨r, 1, none⟩ y) := ⟨Below.two h.bel h.le.1 x y, h.box.two x y, h.le⟩
theorem Mid2.cell {b r : Nat} {W0 w' : World} (h : Mid2 b r W0 w') {g i : Nat} {v : Value} (hg : g < b) (hc : W0.cell? ⟨g, i, none⟩ = some v) : w'.cell? ⟨g, i, none⟩ = some v := (h.bel.cell (p := ⟨g, i, none⟩) hg).trans hc
theorem mid2_keep {b r : Nat} {W0 : World} {P : World → Prop} {Q R : World → Prop} (h : ∀ W, Mid2 b r W0 W → P W ∧ Q W ∧ R W) {W : World} (hM : Mid2 b r W0 W) : P W ∧ Q W ∧ R W ∧ Mid2 b r W0 W := by
  obtain ⟨a, b, c⟩ := h W hM
  exact ⟨a, b, c, hM⟩
theorem DecIs.stay {w w' : World} {B n b : Nat} {v : Value} (h : DecIs w B v n) (hb : Below b w w') (hlt : ∀ g, v.ownBlock = some g → g < b) : DecIs w' B v n := by
  refine ⟨h.1, ?_⟩
  rcases h.2 with hn | ⟨g, cap, cur, rfl, h1, hg, h3⟩
  · exact .inl hn
  · exact .inr ⟨g, cap, cur, rfl, h1, (hb.block g (hlt g rfl)).trans hg, h3⟩
theorem DecIs.lt {w : World} {B n : Nat} {v : Value} (h : DecIs w B v n) : ∀ g, v.ownBlock = some g → g < w.heap.size := fun g hg => (World.ownsRow.lt h g hg).2
/-- num asks a slice's length alone. -/
theorem num_len (n c : Nat) (av : Option Addr) (s : Bool) (w : World) :
    Calls Tryd.prog 77 #[.bool s, .slice av (lims 10 n).length c] w fun e w' => e = .returned (.agg #[.bool (s && decide (0 < n)), .slice av (lims 10 n).length c]) ∧ Below w.heap.size w w' := by
  have hl := dec_len (n := n)
  revert hl
  generalize (lims 10 n).length = l
  intro hl
  cases s with
  | false =>
    clear hl
    go_enter Tryd.func77, Tryd.ntmps77
    go_wp2
    exact bodyPost_ret (v := .agg #[.bool false, .slice av l c]) (by simp [results, Tryd.results77, go_sem]) rfl ⟨rfl, (Below.refl _ w).alloc (Nat.le_refl _) _⟩
  | true =>
    rcases hl with ⟨rfl, h2⟩ | ⟨h1, h2⟩
    · have H := Lib.hid h2
      clear h2
      go_enter Tryd.func77, Tryd.ntmps77
      go_wp2
      exact bodyPost_ret (v := .agg #[.bool false, .slice av 0 c]) (by simp [results, Tryd.results77, go_sem]) rfl ⟨by rw [H.out]; rfl, (Below.refl _ w).alloc (Nat.le_refl _) _⟩
    · have H := Lib.hid h2
      clear h2
      go_enter Tryd.func77, Tryd.ntmps77
      go_wp2
      exact bodyPost_ret (v := .agg #[.bool true, .slice av l c]) (by simp [results, Tryd.results77, go_sem]) rfl ⟨by rw [decide_eq_true H.out]; rfl, (Below.refl _ w).alloc (Nat.le_refl _) _⟩

/-- An answer is the number z. -/
def ZIs (B : Nat) (z : Int) (w' : World) (e : Ending) : Prop := ∃ v, e = .returned (.agg #[.bool (decide (z < 0)), v]) ∧ DecIs w' B v z.natAbs
theorem sgn_z {s : Bool} {n : Nat} : (s && decide (0 < n)) = decide (sgI s n < 0) := by
  unfold sgI
  cases s <;> simp
theorem zIs_of {B : Nat} {s : Bool} {n : Nat} {w' : World} {e : Ending} {v : Value} {z : Int} (he : e = .returned (.agg #[.bool (s && decide (0 < n)), v])) (hd : DecIs w' B v n) (hz : sgI s n = z) : ZIs B z w' e := by
  subst hz
  exact ⟨v, by rw [he, sgn_z], by rw [sg_abs]; exact hd⟩
theorem ord_ge {m k : Nat} : (k ≤ m ∧ ordI m k ≥ 0) ∨ (m < k ∧ ¬ ordI m k ≥ 0) := by
  unfold ordI
  split
  · right; omega
  · left; refine ⟨by omega, ?_⟩; split <;> omega

set_option maxRecDepth 100000 in
set_option maxHeartbeats 2000000 in
theorem rPlus_same (B1 B2 m k : Nat) (va vb : Value) (s : Bool) (w : World) (ha : DecIs w B1 va m) (hb : DecIs w B2 vb k) (hla : (lims 10 m).length ≤ 100000000) (hlb : (lims 10 k).length ≤ 100000000) :
    Calls Tryd.prog 61 #[.agg #[.bool s, va], .agg #[.bool s, vb]] w fun e w' => ZIs w.heap.size (sgI s m + sgI s k) w' e ∧ Below w.heap.size w w' := by
  have HA := Lib.hid ha
  have HB := Lib.hid hb
  obtain ⟨av, ca, rfl⟩ := ha.slice
  obtain ⟨bv, cb, rfl⟩ := hb.slice
  obtain ⟨lv, hlv⟩ : ∃ lv, (lims 10 m).length = lv := ⟨_, rfl⟩
  obtain ⟨lu, hlu⟩ : ∃ lu, (lims 10 k).length = lu := ⟨_, rfl⟩
  rw [hlv] at HA hla ⊢
  rw [hlu] at HB hlb ⊢
  have HLV := Lib.hid hlv
  have HLU := Lib.hid hlu
  clear ha hb hlv hlu
  go_enter Tryd.func61, Tryd.ntmps61
  go_wp2_with fail
  obtain ⟨W0, hW0⟩ : ∃ W0, ((w.alloc (.cells #[.bool s, .slice av lv ca] 51)).alloc (.cells #[.bool s, .slice bv lu cb] 51)).alloc (.cells #[.bool false, .slice none 0 0] 51) = W0 := ⟨_, rfl⟩
  rw [hW0]
  have hz0 : W0.heap.size = w.heap.size + 3 := by rw [← hW0]; simp
  have hA0 : DecIs W0 B1 (.slice av lv ca) m := by rw [← hW0]; exact ((HA.out.alloc _).alloc _).alloc _
  have hB0 : DecIs W0 B2 (.slice bv lu cb) k := by rw [← hW0]; exact ((HB.out.alloc _).alloc _).alloc _
  have hX : Has W0 w.heap.size 51 #[.bool s, .slice av lv ca] := by rw [← hW0]; exact ((Has.new w _ _).alloc _).alloc _
  have hY : Has W0 (w.heap.size + 1) 51 #[.bool s, .slice bv lu cb] := by rw [← hW0]; exact (Has.new' (n := w.heap.size + 1) (by simp) _ _).alloc _
  have hZ : Has W0 (w.heap.size + 1 + 1) 51 #[.bool false, .slice none 0 0] := by rw [← hW0]; exact Has.new' (by simp) _ _
  have hBB : Below w.heap.size w W0 := by rw [← hW0]; exact (((Below.refl _ w).alloc (Nat.le_refl _) _).alloc (by simp) _).alloc (by simp; omega) _
  clear hW0
  obtain ⟨x0, x1, -⟩ := cells_two hX
  obtain ⟨y0, y1, -⟩ := cells_two hY
  have hM : Mid2 (w.heap.size + 1 + 1) (w.heap.size + 1 + 1) W0 W0 := ⟨Below.refl _ _, ⟨_, _, hZ⟩, by omega⟩
  have HA1 := Lib.hid (fun W (h : Mid2 (w.heap.size + 1 + 1) (w.heap.size + 1 + 1) W0 W) => hA0.stay h.bel (fun g hg => by have := HA.out.lt g hg; omega))
  have HB1 := Lib.hid (fun W (h : Mid2 (w.heap.size + 1 + 1) (w.heap.size + 1 + 1) W0 W) => hB0.stay h.bel (fun g hg => by have := HB.out.lt g hg; omega))
  have HM := Lib.hid (fun W (h : Mid2 (w.heap.size + 1 + 1) (w.heap.size + 1 + 1) W0 W) => And.intro (h.cell (by omega) x0) (And.intro (h.cell (by omega) x1) (h.cell (by omega) y1)))
  clear hZ hA0 hB0 hX hY
  go_region_held3 (fun w' => w'.cell? ⟨w.heap.size, 0, none⟩ = some (.bool s) ∧ w'.cell? ⟨w.heap.size, 1, none⟩ = some (.slice av lv ca) ∧ w'.cell? ⟨w.heap.size + 1, 1, none⟩ = some (.slice bv lu cb) ∧ Mid2 (w.heap.size + 1 + 1) (w.heap.size + 1 + 1) W0 w')
    ((go_split_ands; exact mid2_keep HM.out (by first | assumption | (with_reducible exact Mid2.drew (by assumption)) | (with_reducible exact Mid2.two (by assumption) _ _) | (with_reducible exact Mid2.next (by assumption) (by assumption)))))
    ((first
      | (go_split_ands; go_at_call 109; refine (rplus_any B1 B2 m k _ _ _ (HA1.out _ (by assumption)) (HB1.out _ (by assumption)) (by rw [HLV.out]; exact hla) (by rw [HLU.out]; exact hlb)).mono ?_; rintro e w3 ⟨⟨v, rfl, hn⟩, hb3⟩; obtain ⟨v9, c9, rfl⟩ := hn.slice; have hM3 := Mid2.next (by assumption) hb3)
      | (go_split_ands; go_at_call 77; refine (num_len (m + k) _ _ _ _).mono ?_; rintro e w4 ⟨rfl, hb4⟩; have hM4 := Mid2.next (by assumption) hb4; obtain ⟨p0, p1, hbx⟩ := hM4.box; obtain ⟨q0, q1, q2, q3⟩ := cells_two hbx)))
  go_wp2
  have hn4 := hn.kept hb4
  exact bodyPost_ret (v := .agg #[.bool (s && decide (0 < m + k)), .slice v9 _ c9]) (by simp [results, Tryd.results61, go_sem, World.cell?_setCell_same', q0, q1]) rfl ⟨zIs_of rfl (DecIs.mono ((hn4.apart (hn4.new (by show _ < W0.heap.size; omega)) 0 _).apart (hn4.new (b := w.heap.size + 1 + 1) (by show _ < W0.heap.size; omega)) 1 _) (by show _ ≤ W0.heap.size; omega)) (sg_same s m k), hBB.trans ((hM4.two _ _).bel.mono (by omega))⟩

set_option maxRecDepth 100000 in
set_option maxHeartbeats 2000000 in
theorem rPlus_left (B1 B2 m k : Nat) (va vb : Value) (s t : Bool) (w : World) (ha : DecIs w B1 va m) (hb : DecIs w B2 vb k) (hst : ¬ s = t) (hmk : k ≤ m) (hla : (lims 10 m).length ≤ 100000000) (hlb : (lims 10 k).length ≤ 100000000) :
    Calls Tryd.prog 61 #[.agg #[.bool s, va], .agg #[.bool t, vb]] w fun e w' => ZIs w.heap.size (sgI s m + sgI t k) w' e ∧ Below w.heap.size w w' := by
  have HA := Lib.hid ha
  have HB := Lib.hid hb
  obtain ⟨av, ca, rfl⟩ := ha.slice
  obtain ⟨bv, cb, rfl⟩ := hb.slice
  obtain ⟨lv, hlv⟩ : ∃ lv, (lims 10 m).length = lv := ⟨_, rfl⟩
  obtain ⟨lu, hlu⟩ : ∃ lu, (lims 10 k).length = lu := ⟨_, rfl⟩
  rw [hlv] at HA hla ⊢
  rw [hlu] at HB hlb ⊢
  have HLV := Lib.hid hlv
  have HLU := Lib.hid hlu
  clear ha hb hlv hlu
  have hstE : (s == t) = false := by simpa using hst
  have HST := Lib.hid hst
  clear hst
  have hor := ord_ge (m := m) (k := k)
  have HOR := Lib.hid (fun W (h1 : DecIs W B1 (.slice av lv ca) m) (h2 : DecIs W B2 (.slice bv lu cb) k) => order_any B1 B2 m k _ _ W h1 h2 (by rw [HLV.out]; exact hla) (by rw [HLU.out]; exact hlb))
  revert hor HOR
  generalize ordI m k = o
  intro hor HOR
  have ho : o ≥ 0 := by omega
  clear hor
  go_enter Tryd.func61, Tryd.ntmps61
  go_wp2_with fail
  obtain ⟨W00, hW00⟩ : ∃ W00, ((w.alloc (.cells #[.bool s, .slice av lv ca] 51)).alloc (.cells #[.bool t, .slice bv lu cb] 51)).alloc (.cells #[.bool false, .slice none 0 0] 51) = W00 := ⟨_, rfl⟩
  rw [hW00]
  have hz00 : W00.heap.size = w.heap.size + 3 := by rw [← hW00]; simp
  have hA00 : DecIs W00 B1 (.slice av lv ca) m := by rw [← hW00]; exact ((HA.out.alloc _).alloc _).alloc _
  have hB00 : DecIs W00 B2 (.slice bv lu cb) k := by rw [← hW00]; exact ((HB.out.alloc _).alloc _).alloc _
  have hX0 : Has W00 w.heap.size 51 #[.bool s, .slice av lv ca] := by rw [← hW00]; exact ((Has.new w _ _).alloc _).alloc _
  have hY0 : Has W00 (w.heap.size + 1) 51 #[.bool t, .slice bv lu cb] := by rw [← hW00]; exact (Has.new' (n := w.heap.size + 1) (by simp) _ _).alloc _
  have hZ0 : Has W00 (w.heap.size + 1 + 1) 51 #[.bool false, .slice none 0 0] := by rw [← hW00]; exact Has.new' (by simp) _ _
  have hBB0 : Below w.heap.size w W00 := by rw [← hW00]; exact (((Below.refl _ w).alloc (Nat.le_refl _) _).alloc (by simp) _).alloc (by simp; omega) _
  clear hW00
  obtain ⟨x00, x10, -⟩ := cells_two hX0
  obtain ⟨y00, y10, -⟩ := cells_two hY0
  go_wp2_with fail
  refine (HOR.out W00 hA00 hB00).mono ?_
  rintro e w' ⟨rfl, rfl⟩
  obtain ⟨W0, hW0, hz0, hA0, hB0, hX, hY, hZ, hBB⟩ : ∃ W0, W0 = W00 ∧ W0.heap.size = w.heap.size + 3 ∧ DecIs W0 B1 (.slice av lv ca) m ∧ DecIs W0 B2 (.slice bv lu cb) k ∧ Has W0 w.heap.size 51 #[.bool s, .slice av lv ca] ∧ Has W0 (w.heap.size + 1) 51 #[.bool t, .slice bv lu cb] ∧ Has W0 (w.heap.size + 1 + 1) 51 #[.bool false, .slice none 0 0] ∧ Below w.heap.size w W0 := ⟨W00, rfl, hz00, hA00, hB00, hX0, hY0, hZ0, hBB0⟩
  rw [← hW0]
  clear hA00 hB00 hX0 hY0 hZ0 hz00 hBB0 x00 x10 y00 y10 hW0
  obtain ⟨x0, x1, -⟩ := cells_two hX
  obtain ⟨y0, y1, -⟩ := cells_two hY
  have hM : Mid2 (w.heap.size + 1 + 1) (w.heap.size + 1 + 1) W0 W0 := ⟨Below.refl _ _, ⟨_, _, hZ⟩, by omega⟩
  have HA1 := Lib.hid (fun W (h : Mid2 (w.heap.size + 1 + 1) (w.heap.size + 1 + 1) W0 W) => hA0.stay h.bel (fun g hg => by have := HA.out.lt g hg; omega))
  have HB1 := Lib.hid (fun W (h : Mid2 (w.heap.size + 1 + 1) (w.heap.size + 1 + 1) W0 W) => hB0.stay h.bel (fun g hg => by have := HB.out.lt g hg; omega))
  have HM := Lib.hid (fun W (h : Mid2 (w.heap.size + 1 + 1) (w.heap.size + 1 + 1) W0 W) => And.intro (h.cell (by omega) x0) (And.intro (h.cell (by omega) x1) (h.cell (by omega) y1)))
  clear hZ hA0 hB0 hX hY
  go_wp2_with fail
  go_region_held3 (fun w' => w'.cell? ⟨w.heap.size, 0, none⟩ = some (.bool s) ∧ w'.cell? ⟨w.heap.size, 1, none⟩ = some (.slice av lv ca) ∧ w'.cell? ⟨w.heap.size + 1, 1, none⟩ = some (.slice bv lu cb) ∧ Mid2 (w.heap.size + 1 + 1) (w.heap.size + 1 + 1) W0 w')
    ((go_split_ands; exact mid2_keep HM.out (by first | assumption | (with_reducible exact Mid2.drew (by assumption)) | (with_reducible exact Mid2.two (by assumption) _ _) | (with_reducible exact Mid2.next (by assumption) (by assumption)))))
    ((first
      | (go_split_ands; go_at_call 110; refine (rminus_any B1 B2 m k _ _ _ (HA1.out _ (by assumption)) (HB1.out _ (by assumption)) hmk (by rw [HLV.out]; exact hla)).mono ?_; rintro e w3 ⟨⟨v, rfl, hn⟩, hb3⟩; obtain ⟨v9, c9, rfl⟩ := hn.slice; have hM3 := Mid2.next (by assumption) hb3)
      | (go_split_ands; go_at_call 77; refine (num_len (m - k) _ _ _ _).mono ?_; rintro e w4 ⟨rfl, hb4⟩; have hM4 := Mid2.next (by assumption) hb4; obtain ⟨p0, p1, hbx⟩ := hM4.box; obtain ⟨q0, q1, q2, q3⟩ := cells_two hbx)))
  go_wp2
  have hn4 := hn.kept hb4
  exact bodyPost_ret (v := .agg #[.bool (s && decide (0 < m - k)), .slice v9 _ c9]) (by simp [results, Tryd.results61, go_sem, World.cell?_setCell_same', q0, q1]) rfl ⟨zIs_of rfl (DecIs.mono ((hn4.apart (hn4.new (by show _ < W0.heap.size; omega)) 0 _).apart (hn4.new (b := w.heap.size + 1 + 1) (by show _ < W0.heap.size; omega)) 1 _) (by show _ ≤ W0.heap.size; omega)) (sg_left HST.out hmk), hBB.trans ((hM4.two _ _).bel.mono (by omega))⟩

set_option maxRecDepth 100000 in
set_option maxHeartbeats 2000000 in
theorem rPlus_right (B1 B2 m k : Nat) (va vb : Value) (s t : Bool) (w : World) (ha : DecIs w B1 va m) (hb : DecIs w B2 vb k) (hst : ¬ s = t) (hmk' : m < k) (hla : (lims 10 m).length ≤ 100000000) (hlb : (lims 10 k).length ≤ 100000000) :
    Calls Tryd.prog 61 #[.agg #[.bool s, va], .agg #[.bool t, vb]] w fun e w' => ZIs w.heap.size (sgI s m + sgI t k) w' e ∧ Below w.heap.size w w' := by
  have hmk : m ≤ k := by omega
  have HA := Lib.hid ha
  have HB := Lib.hid hb
  obtain ⟨av, ca, rfl⟩ := ha.slice
  obtain ⟨bv, cb, rfl⟩ := hb.slice
  obtain ⟨lv, hlv⟩ : ∃ lv, (lims 10 m).length = lv := ⟨_, rfl⟩
  obtain ⟨lu, hlu⟩ : ∃ lu, (lims 10 k).length = lu := ⟨_, rfl⟩
  rw [hlv] at HA hla ⊢
  rw [hlu] at HB hlb ⊢
  have HLV := Lib.hid hlv
  have HLU := Lib.hid hlu
  clear ha hb hlv hlu
  have hstE : (s == t) = false := by simpa using hst
  have HST := Lib.hid hst
  clear hst
  have hor := ord_ge (m := m) (k := k)
  have HOR := Lib.hid (fun W (h1 : DecIs W B1 (.slice av lv ca) m) (h2 : DecIs W B2 (.slice bv lu cb) k) => order_any B1 B2 m k _ _ W h1 h2 (by rw [HLV.out]; exact hla) (by rw [HLU.out]; exact hlb))
  revert hor HOR
  generalize ordI m k = o
  intro hor HOR
  have ho : ¬ o ≥ 0 := by omega
  clear hor
  go_enter Tryd.func61, Tryd.ntmps61
  go_wp2_with fail
  obtain ⟨W00, hW00⟩ : ∃ W00, ((w.alloc (.cells #[.bool s, .slice av lv ca] 51)).alloc (.cells #[.bool t, .slice bv lu cb] 51)).alloc (.cells #[.bool false, .slice none 0 0] 51) = W00 := ⟨_, rfl⟩
  rw [hW00]
  have hz00 : W00.heap.size = w.heap.size + 3 := by rw [← hW00]; simp
  have hA00 : DecIs W00 B1 (.slice av lv ca) m := by rw [← hW00]; exact ((HA.out.alloc _).alloc _).alloc _
  have hB00 : DecIs W00 B2 (.slice bv lu cb) k := by rw [← hW00]; exact ((HB.out.alloc _).alloc _).alloc _
  have hX0 : Has W00 w.heap.size 51 #[.bool s, .slice av lv ca] := by rw [← hW00]; exact ((Has.new w _ _).alloc _).alloc _
  have hY0 : Has W00 (w.heap.size + 1) 51 #[.bool t, .slice bv lu cb] := by rw [← hW00]; exact (Has.new' (n := w.heap.size + 1) (by simp) _ _).alloc _
  have hZ0 : Has W00 (w.heap.size + 1 + 1) 51 #[.bool false, .slice none 0 0] := by rw [← hW00]; exact Has.new' (by simp) _ _
  have hBB0 : Below w.heap.size w W00 := by rw [← hW00]; exact (((Below.refl _ w).alloc (Nat.le_refl _) _).alloc (by simp) _).alloc (by simp; omega) _
  clear hW00
  obtain ⟨x00, x10, -⟩ := cells_two hX0
  obtain ⟨y00, y10, -⟩ := cells_two hY0
  go_wp2_with fail
  refine (HOR.out W00 hA00 hB00).mono ?_
  rintro e w' ⟨rfl, rfl⟩
  obtain ⟨W0, hW0, hz0, hA0, hB0, hX, hY, hZ, hBB⟩ : ∃ W0, W0 = W00 ∧ W0.heap.size = w.heap.size + 3 ∧ DecIs W0 B1 (.slice av lv ca) m ∧ DecIs W0 B2 (.slice bv lu cb) k ∧ Has W0 w.heap.size 51 #[.bool s, .slice av lv ca] ∧ Has W0 (w.heap.size + 1) 51 #[.bool t, .slice bv lu cb] ∧ Has W0 (w.heap.size + 1 + 1) 51 #[.bool false, .slice none 0 0] ∧ Below w.heap.size w W0 := ⟨W00, rfl, hz00, hA00, hB00, hX0, hY0, hZ0, hBB0⟩
  rw [← hW0]
  clear hA00 hB00 hX0 hY0 hZ0 hz00 hBB0 x00 x10 y00 y10 hW0
  obtain ⟨x0, x1, -⟩ := cells_two hX
  obtain ⟨y0, y1, -⟩ := cells_two hY
  have hM : Mid2 (w.heap.size + 1 + 1) (w.heap.size + 1 + 1) W0 W0 := ⟨Below.refl _ _, ⟨_, _, hZ⟩, by omega⟩
  have HA1 := Lib.hid (fun W (h : Mid2 (w.heap.size + 1 + 1) (w.heap.size + 1 + 1) W0 W) => hA0.stay h.bel (fun g hg => by have := HA.out.lt g hg; omega))
  have HB1 := Lib.hid (fun W (h : Mid2 (w.heap.size + 1 + 1) (w.heap.size + 1 + 1) W0 W) => hB0.stay h.bel (fun g hg => by have := HB.out.lt g hg; omega))
  have HM := Lib.hid (fun W (h : Mid2 (w.heap.size + 1 + 1) (w.heap.size + 1 + 1) W0 W) => And.intro (h.cell (by omega) y0) (And.intro (h.cell (by omega) x1) (h.cell (by omega) y1)))
  clear hZ hA0 hB0 hX hY
  go_wp2_with fail
  go_region_held3 (fun w' => w'.cell? ⟨w.heap.size + 1, 0, none⟩ = some (.bool t) ∧ w'.cell? ⟨w.heap.size, 1, none⟩ = some (.slice av lv ca) ∧ w'.cell? ⟨w.heap.size + 1, 1, none⟩ = some (.slice bv lu cb) ∧ Mid2 (w.heap.size + 1 + 1) (w.heap.size + 1 + 1) W0 w')
    ((go_split_ands; exact mid2_keep HM.out (by first | assumption | (with_reducible exact Mid2.drew (by assumption)) | (with_reducible exact Mid2.two (by assumption) _ _) | (with_reducible exact Mid2.next (by assumption) (by assumption)))))
    ((first
      | (go_split_ands; go_at_call 110; refine (rminus_any B2 B1 k m _ _ _ (HB1.out _ (by assumption)) (HA1.out _ (by assumption)) hmk (by rw [HLU.out]; exact hlb)).mono ?_; rintro e w3 ⟨⟨v, rfl, hn⟩, hb3⟩; obtain ⟨v9, c9, rfl⟩ := hn.slice; have hM3 := Mid2.next (by assumption) hb3)
      | (go_split_ands; go_at_call 77; refine (num_len (k - m) _ _ _ _).mono ?_; rintro e w4 ⟨rfl, hb4⟩; have hM4 := Mid2.next (by assumption) hb4; obtain ⟨p0, p1, hbx⟩ := hM4.box; obtain ⟨q0, q1, q2, q3⟩ := cells_two hbx)))
  go_wp2
  have hn4 := hn.kept hb4
  exact bodyPost_ret (v := .agg #[.bool (t && decide (0 < k - m)), .slice v9 _ c9]) (by simp [results, Tryd.results61, go_sem, World.cell?_setCell_same', q0, q1]) rfl ⟨zIs_of rfl (DecIs.mono ((hn4.apart (hn4.new (by show _ < W0.heap.size; omega)) 0 _).apart (hn4.new (b := w.heap.size + 1 + 1) (by show _ < W0.heap.size; omega)) 1 _) (by show _ ≤ W0.heap.size; omega)) (sg_right HST.out hmk), hBB.trans ((hM4.two _ _).bel.mono (by omega))⟩

/-- Plus adds. -/
theorem rPlus_any (B1 B2 m k : Nat) (va vb : Value) (s t : Bool) (w : World) (ha : DecIs w B1 va m) (hb : DecIs w B2 vb k) (hla : (lims 10 m).length ≤ 100000000) (hlb : (lims 10 k).length ≤ 100000000) :
    Calls Tryd.prog 61 #[.agg #[.bool s, va], .agg #[.bool t, vb]] w fun e w' => ZIs w.heap.size (sgI s m + sgI t k) w' e ∧ Below w.heap.size w w' := by
  by_cases hst : s = t
  · subst hst
    exact rPlus_same B1 B2 m k va vb s w ha hb hla hlb
  · rcases Nat.lt_or_ge m k with h | h
    · exact rPlus_right B1 B2 m k va vb s t w ha hb hst h hla hlb
    · exact rPlus_left B1 B2 m k va vb s t w ha hb hst h hla hlb
end Go.Proofs.YtmnibfdenmeepaaDoor
