/- The product of numbers. -/
import Derived.Test.YtmnibfdenmeepaaDoorTimes
namespace Go.Proofs.YtmnibfdenmeepaaDoor
open Go.RowKit Go.Shelf Big

theorem sg_mul (s t : Bool) (m k : Nat) : sgI (s != t) (m * k) = sgI s m * sgI t k := by
  unfold sgI
  cases s <;> cases t <;> simp [Int.natCast_mul, Int.neg_mul, Int.mul_neg]

set_option maxRecDepth 100000 in
set_option maxHeartbeats 1000000 in
theorem numTimes_any (B1 B2 m k : Nat) (va vb : Value) (s t l1 o1 l2 o2 : Bool) (w : World) (ha : NatIs w B1 va m) (hb : NatIs w B2 vb k) (hla : (lims 4294967296 m).length ≤ 100000) (hlb : (lims 4294967296 k).length ≤ 100000) :
    Calls Tryd.prog 68 #[.agg #[.bool s, va, .bool l1, .bool o1], .agg #[.bool t, vb, .bool l2, .bool o2]] w fun e w' => (∃ r n, NumIs w.heap.size r n w' e ∧ sgI r n = sgI s m * sgI t k) ∧ Below w.heap.size w w' := by
  have HA := Lib.hid ha
  have HB := Lib.hid hb
  obtain ⟨av, ca, rfl⟩ := ha.slice
  obtain ⟨bv, cb, rfl⟩ := hb.slice
  obtain ⟨lv, hlv⟩ : ∃ lv, (lims 4294967296 m).length = lv := ⟨_, rfl⟩
  obtain ⟨lu, hlu⟩ : ∃ lu, (lims 4294967296 k).length = lu := ⟨_, rfl⟩
  rw [hlv] at HA hla ⊢
  rw [hlu] at HB hlb ⊢
  have HLV := Lib.hid hlv
  have HLU := Lib.hid hlu
  clear ha hb hlv hlu
  go_enter Tryd.func68, Tryd.ntmps68
  go_wp2_with fail
  obtain ⟨W0, hW0⟩ : ∃ W0, ((w.alloc (.cells #[.bool s, .slice av lv ca, .bool l1, .bool o1] 46)).alloc (.cells #[.bool t, .slice bv lu cb, .bool l2, .bool o2] 46)).alloc (.cells #[.bool false, .slice none 0 0, .bool false, .bool false] 46) = W0 := ⟨_, rfl⟩
  rw [hW0]
  have hz0 : W0.heap.size = w.heap.size + 3 := by rw [← hW0]; simp
  have hA0 : NatIs W0 B1 (.slice av lv ca) m := by rw [← hW0]; exact ((HA.out.alloc _).alloc _).alloc _
  have hB0 : NatIs W0 B2 (.slice bv lu cb) k := by rw [← hW0]; exact ((HB.out.alloc _).alloc _).alloc _
  have hX : Has (((w.alloc (.cells #[.bool s, .slice av lv ca, .bool l1, .bool o1] 46)).alloc (.cells #[.bool t, .slice bv lu cb, .bool l2, .bool o2] 46)).alloc (.cells #[.bool false, .slice none 0 0, .bool false, .bool false] 46)) w.heap.size 46 #[.bool s, .slice av lv ca, .bool l1, .bool o1] := ((Has.new w _ _).alloc _).alloc _
  have hY : Has (((w.alloc (.cells #[.bool s, .slice av lv ca, .bool l1, .bool o1] 46)).alloc (.cells #[.bool t, .slice bv lu cb, .bool l2, .bool o2] 46)).alloc (.cells #[.bool false, .slice none 0 0, .bool false, .bool false] 46)) (w.heap.size + 1) 46 #[.bool t, .slice bv lu cb, .bool l2, .bool o2] := (Has.new' (n := w.heap.size + 1) (by simp) _ _).alloc _
  have hZ : Has (((w.alloc (.cells #[.bool s, .slice av lv ca, .bool l1, .bool o1] 46)).alloc (.cells #[.bool t, .slice bv lu cb, .bool l2, .bool o2] 46)).alloc (.cells #[.bool false, .slice none 0 0, .bool false, .bool false] 46)) (w.heap.size + 1 + 1) 46 #[.bool false, .slice none 0 0, .bool false, .bool false] := Has.new' (by simp) _ _
  have hBB : Below w.heap.size w W0 := by rw [← hW0]; exact (((Below.refl _ w).alloc (Nat.le_refl _) _).alloc (by simp) _).alloc (by simp; omega) _
  rw [hW0] at hX hY hZ
  clear hW0
  obtain ⟨x0, x1, x2, x3, -⟩ := hX.four
  obtain ⟨y0, y1, y2, y3, -⟩ := hY.four
  have hM : Mid (w.heap.size + 1 + 1) (w.heap.size + 1 + 1) W0 W0 := ⟨Below.refl _ _, ⟨_, _, _, _, hZ⟩, by omega⟩
  have hA1 := fun W (h : Mid (w.heap.size + 1 + 1) (w.heap.size + 1 + 1) W0 W) => hA0.stay h.bel (fun g hg => by have := HA.out.lt g hg; omega)
  have hB1 := fun W (h : Mid (w.heap.size + 1 + 1) (w.heap.size + 1 + 1) W0 W) => hB0.stay h.bel (fun g hg => by have := HB.out.lt g hg; omega)
  have HA1 := Lib.hid hA1
  have HB1 := Lib.hid hB1
  have HM : Hid (∀ w', Mid (w.heap.size + 1 + 1) (w.heap.size + 1 + 1) W0 w' → w'.cell? ⟨w.heap.size, 0, none⟩ = some (.bool s) ∧ w'.cell? ⟨w.heap.size, 1, none⟩ = some (.slice av lv ca) ∧ w'.cell? ⟨w.heap.size + 1, 0, none⟩ = some (.bool t) ∧ w'.cell? ⟨w.heap.size + 1, 1, none⟩ = some (.slice bv lu cb) ∧ Mid (w.heap.size + 1 + 1) (w.heap.size + 1 + 1) W0 w') := Lib.hid (fun w' h => ⟨h.cell (by omega) x0, h.cell (by omega) x1, h.cell (by omega) y0, h.cell (by omega) y1, h⟩)
  clear hA1 hB1 hZ hA0 hB0 hX hY
  go_region_held3 (fun w' => w'.cell? ⟨w.heap.size, 0, none⟩ = some (.bool s) ∧ w'.cell? ⟨w.heap.size, 1, none⟩ = some (.slice av lv ca) ∧ w'.cell? ⟨w.heap.size + 1, 0, none⟩ = some (.bool t) ∧ w'.cell? ⟨w.heap.size + 1, 1, none⟩ = some (.slice bv lu cb) ∧ Mid (w.heap.size + 1 + 1) (w.heap.size + 1 + 1) W0 w')
    ((go_split_ands; exact HM.out _ (by first | assumption | (with_reducible exact Mid.drew (by assumption)) | (with_reducible exact Mid.four (by assumption) _ _ _ _) | (with_reducible exact Mid.next (by assumption) (by assumption)))))
    ((go_split_ands; go_at_call 111; refine (times_any B1 B2 m k _ _ _ (HA1.out _ (by assumption)) (HB1.out _ (by assumption)) (by rw [HLV.out]; exact hla) (by rw [HLU.out]; exact hlb)).mono ?_; rintro e w3 ⟨⟨v, rfl, hn⟩, hb'⟩; obtain ⟨v9, c9, rfl⟩ := hn.slice; have hM3 := Mid.next (by assumption) hb'; obtain ⟨p0, p1, p2, p3, hbx⟩ := hM3.box; obtain ⟨q0, q1, q2, q3, q4, q5, q6, q7⟩ := hbx.four))
  go_wp2
  refine bodyPost_ret (v := .agg #[.bool (s != t), .slice v9 _ c9, .bool false, .bool false]) (by simp [results, Tryd.results68, go_sem, World.cell?_setCell_same', q0, q1, q2, q3]; first | done | rfl | (cases s <;> cases t <;> rfl)) rfl ⟨⟨_, m * k, ⟨_, rfl, NatIs.mono (hn.apart4 (hn.new (by show _ < W0.heap.size; omega)) _ _ _ _) (by show _ ≤ W0.heap.size; omega)⟩, sg_mul s t m k⟩, hBB.trans ((hM3.four _ _ _ _).bel.mono (by omega))⟩
end Go.Proofs.YtmnibfdenmeepaaDoor
