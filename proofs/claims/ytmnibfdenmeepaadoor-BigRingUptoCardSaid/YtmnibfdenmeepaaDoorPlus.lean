/- The sum of two numbers in words. -/
import Derived.Test.YtmnibfdenmeepaaDoorAdd
namespace Go.Proofs.YtmnibfdenmeepaaDoor
open Go.RowKit Go.Shelf Big

attribute [local go_sem] Oper.semAt_some

theorem Tryd.info75 : (Tryd.prog.info? 75).map (fun i => (i.zero, i.size, i.bytes)) = some (some (.int .u32 0), 1, 4) := by kernel_rfl

/-- Words of noughts. -/
def noughts (n : Nat) : Array Value := madeCells #[.int .u32 0] n
theorem noughts_size (n : Nat) : (noughts n).size = n := size_madeCells _ _
theorem noughts_list (n : Nat) : (noughts n).toList = (List.replicate n 0).map u32v := by
  rw [noughts, toList_madeCells_one, List.map_replicate]; rfl
theorem make_any (l c : Int) (a n : Nat) (hl : l = a) (hc : c = n) (ha : a ≤ n) (hn : n ≤ 1000000) (W : World) :
    (Instr.makeSlice 44 (.int .i64 l) (.int .i64 c)).run Tryd.prog W = .ok (.slice (some ⟨W.heap.size, 0, none⟩) a n) (W.alloc (.cells (noughts n) 75)) := by
  obtain ⟨i0, hi, hz0, hz1, hz2⟩ := info_parts Tryd.info75
  subst hl hc
  have := run_make (P := Tryd.prog) W 44 75 i0 (.int .u32 0) Tryd.underlying44 hi hz0 .i64 .i64 (a : Int) (n : Int) (by omega) (by omega) (by rw [hz2]; omega) (by omega)
  rw [hz1] at this
  simpa [noughts, Value.cells] using this

theorem NatIs.putObj {W : World} {B n l : Nat} {v : Value} (h : NatIs W B v n) {o : Obj} (o' : Obj) (hl : W.heap[l]? = some o) (ho : o.isCells = false) : NatIs (W.putObj l o') B v n := ownsRow_putObj h o' hl ho
theorem small_nil : Small [] := fun _ h => nomatch h
/-- What a round leaves of the sum. -/
def PlusI (g B1 B2 C : Nat) (w : World) (pre : List Pr) (W : World) : Prop :=
  ∃ (out : List Nat) (c : Nat), (∃ v, Boxed W B1 44 v ∧ W.ownsRow w.heap.size 75 1 v out.length (out.map u32v) ∧ v = .slice (some ⟨g, 0, none⟩) out.length C) ∧ Boxed W B2 75 (.int .u32 (c : Int)) ∧
    (out.length = pre.length ∧ c ≤ 1 ∧ Small out ∧ ev 4294967296 out + 4294967296 ^ out.length * c = ev 4294967296 (fsts pre) + ev 4294967296 (snds pre)) ∧ Below w.heap.size w W
theorem plusI_own (g B1 B2 C : Nat) (w : World) (B : Nat) (hB : w.heap.size ≤ B) : OwnFrom B (PlusI g B1 B2 C w) := by
  rintro s X Y row ⟨out, c, h1, h2, h3, h4⟩ hg hr
  refine ⟨out, c, ?_, ?_, h3, ownFrom_below (β := List Pr) (Nat.le_refl _) hB s X Y row h4 hg hr⟩
  · exact (Own.from (holdsRow_own (β := List Pr) w.heap.size B1 44 75 1 (fun _ => out.length) (fun _ => out.map u32v) (fun _ v => v = .slice (some ⟨g, 0, none⟩) out.length C)) B) s X Y row h1 hg hr
  · exact (Own.from (boxed_own (β := List Pr) B2 75 (fun _ => .int .u32 (c : Int))) B) s X Y row h2 hg hr

theorem Boxed.new' {W : World} {n : Nat} (h : W.heap.size = n) (t : TypeId) (v : Value) : Boxed (W.alloc (.cells #[v] t)) n t v := by rw [← h]; exact Boxed.new W t v
theorem cell_one_new' {W : World} {n : Nat} {v : Value} {t : TypeId} (h : W.heap.size = n) : ∀ (j : Nat) (u : Value), [v][j]? = some u → (W.alloc (.cells #[v] t)).cell? ((⟨n, 0, none⟩ : Addr).add j) = some u := by rw [← h]; exact cell_one_new _ _ _

theorem plus_step (out : List Nat) (pre : List Pr) (x : Pr) (c : Nat) (hl : out.length = pre.length) (hc : c ≤ 1) (hs : Small out)
    (he : ev 4294967296 out + 4294967296 ^ out.length * c = ev 4294967296 (fsts pre) + ev 4294967296 (snds pre)) :
    (out ++ [(x.1.1 + x.1.2 + c) % 4294967296]).length = (pre ++ [x]).length ∧ (x.1.1 + x.1.2 + c) / 4294967296 ≤ 1 ∧ Small (out ++ [(x.1.1 + x.1.2 + c) % 4294967296]) ∧
    ev 4294967296 (out ++ [(x.1.1 + x.1.2 + c) % 4294967296]) + 4294967296 ^ (out ++ [(x.1.1 + x.1.2 + c) % 4294967296]).length * ((x.1.1 + x.1.2 + c) / 4294967296) = ev 4294967296 (fsts (pre ++ [x])) + ev 4294967296 (snds (pre ++ [x])) := by
  have h1 := x.2.1
  have h2 := x.2.2
  refine ⟨by simp [hl], by omega, ?_, ?_⟩
  · intro d hd
    rcases List.mem_append.1 hd with hd | hd
    · exact hs d hd
    · simp at hd; omega
  · rw [fsts_snoc, snds_snoc, ev_snoc, ev_snoc, ev_snoc, fsts_length, snds_length, List.length_append, List.length_singleton, ← hl, Nat.pow_succ, Nat.mul_assoc]
    have e : (x.1.1 + x.1.2 + c) % 4294967296 + 4294967296 * ((x.1.1 + x.1.2 + c) / 4294967296) = x.1.1 + x.1.2 + c := Nat.mod_add_div _ _
    have e2 : 4294967296 ^ out.length * ((x.1.1 + x.1.2 + c) % 4294967296) + 4294967296 ^ out.length * (4294967296 * ((x.1.1 + x.1.2 + c) / 4294967296)) = 4294967296 ^ out.length * x.1.1 + 4294967296 ^ out.length * x.1.2 + 4294967296 ^ out.length * c := by
      rw [← Nat.mul_add, e, Nat.mul_add, Nat.mul_add]
    omega

set_option maxRecDepth 100000 in
set_option maxHeartbeats 4000000 in
theorem plus_any (B1 B2 m k : Nat) (va vb : Value) (w : World) (ha : NatIs w B1 va m) (hb : NatIs w B2 vb k) (hla : (lims 4294967296 m).length ≤ 100000) (hlb : (lims 4294967296 k).length ≤ 100000) :
    Calls Tryd.prog 107 #[va, vb] w fun e w' => (∃ v, e = .returned v ∧ NatIs w' w.heap.size v (m + k)) ∧ Below w.heap.size w w' := by
  obtain ⟨i0, hi, hz0, hz1, hz2⟩ := info_parts Tryd.info75
  obtain ⟨ao, ca, rfl, ra⟩ := ha.reads hla
  obtain ⟨bo, cb, rfl, rb⟩ := hb.reads hlb
  have HC : Hid (ev 4294967296 (fsts (upto m k (max (lims 4294967296 m).length (lims 4294967296 k).length))) + ev 4294967296 (snds (upto m k (max (lims 4294967296 m).length (lims 4294967296 k).length))) = m + k) := Lib.hid (by
    rw [ev_fsts_upto, ev_snds_upto, mod_max_l (Nat.le_max_left _ _), mod_max_l (Nat.le_max_right _ _)])
  revert ra rb HC hla hlb
  generalize (lims 4294967296 m).length = la
  generalize (lims 4294967296 k).length = lb
  intro hla hlb ra rb HC
  clear ha hb
  refine (callsIn_wide (n := 5)).1 ?_
  refine callsIn_of_wp_marks Tryd.func107 rfl trivial ?_ rfl
  simp only [Tryd.ntmps107, List.size_toArray, List.length_cons, List.length_nil, Nat.reduceAdd, Nat.reduceSub, Array.replicate_succ, Array.replicate_zero, List.push_toArray, List.append_toArray, List.nil_append, List.cons_append]
  by_cases hm : la < lb
  case' pos =>
    obtain ⟨C, hC1, hC2⟩ : ∃ C, max la lb + 1 ≤ C ∧ C ≤ 100001 ∧ C ≤ lb + 1 ∧ lb + 1 ≤ C := ⟨lb + 1, by omega, by omega⟩
    have hmk : ∀ W, (Instr.makeSlice 44 (.int .i64 0) (.int .i64 ((lb : Int) + 1))).run Tryd.prog W = .ok (.slice (some ⟨W.heap.size, 0, none⟩) 0 C) (W.alloc (.cells (noughts C) 75)) := make_any _ _ 0 C rfl (by omega) (by omega) (by omega)
    gi_wp2_with (refine ⟨trivial, ?_⟩; gi_at_call 114; refine (digitPairs_in Fence.wide _ trivial rfl _ _ _ _ _ _ _).mono ?_; rintro e w' ⟨rfl, rfl⟩)
  case' neg =>
    obtain ⟨C, hC1, hC2⟩ : ∃ C, max la lb + 1 ≤ C ∧ C ≤ 100001 ∧ C ≤ la + 1 ∧ la + 1 ≤ C := ⟨la + 1, by omega, by omega⟩
    have hmk : ∀ W, (Instr.makeSlice 44 (.int .i64 0) (.int .i64 ((la : Int) + 1))).run Tryd.prog W = .ok (.slice (some ⟨W.heap.size, 0, none⟩) 0 C) (W.alloc (.cells (noughts C) 75)) := make_any _ _ 0 C rfl (by omega) (by omega) (by omega)
    gi_wp2_with (refine ⟨trivial, ?_⟩; gi_at_call 114; refine (digitPairs_in Fence.wide _ trivial rfl _ _ _ _ _ _ _).mono ?_; rintro e w' ⟨rfl, rfl⟩)
  all_goals
    obtain ⟨W0, hW0⟩ : ∃ W0, w.alloc (.cells (noughts C) 75) = W0 := ⟨_, rfl⟩
    rw [hW0]
    have hs0 : W0.heap.size = w.heap.size + 1 := by rw [← hW0, World.size_alloc]
    have hb0 : Below w.heap.size w W0 := by rw [← hW0]; exact (Below.refl _ w).alloc (Nat.le_refl _) _
    have ho0 : W0.ownsRow w.heap.size 75 1 (.slice (some ⟨w.heap.size, 0, none⟩) 0 C) 0 [] := by
      rw [← hW0]
      exact World.ownsRow_made w _ C (Nat.le_refl _) (by unfold maxLen; omega) (by rw [noughts_size]; omega)
    clear hW0 hmk
    have bO : Boxed (W0.alloc (.cells #[.slice (some ⟨w.heap.size, 0, none⟩) 0 C] 44)) (w.heap.size + 1) 44 (.slice (some ⟨w.heap.size, 0, none⟩) 0 C) := Boxed.new' hs0 _ _
    have bC : Boxed ((W0.alloc (.cells #[.slice (some ⟨w.heap.size, 0, none⟩) 0 C] 44)).alloc (.cells #[.int .u32 0] 75)) (w.heap.size + 1 + 1) 75 (.int .u32 0) := Boxed.new' (by rw [World.size_alloc, hs0]) _ _
    have bA : Boxed (((W0.alloc (.cells #[.slice (some ⟨w.heap.size, 0, none⟩) 0 C] 44)).alloc (.cells #[.int .u32 0] 75)).alloc (.cells #[.slice ao la ca] 44)) (w.heap.size + 1 + 1 + 1) 44 (.slice ao la ca) := Boxed.new' (by rw [World.size_alloc, World.size_alloc, hs0]) _ _
    have bB : Boxed ((((W0.alloc (.cells #[.slice (some ⟨w.heap.size, 0, none⟩) 0 C] 44)).alloc (.cells #[.int .u32 0] 75)).alloc (.cells #[.slice ao la ca] 44)).alloc (.cells #[.slice bo lb cb] 44)) (w.heap.size + 1 + 1 + 1 + 1) 44 (.slice bo lb cb) := Boxed.new' (by rw [World.size_alloc, World.size_alloc, World.size_alloc, hs0]) _ _
    have bO4 := ((bO.alloc (.cells #[.int .u32 0] 75)).alloc (.cells #[.slice ao la ca] 44)).alloc (.cells #[.slice bo lb cb] 44)
    have bC4 := (bC.alloc (.cells #[.slice ao la ca] 44)).alloc (.cells #[.slice bo lb cb] 44)
    have bA4 := bA.alloc (.cells #[.slice bo lb cb] 44)
    have ho4 := (((ho0.alloc (.cells #[.slice (some ⟨w.heap.size, 0, none⟩) 0 C] 44)).alloc (.cells #[.int .u32 0] 75)).alloc (.cells #[.slice ao la ca] 44)).alloc (.cells #[.slice bo lb cb] 44)
    have hb4 := (((hb0.alloc (by omega) (.cells #[.slice (some ⟨w.heap.size, 0, none⟩) 0 C] 44)).alloc (by simp; omega) (.cells #[.int .u32 0] 75)).alloc (by simp; omega) (.cells #[.slice ao la ca] 44)).alloc (by simp; omega) (.cells #[.slice bo lb cb] 44)
    have hs4 : ((((W0.alloc (.cells #[.slice (some ⟨w.heap.size, 0, none⟩) 0 C] 44)).alloc (.cells #[.int .u32 0] 75)).alloc (.cells #[.slice ao la ca] 44)).alloc (.cells #[.slice bo lb cb] 44)).heap.size = w.heap.size + 5 := by simp; omega
    clear bO bC bA ho0 hb0 hs0
    revert bO4 bC4 bA4 bB ho4 hb4 hs4
    generalize ((((W0.alloc (.cells #[.slice (some ⟨w.heap.size, 0, none⟩) 0 C] 44)).alloc (.cells #[.int .u32 0] 75)).alloc (.cells #[.slice ao la ca] 44)).alloc (.cells #[.slice bo lb cb] 44)) = W4
    intro bB bO4 bC4 bA4 ho4 hb4 hs4
    have ra4 := ra.below hb4
    have rb4 := rb.below hb4
    refine wpIn_rangeFunc_ownG (w := W4) rfl (by omega) (gf := 132) (lb := #[.pointer (some ⟨w.heap.size + 1 + 1 + 1, 0, none⟩), .pointer (some ⟨w.heap.size + 1 + 1 + 1 + 1, 0, none⟩)]) rfl trivial (enters_of Tryd.func132 (by kernel_rfl) rfl)
      (pairs_stops Fence.wide _ trivial rfl (by omega) (w.heap.size + 1 + 1 + 1) (w.heap.size + 1 + 1 + 1 + 1) w.heap.size ao bo la ca lb cb m k _ (by omega) (by omega) (by omega) bA4.cell bB.cell ra4 rb4) KpP.trans (KpP.put (by omega) (by omega) (by omega)) (Below.refl _ _) (fun _ => rfl)
      (PlusI w.heap.size (w.heap.size + 1) (w.heap.size + 1 + 1) C w)
      (fun _ _ _ => False)
      (plusI_own _ _ _ _ _ _ (by omega))
      (fun _ _ _ _ _ hs _ _ => hs)
      ⟨[], 0, ⟨_, bO4, ho4, rfl⟩, bC4, ⟨rfl, by omega, small_nil, rfl⟩, hb4⟩
      ?_ ?_ ?_ ?_ ?_
    rotate_left
    · intro l x W K hK
      gi_wp2
      exact hK
    · rintro l pre ⟨⟨x, y⟩, hx, hy⟩ W ⟨out, c, ⟨v, hv, hrow, rfl⟩, hvc, ⟨f1, f2, f3, f4⟩, hB⟩ hlt
      have HS := Lib.hid (plus_step out pre ⟨(x, y), hx, hy⟩ c f1 f2 f3 f4)
      have hol : out.length + 1 ≤ C := by omega
      have h4 := hv.cell
      have h5 := hv.frozen
      have h6 := hvc.cell
      have h7 := hvc.frozen
      have hz := hB.size
      dsimp only at hx hy HS ⊢
      clear f1 f3 f4
      obtain ⟨s, hs⟩ : ∃ s, (x + y + c) % 4294967296 = s := ⟨_, rfl⟩
      obtain ⟨c', hc'⟩ : ∃ c', (x + y + c) / 4294967296 = c' := ⟨_, rfl⟩
      have add := add32_any x y c W hx hy f2
      rw [hs, hc'] at add HS
      clear hs hc'
      have hrow2 := hrow.kept (grownBy_setCell' W (w.heap.size + 1 + 1) (.int .u32 (c' : Int))) (.inr (by simp [Value.ownBlock]; omega))
      have hv2 := hv.other (B' := w.heap.size + 1 + 1) (by omega) (.int .u32 (c' : Int))
      have hvc2 := hvc.set (.int .u32 (c' : Int))
      gi_wp2_with (first
        | (refine ⟨trivial, ?_⟩; gi_at_call 128; refine (CallsIn.inRound l (callsIn_wide.2 add)).mono ?_; rintro e w' ⟨rfl, rfl⟩)
        | (gi_at_builtin; refine wpListIn_append_fits _ rfl _ _ 44 rfl w.heap.size 75 i0 1 Tryd.underlying44 hi hz1 w.heap.size out.length C _ rfl (hrow2.alloc _) ⟨W.heap.size, 0, none⟩ 1 1 [.int .u32 (s : Int)] rfl rfl (cell_one_new' (by simp)) (by simp [Value.oneCell']) (by omega) ?_; intro w1 hown' hgrow; have hv3 := (hv2.alloc (.cells #[.int .u32 (s : Int)] 75)).kept hgrow (by simp); have hc3 := hv3.cell; have hf3 := hv3.frozen))
      have hrow3 := hown'.kept (grownBy_setCell' w1 (w.heap.size + 1) (.slice (some ⟨w.heap.size, 0, none⟩) (out.length + 1) C)) (.inr (by simp [Value.ownBlock]))
      have hvc3 := ((hvc2.alloc (.cells #[.int .u32 (s : Int)] 75)).kept hgrow (by simp; omega)).other (B' := w.heap.size + 1) (by omega) (.slice (some ⟨w.heap.size, 0, none⟩) (out.length + 1) C)
      refine ⟨((((KeepsOthers.setCell W _ _).trans (KeepsOthers.alloc _ _)).from _).trans (KeepsFrom.of_grownBy hgrow (fun j e => by cases e; omega))).trans ((KeepsOthers.setCell _ _ _).from _),
        ((((KpP.refl _ _ _ W).setCell (by omega) _).alloc _).grown hgrow (fun j e => by cases e; omega)).setCell (by omega) _, out ++ [s], c', ⟨_, hv3.set _, ?_, ?_⟩, hvc3, HS.out, ?_⟩
      · simpa [u32v] using hrow3
      · simp
      · exact (((hB.setCell (p := ⟨w.heap.size + 1 + 1, 0, none⟩) (by simp; omega) _).alloc (by simp; omega) _).grown hgrow (by simp; omega) (fun j e => by cases e; omega)).setCell (p := ⟨w.heap.size + 1, 0, none⟩) (by simp) _
    · rintro D ys W hD rfl ⟨out, c, ⟨v, hv, hrow, rfl⟩, hvc, ⟨f1, f2, f3, f4⟩, hB⟩ hK
      have h4 := hv.cell
      have h5 := hv.frozen
      have h6 := hvc.cell
      have h7 := hvc.frozen
      have hz := hB.size
      have hol : out.length + 1 ≤ C := by rw [f1, upto_length]; omega
      rw [HC.out] at f4
      have HV := Lib.hid (ev_snoc 4294967296 out c |>.trans f4)
      have HS := Lib.hid (show Small (out ++ [c]) by
        intro d hd
        rcases List.mem_append.1 hd with hd | hd
        · exact f3 d hd
        · simp at hd; omega)
      clear f1 f3 f4
      gi_wp2_with (first
        | (gi_at_builtin; refine wpListIn_append_fits _ rfl _ _ 44 rfl w.heap.size 75 i0 1 Tryd.underlying44 hi hz1 w.heap.size out.length C _ rfl (hrow.alloc _) ⟨W.heap.size, 0, none⟩ 1 1 [.int .u32 (c : Int)] rfl rfl (cell_one_new' (by simp)) (by simp [Value.oneCell']) (by omega) ?_; intro w1 hown' hgrow))
      have hown2 : w1.ownsRow w.heap.size 75 1 (.slice (some ⟨w.heap.size, 0, none⟩) (out.length + 1) C) (out ++ [c]).length ((out ++ [c]).map u32v) := by simpa [u32v] using hown'
      refine ⟨trivial, ?_⟩
      refine (callsIn_wide.2 (cut_any w.heap.size _ (out ++ [c]) w1 hown2 HS.out (by simp; omega))).mono ?_
      rintro e w2 ⟨⟨v', rfl, hnat⟩, rfl⟩
      rw [HV.out] at hnat
      obtain ⟨ao', c1, rfl⟩ := hnat.slice
      gi_wp2
      have hDl := (Array.getElem?_eq_some_iff.1 hK).1
      have hK1 := (hgrow.block D (by simp; omega) (by simp; omega)).trans ((Below.heap_alloc W _ D hDl).trans hK)
      have hb1 : Below w.heap.size w w1 := (hB.alloc hz _).grown hgrow (by simp; omega) (fun j e => by cases e; omega)
      refine ⟨by simp, .inl ⟨_, _, rfl, run_takeDeferred hK1, ?_⟩⟩
      exact ⟨_, results_tmp rfl _ _ _, ⟨_, rfl, hnat.putObj _ hK1 rfl⟩, hb1.trans (belowK_b (w := w) (Nat.le_refl _) w1 D _ _ (by omega) hK1 rfl rfl)⟩
    · rintro D c pre W _ _ h _
      exact h.elim
end Go.Proofs.YtmnibfdenmeepaaDoor
