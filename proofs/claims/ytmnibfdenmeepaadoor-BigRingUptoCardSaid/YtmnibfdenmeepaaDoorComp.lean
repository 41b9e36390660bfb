/- compare of two numbers in words. -/
import Derived.Test.YtmnibfdenmeepaaDoorMem
namespace Go.Proofs.YtmnibfdenmeepaaDoor
open Go.RowKit Go.Shelf Big

attribute [local go_sem] Oper.semAt_some

theorem Boxed.cell' {W : World} {B : Nat} {t : TypeId} {v : Value} (h : Boxed W B t v) : W.cell? ⟨B, 0, none⟩ = some v := h.cell
/-- The order of what has come. -/
def cmpL (l : List Pr) : Int := cmp (ev 4294967296 (fsts l)) (ev 4294967296 (snds l))
theorem cmpL_snoc (l : List Pr) (x : Pr) : cmpL (l ++ [x]) = if x.1.2 < x.1.1 then 1 else if x.1.1 < x.1.2 then -1 else cmpL l := by
  unfold cmpL
  rw [fsts_snoc, snds_snoc, ev_snoc, ev_snoc, fsts_length, snds_length]
  exact cmp_step (ev_fsts_lt l) (ev_snds_lt l)

set_option maxRecDepth 100000 in
set_option maxHeartbeats 2000000 in
theorem compare_any (B1 B2 m k : Nat) (va vb : Value) (w : World) (ha : NatIs w B1 va m) (hb : NatIs w B2 vb k) (hla : (lims 4294967296 m).length ≤ 100000) (hlb : (lims 4294967296 k).length ≤ 100000) :
    Calls Tryd.prog 74 #[va, vb] w fun e w' => e = .returned (.int .i64 (cmp m k)) ∧ Below w.heap.size w w' := by
  obtain ⟨ao, ca, rfl, ra⟩ := ha.reads hla
  obtain ⟨bo, cb, rfl, rb⟩ := hb.reads hlb
  have HC : Hid (cmpL (upto m k (max (lims 4294967296 m).length (lims 4294967296 k).length)) = cmp m k) := Lib.hid (by
    unfold cmpL
    rw [ev_fsts_upto, ev_snds_upto, mod_max_l (Nat.le_max_left _ _), mod_max_l (Nat.le_max_right _ _)])
  revert ra rb HC
  generalize (lims 4294967296 m).length = la
  generalize (lims 4294967296 k).length = lb
  intro ra rb HC
  clear ha hb hla hlb
  refine (callsIn_wide (n := 5)).1 ?_
  refine callsIn_of_wp_marks Tryd.func74 rfl trivial ?_ rfl
  simp only [Tryd.ntmps74, List.size_toArray, List.length_cons, List.length_nil, Nat.reduceAdd, Nat.reduceSub, Array.replicate_succ, Array.replicate_zero, List.push_toArray, List.append_toArray, List.nil_append, List.cons_append]
  gi_wp2_with (refine ⟨trivial, ?_⟩; gi_at_call 114; refine (digitPairs_in Fence.wide _ trivial rfl _ _ _ _ _ _ _).mono ?_; rintro e w' ⟨rfl, rfl⟩)
  have bO := Boxed.new w 3 (.int .i64 0)
  have bA := Boxed.new (w.alloc (.cells #[.int .i64 0] 3)) 44 (.slice ao la ca)
  have bB := Boxed.new ((w.alloc (.cells #[.int .i64 0] 3)).alloc (.cells #[.slice ao la ca] 44)) 44 (.slice bo lb cb)
  have bA2 := bA.alloc (.cells #[.slice bo lb cb] 44)
  have bO2 := (bO.alloc (.cells #[.slice ao la ca] 44)).alloc (.cells #[.slice bo lb cb] 44)
  rw [World.size_alloc] at bA bA2
  rw [World.size_alloc, World.size_alloc] at bB
  have hB0 : Below w.heap.size w (((w.alloc (.cells #[.int .i64 0] 3)).alloc (.cells #[.slice ao la ca] 44)).alloc (.cells #[.slice bo lb cb] 44)) := (((Below.refl _ w).alloc (Nat.le_refl _) _).alloc (by simp) _).alloc (by simp; omega) _
  have ra2 := ra.below hB0
  have rb2 := rb.below hB0
  refine wpIn_rangeFunc_ownG (w := ((w.alloc (.cells #[.int .i64 0] 3)).alloc (.cells #[.slice ao la ca] 44)).alloc (.cells #[.slice bo lb cb] 44)) rfl (by omega) (gf := 132) (lb := #[.pointer (some ⟨w.heap.size + 1, 0, none⟩), .pointer (some ⟨w.heap.size + 1 + 1, 0, none⟩)]) rfl trivial (enters_of Tryd.func132 (by kernel_rfl) rfl)
    (pairs_stops Fence.wide _ trivial rfl (by omega) (w.heap.size + 1) (w.heap.size + 1 + 1) w.heap.size ao bo la ca lb cb m k _ (by simp) (by simp) (by simp; omega) bA2.cell bB.cell ra2 rb2) KpP.trans (KpP.put (by simp; omega) (by simp) (by simp)) (Below.refl _ _) (fun _ => rfl)
    (fun pre W => Boxed W w.heap.size 3 (.int .i64 (cmpL pre)) ∧ Below w.heap.size w W)
    (fun _ _ _ => False)
    (OwnFrom.and (Own.from (boxed_own w.heap.size 3 (fun pre => .int .i64 (cmpL pre))) _) (ownFrom_below (Nat.le_refl _) (by simp; omega)))
    (fun _ _ _ _ _ hs _ _ => hs)
    ⟨bO2, hB0⟩
    (fun x => { tmps := #[.slice ao la ca, .slice bo lb cb, undef, undef, .int .i64 0, .pointer (some ⟨w.heap.size, 0, none⟩), .int .u32 (x.1.1 : Int), .int .u32 (x.1.2 : Int), .slice ao la ca, .slice bo lb cb, .func (.func 132) #[] #[.pointer (some ⟨w.heap.size + 1, 0, none⟩), .pointer (some ⟨w.heap.size + 1 + 1, 0, none⟩)], .int .u32 (x.1.1 : Int), .int .u32 (x.1.2 : Int), undef, undef, undef, undef, undef, undef, undef], defers := [] }) ?assign ?body ?done ?stop
  case assign =>
    intro l x W K hK
    gi_wp2
    exact hK
  case body =>
    rintro l pre ⟨⟨x, y⟩, hx, hy⟩ W ⟨hv, hB⟩ hlt
    have hc := hv.cell
    have hf := hv.frozen
    have HS := Lib.hid (cmpL_snoc pre ⟨(x, y), hx, hy⟩)
    dsimp only at hx hy HS ⊢
    by_cases h1 : y < x
    · have H := Lib.hid (show cmpL (pre ++ [⟨(x, y), hx, hy⟩]) = 1 by rw [HS.out, if_pos h1])
      have g1 : (x : Int) > (y : Int) := by omega
      gi_wp2
      refine ⟨(KeepsOthers.setCell _ _ _).from _, (KpP.refl _ _ _ W).setCell (by omega) _, ⟨?_, hB.setCell (p := ⟨w.heap.size, 0, none⟩) (Nat.le_refl _) _⟩⟩
      rw [H.out]
      exact hv.set _
    · have g1 : ¬ (x : Int) > (y : Int) := by omega
      by_cases h2 : x < y
      · have H := Lib.hid (show cmpL (pre ++ [⟨(x, y), hx, hy⟩]) = -1 by rw [HS.out, if_neg h1, if_pos h2])
        have g2 : (x : Int) < (y : Int) := by omega
        gi_wp2
        refine ⟨(KeepsOthers.setCell _ _ _).from _, (KpP.refl _ _ _ W).setCell (by omega) _, ⟨?_, hB.setCell (p := ⟨w.heap.size, 0, none⟩) (Nat.le_refl _) _⟩⟩
        rw [H.out]
        exact hv.set _
      · have H := Lib.hid (show cmpL (pre ++ [⟨(x, y), hx, hy⟩]) = cmpL pre by rw [HS.out, if_neg h1, if_neg h2])
        have g2 : ¬ (x : Int) < (y : Int) := by omega
        gi_wp2
        refine ⟨KeepsFrom.refl _ _, KpP.refl _ _ _ _, ⟨?_, hB⟩⟩
        rw [H.out]
        exact hv
  case done =>
    rintro D ys W hD rfl ⟨hv, hB⟩ hK
    have hc := hv.cell
    gi_wp2
    refine ⟨by simp, .inl ⟨_, _, rfl, run_takeDeferred hK, ?_⟩⟩
    exact ⟨_, results_tmp rfl _ _ _, by rw [HC.out]; rfl, hB.trans (belowK_b (w := w) (Nat.le_refl _) W D _ _ (by simp at hD; omega) hK rfl rfl)⟩
  case stop =>
    rintro D c pre W _ _ h _
    exact h.elim
end Go.Proofs.YtmnibfdenmeepaaDoor
