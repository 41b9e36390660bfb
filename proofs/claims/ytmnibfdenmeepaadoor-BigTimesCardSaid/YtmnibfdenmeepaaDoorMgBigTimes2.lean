/- The texts Mem Comp Add Plus, one behind the other. -/
import Derived.Test.YtmnibfdenmeepaaDoorMgBigTimes1
import Derived.RangeFuncNested
import Derived.RangeFuncBound
import Derived.RangeFuncCalls
import Derived.RangeFuncLeaves
import Derived.Shelf.Abstract
import Derived.Shelf.RegionOpen
import Derived.WalkKit
import Derived.OwnWalkIn
import Derived.TacticsInMore
import Derived.LoopNIn
import Derived.LoopIn
import Derived.Maps.AppendAt
import Derived.Lib.Hide
import Derived.IntWalk
import Derived.WalkSpells
import Derived.WalkLawsBesides
import Derived.BigQuiet
import Derived.Deep.QuietTactic
import Derived.Laws.OwnMore
import Derived.Deep.LoopGhost
import Derived.Deep.DeepCutAuto
import Derived.Deep.CutBlock
import Derived.Deep.RegionHeld3
import Derived.Test.YtmnibfdenmeepaaDoorRows
/- Numbers in memory: slices of words; the iterator over the words of two. -/
namespace Go.Proofs.YtmnibfdenmeepaaDoor
open Go.RowKit Go.Shelf Big

def u32v (d : Nat) : Value := .int .u32 (d : Int)

/-- A value is the slice of the words of a number, in blocks from B on. -/
def NatIs (w : World) (B : Nat) (v : Value) (n : Nat) : Prop := w.ownsRow B 75 1 v (lims 4294967296 n).length ((lims 4294967296 n).map u32v)

/-- What a reader knows of it. -/
def Reads (w : World) (n₀ : Nat) (ao : Option Addr) (l n : Nat) : Prop :=
  l ≤ 100000 ∧ (∀ j, j < l → ∃ g, ao = some ⟨g, 0, none⟩ ∧ g < n₀ ∧ w.cell? ⟨g, j, none⟩ = some (.int .u32 ((n / 4294967296 ^ j % 4294967296 : Nat) : Int))) ∧ (∀ j, l ≤ j → n / 4294967296 ^ j % 4294967296 = 0)
theorem Reads.below {w w' : World} {n₀ : Nat} {ao : Option Addr} {l n : Nat} (h : Reads w n₀ ao l n) (hb : Below n₀ w w') : Reads w' n₀ ao l n :=
  ⟨h.1, fun j hj => by
    obtain ⟨g, e, hg, hc⟩ := h.2.1 j hj
    exact ⟨g, e, hg, (hb.cell (p := ⟨g, j, none⟩) hg).trans hc⟩, h.2.2⟩

theorem w32_ge : 2 ≤ 4294967296 := by decide
theorem lims_zeros (n j : Nat) (h : (lims 4294967296 n).length ≤ j) : n / 4294967296 ^ j % 4294967296 = 0 := by
  have := (lims_len_le w32_ge n j).1 h
  rw [Nat.div_eq_of_lt this]
theorem lims_get (n j : Nat) (h : j < (lims 4294967296 n).length) : (lims 4294967296 n)[j] = n / 4294967296 ^ j % 4294967296 := by
  have := lims_getD w32_ge n j
  rw [List.getD_eq_getElem?_getD, List.getElem?_eq_getElem h] at this
  exact this

theorem NatIs.reads {w : World} {B : Nat} {v : Value} {n : Nat} (h : NatIs w B v n) (hl : (lims 4294967296 n).length ≤ 100000) :
    ∃ ao c, v = .slice ao (lims 4294967296 n).length c ∧ Reads w w.heap.size ao (lims 4294967296 n).length n := by
  rcases h.2 with ⟨rfl, h0⟩ | ⟨g, cap, cur, rfl, hb, hg, hn, hc, hs, ht⟩
  · refine ⟨none, 0, by rw [h0], hl, fun j hj => by omega, fun j hj => lims_zeros n j hj⟩
  · refine ⟨_, cap, rfl, hl, fun j hj => ⟨g, rfl, (Array.getElem?_eq_some_iff.1 hg).1, ?_⟩, fun j hj => lims_zeros n j hj⟩
    rw [World.ownsRow.cellAt h j (by omega), List.getElem?_map, List.getElem?_eq_getElem hj, lims_get n j hj]
    rfl
theorem NatIs.slice {w : World} {B : Nat} {v : Value} {n : Nat} (h : NatIs w B v n) : ∃ ao c, v = .slice ao (lims 4294967296 n).length c := by
  rcases h.2 with ⟨rfl, h0⟩ | ⟨g, cap, cur, rfl, _⟩
  · exact ⟨none, 0, by rw [h0]⟩
  · exact ⟨_, _, rfl⟩
theorem NatIs.kept {w w' : World} {B : Nat} {v : Value} {n : Nat} (h : NatIs w B v n) (hb : Below w.heap.size w w') : NatIs w' B v n := by
  refine ⟨h.1, ?_⟩
  rcases h.2 with hn | ⟨g, cap, cur, rfl, h1, hg, h3⟩
  · exact .inl hn
  · exact .inr ⟨g, cap, cur, rfl, h1, (hb.block g (Array.getElem?_eq_some_iff.1 hg).1).trans hg, h3⟩
theorem NatIs.mono {w : World} {B B' : Nat} {v : Value} {n : Nat} (h : NatIs w B v n) (hb : B' ≤ B) : NatIs w B' v n := by
  refine ⟨h.1, ?_⟩
  rcases h.2 with hn | ⟨g, cap, cur, rfl, h1, hg, h3⟩
  · exact .inl hn
  · exact .inr ⟨g, cap, cur, rfl, by omega, hg, h3⟩

/-- The words of two numbers at a place. -/
abbrev Pr := { p : Nat × Nat // p.1 < 4294967296 ∧ p.2 < 4294967296 }
abbrev encP (p : Pr) : Array Value := #[.int .u32 (p.1.1 : Int), .int .u32 (p.1.2 : Int)]
def pr (m k j : Nat) : Pr := ⟨(m / 4294967296 ^ j % 4294967296, k / 4294967296 ^ j % 4294967296), Nat.mod_lt _ (by decide), Nat.mod_lt _ (by decide)⟩
def upto (m k n : Nat) : List Pr := (List.range n).map (pr m k)
theorem upto_succ (m k n : Nat) : upto m k (n + 1) = upto m k n ++ [pr m k n] := by simp [upto, List.range_succ]
theorem upto_length (m k n : Nat) : (upto m k n).length = n := by simp [upto]

/-- What a round of a loop over the words must keep: what lay ahead, and the two boxes. -/
def KpP (n₀ Ba Bb : Nat) (W W' : World) : Prop := W.heap.size ≤ W'.heap.size ∧ ∀ b, (b < n₀ ∨ b = Ba ∨ b = Bb) → b < W.heap.size → W'.heap[b]? = W.heap[b]?
theorem KpP.refl (n₀ Ba Bb : Nat) (W : World) : KpP n₀ Ba Bb W W := ⟨Nat.le_refl _, fun _ _ _ => rfl⟩
theorem KpP.trans {n₀ Ba Bb : Nat} {A B C : World} (h : KpP n₀ Ba Bb A B) (k : KpP n₀ Ba Bb B C) : KpP n₀ Ba Bb A C :=
  ⟨Nat.le_trans h.1 k.1, fun b hb hl => (k.2 b hb (Nat.lt_of_lt_of_le hl h.1)).trans (h.2 b hb hl)⟩
theorem KpP.grown {n₀ Ba Bb : Nat} {A B C : World} {row : Option Nat} (h : KpP n₀ Ba Bb A B) (hg : B.grownBy C row) (hr : ∀ k, row = some k → n₀ ≤ k ∧ k ≠ Ba ∧ k ≠ Bb) : KpP n₀ Ba Bb A C :=
  ⟨Nat.le_trans h.1 hg.size, fun b hb hl => (hg.block b (Nat.lt_of_lt_of_le hl h.1) (fun e => by obtain ⟨h1, h2, h3⟩ := hr b e.symm; omega)).trans (h.2 b hb hl)⟩
theorem KpP.setCell {n₀ Ba Bb : Nat} {A B : World} (h : KpP n₀ Ba Bb A B) {b : Nat} (hb : n₀ ≤ b ∧ b ≠ Ba ∧ b ≠ Bb) (u : Value) : KpP n₀ Ba Bb A (B.setCell ⟨b, 0, none⟩ u) :=
  h.grown (grownBy_setCell' B b u) (fun k e => by cases e; exact hb)
theorem KpP.alloc {n₀ Ba Bb : Nat} {A B : World} (h : KpP n₀ Ba Bb A B) (o : Obj) : KpP n₀ Ba Bb A (B.alloc o) :=
  h.grown (World.grownBy_alloc B o none) (fun k e => by cases e)
theorem KpP.put {n₀ Ba Bb : Nat} {w : World} (h1 : n₀ ≤ w.heap.size) (h2 : Ba < w.heap.size) (h3 : Bb < w.heap.size) (W : World) (l : Nat) (o o' : Obj) (hl : w.heap.size ≤ l) (_ : W.heap[l]? = some o) (_ : o.isCells = false) (_ : o.isWalk = false) : KpP n₀ Ba Bb W (W.putObj l o') :=
  (KpP.refl _ _ _ W).grown (grownBy_putObj' W l o') (fun k e => by cases e; omega)
theorem KpP.cell {n₀ Ba Bb : Nat} {A B : World} (h : KpP n₀ Ba Bb A B) {b j : Nat} (hb : b < n₀ ∨ b = Ba ∨ b = Bb) (hl : b < A.heap.size) : B.cell? ⟨b, j, none⟩ = A.cell? ⟨b, j, none⟩ :=
  World.cell?_of_block (h.2 b hb hl)
theorem Reads.keep {w w' : World} {n₀ Ba Bb : Nat} {ao : Option Addr} {l n : Nat} (h : Reads w n₀ ao l n) (hb : KpP n₀ Ba Bb w w') (hn : n₀ ≤ w.heap.size) : Reads w' n₀ ao l n :=
  ⟨h.1, fun j hj => by
    obtain ⟨g, e, hg, hc⟩ := h.2.1 j hj
    exact ⟨g, e, hg, (hb.cell (.inl hg) (by omega)).trans hc⟩, h.2.2⟩

attribute [local go_sem] Oper.semAt_some

set_option maxRecDepth 100000 in
set_option maxHeartbeats 2000000 in
theorem pairs1_in (F : Fence) (n : Nat) (hF : F.fn 132) (hro : F.round = none) (hn : 1 ≤ n) (l Ba Bb n₀ : Nat) (ao bo : Option Addr) (la ca lb cb m k : Nat) (J Jx : List Pr → World → Prop)
    (hY : ∀ pre x W, J pre W → pre.length < max la lb → YieldAt F (n - 1) Tryd.prog l (encP x) W fun e W' =>
      (e = .returned (.bool true) ∧ J (pre ++ [x]) W' ∧ KpP n₀ Ba Bb W W') ∨ (e = .returned (.bool false) ∧ Jx (pre ++ [x]) W'))
    (W : World) (hBa : W.cell? ⟨Ba, 0, none⟩ = some (.slice ao la ca)) (hBb : W.cell? ⟨Bb, 0, none⟩ = some (.slice bo lb cb)) (hba : Ba < W.heap.size) (hbb : Bb < W.heap.size) (hn₀ : n₀ ≤ W.heap.size)
    (ha : Reads W n₀ ao la m) (hb : Reads W n₀ bo lb k) (h0 : J [] W) :
    CallsIn F n Tryd.prog 132 #[.func (.yield l) #[] #[], .pointer (some ⟨Ba, 0, none⟩), .pointer (some ⟨Bb, 0, none⟩)] W fun e W' => (∃ v, e = .returned v) ∧
      ((∃ ys, ys = upto m k (max la lb) ∧ J ys W') ∨ (∃ pre, True ∧ Jx pre W')) := by
  obtain ⟨M, hM⟩ : ∃ M, max la lb = M := ⟨_, rfl⟩
  have hM0 : M ≤ la ∨ M ≤ lb := by omega
  have hM1 : la ≤ M := by omega
  have hM2 : lb ≤ M := by omega
  have hM3 : M ≤ 100000 := by have := ha.1; have := hb.1; omega
  rw [hM] at hY
  refine callsIn_of_wp Tryd.func132 rfl hF ?_ hro
  simp only [Tryd.ntmps132, List.size_toArray, List.length_cons, List.length_nil, Nat.reduceAdd, Nat.reduceSub, Array.replicate_succ, Array.replicate_zero, List.push_toArray, List.append_toArray, List.nil_append, List.cons_append]
  have HM := Lib.hid hM
  clear hM
  gi_wp2
  all_goals
    gi_loopw [12] (fun i wr => ∃ j : Nat, j ≤ M ∧ i = .int .i64 j ∧ J (upto m k j) wr ∧ KpP n₀ Ba Bb W wr)
      (fun i _ => M - (intOf i).toNat)
    case atStart => exact ⟨0, Nat.zero_le _, rfl, h0, KpP.refl _ _ _ _⟩
    case round =>
      obtain ⟨j, hj, rfl, hJs, hnx⟩ := hrel
      have c1 := (hnx.cell (j := 0) (.inr (.inl rfl)) hba).trans hBa
      have c2 := (hnx.cell (j := 0) (.inr (.inr rfl)) hbb).trans hBb
      have ra := ha.keep hnx hn₀
      have rb := hb.keep hnx hn₀
      by_cases hlt : j < M
      · obtain ⟨fn, tmps, assign, body, hy, hR⟩ := hY _ (pr m k j) wr hJs (by rw [upto_length]; exact hlt)
        have hs := upto_succ m k j
        rw [← hs] at hR
        have HR := Lib.hid hR
        clear hs hR
        dsimp only [encP, pr] at hy
        obtain ⟨x, hx⟩ : ∃ x, m / 4294967296 ^ j % 4294967296 = x := ⟨_, rfl⟩
        obtain ⟨y, hyy⟩ : ∃ y, k / 4294967296 ^ j % 4294967296 = y := ⟨_, rfl⟩
        rw [hx, hyy] at hy
        have hm0 := fun h : la ≤ j => hx.symm.trans (ra.2.2 j h)
        have hk0 := fun h : lb ≤ j => hyy.symm.trans (rb.2.2 j h)
        have hmg := fun h : j < la => ra.2.1 j h
        have hkg := fun h : j < lb => rb.2.1 j h
        rw [hx] at hmg
        rw [hyy] at hkg
        have HB := Lib.hid hnx
        clear ra rb hx hyy hY hBa hBb ha hb hJs hnx h0
        by_cases hja : j < la <;> by_cases hjb : j < lb
        · obtain ⟨ga, rfl, hga, hca⟩ := hmg hja
          obtain ⟨gb, rfl, hgb, hcb⟩ := hkg hjb
          clear hmg hkg hm0 hk0
          gi_wp2
          refine HR.out.mono ?_
          rintro e W3 (⟨rfl, hJ3, hk3⟩ | ⟨rfl, hJx3⟩)
          · gi_wp2
            go_roundw
            case rel => exact ⟨j + 1, by omega, by simp, hJ3, HB.out.trans hk3⟩
            case measure => simp [intOf]; omega
          · gi_wp2
            refine bodyPost_ret (results_none rfl _ _ _) rfl ?_
            exact ⟨⟨_, rfl⟩, .inr ⟨_, trivial, hJx3⟩⟩
        · first
          | (clear hmg hkg hm0 hk0; exfalso; omega)
          | (obtain ⟨ga, rfl, hga, hca⟩ := hmg hja
             obtain rfl := hk0 (by omega)
             rw [show ((0 : Nat) : Int) = 0 from rfl] at hy
             clear hmg hkg hm0 hk0
             gi_wp2
             refine HR.out.mono ?_
             rintro e W3 (⟨rfl, hJ3, hk3⟩ | ⟨rfl, hJx3⟩)
             · gi_wp2
               go_roundw
               case rel => exact ⟨j + 1, by omega, by simp, hJ3, HB.out.trans hk3⟩
               case measure => simp [intOf]; omega
             · gi_wp2
               refine bodyPost_ret (results_none rfl _ _ _) rfl ?_
               exact ⟨⟨_, rfl⟩, .inr ⟨_, trivial, hJx3⟩⟩)
        · first
          | (clear hmg hkg hm0 hk0; exfalso; omega)
          | (obtain ⟨gb, rfl, hgb, hcb⟩ := hkg hjb
             obtain rfl := hm0 (by omega)
             rw [show ((0 : Nat) : Int) = 0 from rfl] at hy
             clear hmg hkg hm0 hk0
             gi_wp2
             refine HR.out.mono ?_
             rintro e W3 (⟨rfl, hJ3, hk3⟩ | ⟨rfl, hJx3⟩)
             · gi_wp2
               go_roundw
               case rel => exact ⟨j + 1, by omega, by simp, hJ3, HB.out.trans hk3⟩
               case measure => simp [intOf]; omega
             · gi_wp2
               refine bodyPost_ret (results_none rfl _ _ _) rfl ?_
               exact ⟨⟨_, rfl⟩, .inr ⟨_, trivial, hJx3⟩⟩)
        · clear hmg hkg hm0 hk0; exfalso; omega
      · obtain rfl : j = M := by omega
        clear hY ra rb
        gi_wp2
        go_end0
        exact ⟨⟨_, rfl⟩, .inl ⟨_, by rw [HM.out], hJs⟩⟩

/-- digitPairs: the two slices are boxed. -/
theorem digitPairs_in (F : Fence) (n : Nat) (hF : F.fn 114) (hro : F.round = none) (ao bo : Option Addr) (la ca lb cb : Nat) (w : World) :
    CallsIn F n Tryd.prog 114 #[.slice ao la ca, .slice bo lb cb] w fun e w' => e = .returned (.func (.func 132) #[] #[.pointer (some ⟨w.heap.size, 0, none⟩), .pointer (some ⟨w.heap.size + 1, 0, none⟩)]) ∧ w' = (w.alloc (.cells #[.slice ao la ca] 44)).alloc (.cells #[.slice bo lb cb] 44) := by
  refine callsIn_of_wp Tryd.func114 rfl hF ?_ hro
  simp only [Tryd.ntmps114, List.size_toArray, List.length_cons, List.length_nil, Nat.reduceAdd, Nat.reduceSub, Array.replicate_succ, Array.replicate_zero, List.push_toArray, List.append_toArray, List.nil_append, List.cons_append]
  gi_wp2
  go_ret
  exact ⟨rfl, rfl⟩

theorem pairs_stops (F : Fence) (n : Nat) (hF : F.fn 132) (hro : F.round = none) (hn : 1 ≤ n) (Ba Bb n₀ : Nat) (ao bo : Option Addr) (la ca lb cb m k : Nat) (w : World) (hba : Ba < w.heap.size) (hbb : Bb < w.heap.size) (hn₀ : n₀ ≤ w.heap.size)
    (hBa : w.cell? ⟨Ba, 0, none⟩ = some (.slice ao la ca)) (hBb : w.cell? ⟨Bb, 0, none⟩ = some (.slice bo lb cb)) (ha : Reads w n₀ ao la m) (hb : Reads w n₀ bo lb k) :
    SeqStopsK F n Tryd.prog 132 #[.pointer (some ⟨Ba, 0, none⟩), .pointer (some ⟨Bb, 0, none⟩)] encP (KpP n₀ Ba Bb) (fun ys => ys = upto m k (max la lb)) (fun _ => True) (max la lb) w := fun l J Jx W hW _ _ hY h0 =>
  pairs1_in F n hF hro hn l Ba Bb n₀ ao bo la ca lb cb m k J Jx hY W ((hW.cell (p := ⟨Ba, 0, none⟩) hba).trans hBa) ((hW.cell (p := ⟨Bb, 0, none⟩) hbb).trans hBb) (by have := hW.size; omega) (by have := hW.size; omega) (by have := hW.size; omega) (ha.below (hW.mono hn₀)) (hb.below (hW.mono hn₀)) h0

/-- The first and the second words. -/
def fsts (l : List Pr) : List Nat := l.map (·.1.1)
def snds (l : List Pr) : List Nat := l.map (·.1.2)
theorem fsts_snoc (l : List Pr) (x : Pr) : fsts (l ++ [x]) = fsts l ++ [x.1.1] := by simp [fsts]
theorem snds_snoc (l : List Pr) (x : Pr) : snds (l ++ [x]) = snds l ++ [x.1.2] := by simp [snds]
theorem fsts_length (l : List Pr) : (fsts l).length = l.length := by simp [fsts]
theorem snds_length (l : List Pr) : (snds l).length = l.length := by simp [snds]
theorem ev_fsts_lt (l : List Pr) : ev 4294967296 (fsts l) < 4294967296 ^ l.length := by
  have := ev_lt (B := 4294967296) (l := fsts l) (by intro d hd; simp only [fsts, List.mem_map] at hd; obtain ⟨x, _, rfl⟩ := hd; exact x.2.1)
  rwa [fsts_length] at this
theorem ev_snds_lt (l : List Pr) : ev 4294967296 (snds l) < 4294967296 ^ l.length := by
  have := ev_lt (B := 4294967296) (l := snds l) (by intro d hd; simp only [snds, List.mem_map] at hd; obtain ⟨x, _, rfl⟩ := hd; exact x.2.2)
  rwa [snds_length] at this
theorem ev_mod (m j : Nat) : ev 4294967296 ((List.range j).map fun i => m / 4294967296 ^ i % 4294967296) = m % 4294967296 ^ j := by
  induction j with
  | zero => simp [ev, Nat.mod_one]
  | succ j ih =>
    rw [List.range_succ, List.map_append, ev_append, ih]
    simp only [List.length_map, List.length_range, List.map_cons, List.map_nil, ev, Nat.mul_zero, Nat.add_zero]
    rw [Nat.pow_succ, Nat.mod_mul]
theorem ev_fsts_upto (m k j : Nat) : ev 4294967296 (fsts (upto m k j)) = m % 4294967296 ^ j := by
  rw [← ev_mod]; simp [fsts, upto, pr, Function.comp_def]
theorem ev_snds_upto (m k j : Nat) : ev 4294967296 (snds (upto m k j)) = k % 4294967296 ^ j := by
  rw [← ev_mod]; simp [snds, upto, pr, Function.comp_def]
theorem mod_max_l {m j : Nat} (h : (lims 4294967296 m).length ≤ j) : m % 4294967296 ^ j = m := Nat.mod_eq_of_lt ((lims_len_le w32_ge m j).1 h)
end Go.Proofs.YtmnibfdenmeepaaDoor
/- compare of two numbers in words. -/
namespace Go.Proofs.YtmnibfdenmeepaaDoor
open Go.RowKit Go.Shelf Big

attribute [local go_sem] Oper.semAt_some

theorem Boxed.cell' {W : World} {B : Nat} {t : TypeId} {v : Value} (h : Boxed W B t v) : W.cell? ⟨B, 0, none⟩ = some v := h.cell
/-- The order of what has come. -/
def cmpL (l : List Pr) : Int := cmp (ev 4294967296 (fsts l)) (ev 4294967296 (snds l))
theorem cmpL_snoc (l : List Pr) (x : Pr) : cmpL (l ++ [x]) = if x.1.2 < x.1.1 then 1 else if x.1.1 < x.1.2 then -1 else cmpL l := by
  unfold cmpL
  rw [fsts_snoc, snds_snoc, ev_snoc, ev_snoc, fsts_length, snds_length]
  exact cmp_step (ev_fsts_lt l) (ev_snds_lt l)

set_option maxRecDepth 100000 in
set_option maxHeartbeats 2000000 in
theorem compare_any (B1 B2 m k : Nat) (va vb : Value) (w : World) (ha : NatIs w B1 va m) (hb : NatIs w B2 vb k) (hla : (lims 4294967296 m).length ≤ 100000) (hlb : (lims 4294967296 k).length ≤ 100000) :
    Calls Tryd.prog 74 #[va, vb] w fun e w' => e = .returned (.int .i64 (cmp m k)) ∧ Below w.heap.size w w' := by
  obtain ⟨ao, ca, rfl, ra⟩ := ha.reads hla
  obtain ⟨bo, cb, rfl, rb⟩ := hb.reads hlb
  have HC : Hid (cmpL (upto m k (max (lims 4294967296 m).length (lims 4294967296 k).length)) = cmp m k) := Lib.hid (by
    unfold cmpL
    rw [ev_fsts_upto, ev_snds_upto, mod_max_l (Nat.le_max_left _ _), mod_max_l (Nat.le_max_right _ _)])
  revert ra rb HC
  generalize (lims 4294967296 m).length = la
  generalize (lims 4294967296 k).length = lb
  intro ra rb HC
  clear ha hb hla hlb
  refine (callsIn_wide (n := 5)).1 ?_
  refine callsIn_of_wp_marks Tryd.func74 rfl trivial ?_ rfl
  simp only [Tryd.ntmps74, List.size_toArray, List.length_cons, List.length_nil, Nat.reduceAdd, Nat.reduceSub, Array.replicate_succ, Array.replicate_zero, List.push_toArray, List.append_toArray, List.nil_append, List.cons_append]
  gi_wp2_with (refine ⟨trivial, ?_⟩; gi_at_call 114; refine (digitPairs_in Fence.wide _ trivial rfl _ _ _ _ _ _ _).mono ?_; rintro e w' ⟨rfl, rfl⟩)
  have bO := Boxed.new w 3 (.int .i64 0)
  have bA := Boxed.new (w.alloc (.cells #[.int .i64 0] 3)) 44 (.slice ao la ca)
  have bB := Boxed.new ((w.alloc (.cells #[.int .i64 0] 3)).alloc (.cells #[.slice ao la ca] 44)) 44 (.slice bo lb cb)
  have bA2 := bA.alloc (.cells #[.slice bo lb cb] 44)
  have bO2 := (bO.alloc (.cells #[.slice ao la ca] 44)).alloc (.cells #[.slice bo lb cb] 44)
  rw [World.size_alloc] at bA bA2
  rw [World.size_alloc, World.size_alloc] at bB
  have hB0 : Below w.heap.size w (((w.alloc (.cells #[.int .i64 0] 3)).alloc (.cells #[.slice ao la ca] 44)).alloc (.cells #[.slice bo lb cb] 44)) := (((Below.refl _ w).alloc (Nat.le_refl _) _).alloc (by simp) _).alloc (by simp; omega) _
  have ra2 := ra.below hB0
  have rb2 := rb.below hB0
  refine wpIn_rangeFunc_ownG (w := ((w.alloc (.cells #[.int .i64 0] 3)).alloc (.cells #[.slice ao la ca] 44)).alloc (.cells #[.slice bo lb cb] 44)) rfl (by omega) (gf := 132) (lb := #[.pointer (some ⟨w.heap.size + 1, 0, none⟩), .pointer (some ⟨w.heap.size + 1 + 1, 0, none⟩)]) rfl trivial (enters_of Tryd.func132 (by kernel_rfl) rfl)
    (pairs_stops Fence.wide _ trivial rfl (by omega) (w.heap.size + 1) (w.heap.size + 1 + 1) w.heap.size ao bo la ca lb cb m k _ (by simp) (by simp) (by simp; omega) bA2.cell bB.cell ra2 rb2) KpP.trans (KpP.put (by simp; omega) (by simp) (by simp)) (Below.refl _ _) (fun _ => rfl)
    (fun pre W => Boxed W w.heap.size 3 (.int .i64 (cmpL pre)) ∧ Below w.heap.size w W)
    (fun _ _ _ => False)
    (OwnFrom.and (Own.from (boxed_own w.heap.size 3 (fun pre => .int .i64 (cmpL pre))) _) (ownFrom_below (Nat.le_refl _) (by simp; omega)))
    (fun _ _ _ _ _ hs _ _ => hs)
    ⟨bO2, hB0⟩
    (fun x => { tmps := #[.slice ao la ca, .slice bo lb cb, undef, undef, .int .i64 0, .pointer (some ⟨w.heap.size, 0, none⟩), .int .u32 (x.1.1 : Int), .int .u32 (x.1.2 : Int), .slice ao la ca, .slice bo lb cb, .func (.func 132) #[] #[.pointer (some ⟨w.heap.size + 1, 0, none⟩), .pointer (some ⟨w.heap.size + 1 + 1, 0, none⟩)], .int .u32 (x.1.1 : Int), .int .u32 (x.1.2 : Int), undef, undef, undef, undef, undef, undef, undef], defers := [] }) ?assign ?body ?done ?stop
  case assign =>
    intro l x W K hK
    gi_wp2
    exact hK
  case body =>
    rintro l pre ⟨⟨x, y⟩, hx, hy⟩ W ⟨hv, hB⟩ hlt
    have hc := hv.cell
    have hf := hv.frozen
    have HS := Lib.hid (cmpL_snoc pre ⟨(x, y), hx, hy⟩)
    dsimp only at hx hy HS ⊢
    by_cases h1 : y < x
    · have H := Lib.hid (show cmpL (pre ++ [⟨(x, y), hx, hy⟩]) = 1 by rw [HS.out, if_pos h1])
      have g1 : (x : Int) > (y : Int) := by omega
      gi_wp2
      refine ⟨(KeepsOthers.setCell _ _ _).from _, (KpP.refl _ _ _ W).setCell (by omega) _, ⟨?_, hB.setCell (p := ⟨w.heap.size, 0, none⟩) (Nat.le_refl _) _⟩⟩
      rw [H.out]
      exact hv.set _
    · have g1 : ¬ (x : Int) > (y : Int) := by omega
      by_cases h2 : x < y
      · have H := Lib.hid (show cmpL (pre ++ [⟨(x, y), hx, hy⟩]) = -1 by rw [HS.out, if_neg h1, if_pos h2])
        have g2 : (x : Int) < (y : Int) := by omega
        gi_wp2
        refine ⟨(KeepsOthers.setCell _ _ _).from _, (KpP.refl _ _ _ W).setCell (by omega) _, ⟨?_, hB.setCell (p := ⟨w.heap.size, 0, none⟩) (Nat.le_refl _) _⟩⟩
        rw [H.out]
        exact hv.set _
      · have H := Lib.hid (show cmpL (pre ++ [⟨(x, y), hx, hy⟩]) = cmpL pre by rw [HS.out, if_neg h1, if_neg h2])
        have g2 : ¬ (x : Int) < (y : Int) := by omega
        gi_wp2
        refine ⟨KeepsFrom.refl _ _, KpP.refl _ _ _ _, ⟨?_, hB⟩⟩
        rw [H.out]
        exact hv
  case done =>
    rintro D ys W hD rfl ⟨hv, hB⟩ hK
    have hc := hv.cell
    gi_wp2
    refine ⟨by simp, .inl ⟨_, _, rfl, run_takeDeferred hK, ?_⟩⟩
    exact ⟨_, results_tmp rfl _ _ _, by rw [HC.out]; rfl, hB.trans (belowK_b (w := w) (Nat.le_refl _) W D _ _ (by simp at hD; omega) hK rfl rfl)⟩
  case stop =>
    rintro D c pre W _ _ h _
    exact h.elim
end Go.Proofs.YtmnibfdenmeepaaDoor
/- Sums of words; cut. -/
namespace Go.Proofs.YtmnibfdenmeepaaDoor
open Go.RowKit Go.Shelf Big

theorem add32_any (x y c : Nat) (w : World) (hx : x < 4294967296) (hy : y < 4294967296) (hc : c ≤ 1) :
    Calls Tryd.prog 128 #[.int .u32 (x : Int), .int .u32 (y : Int), .int .u32 (c : Int)] w fun e w' => e = .returned (.tuple #[.int .u32 (((x + y + c) % 4294967296 : Nat) : Int), .int .u32 (((x + y + c) / 4294967296 : Nat) : Int)]) ∧ w = w' := by
  have h1 : (x : Int) < 4294967296 := by omega
  have h2 : (y : Int) < 4294967296 := by omega
  have h3 : (c : Int) ≤ 1 := by omega
  go_enter Tryd.func128, Tryd.ntmps128
  go_wp2
  go_ret2
  refine ⟨?_, rfl⟩
  rw [Int.natCast_emod, Int.natCast_ediv]
  rfl

/-- Words are all below the base. -/
def Small (ds : List Nat) : Prop := ∀ d ∈ ds, d < 4294967296

theorem cut_owns {w : World} {B g cap k : Nat} {ds : List Nat} (h : w.ownsRow B 75 1 (.slice (some ⟨g, 0, none⟩) ds.length cap) ds.length (ds.map u32v)) (ht : lims 4294967296 (ev 4294967296 ds) = ds.take k) (hk : k ≤ ds.length) :
    NatIs w B (.slice (some ⟨g, 0, none⟩) k cap) (ev 4294967296 ds) := by
  unfold NatIs
  rw [ht]
  have hl : (ds.take k).length = k := by simp; omega
  rw [hl]
  rcases h.2 with ⟨e, _⟩ | ⟨g', cap', cur, e, hb, hg, hn, hc, hz, hx⟩
  · cases e
  · cases e
    refine ⟨by simp; omega, .inr ⟨g, cap, cur, rfl, hb, hg, by omega, hc, hz, ?_⟩⟩
    have : cur.toList.take (k * 1) = (cur.toList.take (ds.length * 1)).take k := by rw [List.take_take]; congr 1; omega
    rw [this, hx, List.map_take]

set_option maxHeartbeats 800000 in
theorem cut_any (B : Nat) (v : Value) (ds : List Nat) (w : World) (h : w.ownsRow B 75 1 v ds.length (ds.map u32v)) (hs : Small ds) (hl : ds.length ≤ 300000) :
    Calls Tryd.prog 91 #[v] w fun e w' => (∃ v', e = .returned v' ∧ NatIs w B v' (ev 4294967296 ds)) ∧ w = w' := by
  rcases h.2 with ⟨rfl, h0⟩ | ⟨g, cap, cur, rfl, hb, hg, hn, hc, hz, ht⟩
  · have e : ds = [] := List.eq_nil_of_length_eq_zero h0
    subst e
    go_enter Tryd.func91, Tryd.ntmps91
    go_wp2
    go_loop [0] (fun v => v = .slice none 0 0) (fun _ => 0)
    case atStart => rfl
    case round =>
      subst hrel
      go_wp2
      go_ret
      refine ⟨⟨_, rfl, ?_⟩, rfl⟩
      show w.ownsRow _ _ _ _ (lims 4294967296 0).length ((lims 4294967296 0).map u32v)
      rw [lims_zero]
      exact World.ownsRow_nil _ _ _ _
  · have hcell : ∀ j, (hj : j < ds.length) → w.cell? ⟨g, j, none⟩ = some (.int .u32 (ds[j] : Int)) := fun j hj => by
      rw [World.ownsRow.cellAt h j (by omega), List.getElem?_map, List.getElem?_eq_getElem hj]; rfl
    have HC := Lib.hid hcell
    have HH := Lib.hid h
    clear hcell h ht
    go_enter Tryd.func91, Tryd.ntmps91
    go_wp2
    go_loopg [0] ds.length (fun k v wx => w = wx ∧ v = .slice (some ⟨g, 0, none⟩) k cap ∧ k ≤ ds.length ∧ ev 4294967296 (ds.take k) = ev 4294967296 ds)
    case atStart => exact ⟨rfl, rfl, Nat.le_refl _, by rw [List.take_length]⟩
    case round =>
      obtain ⟨rfl, rfl, hk, he⟩ := hrel
      have HE := Lib.hid he
      clear he
      cases gk with
      | zero =>
        have HT := Lib.hid (lims_take w32_ge hs (Nat.zero_le _) HE.out (by simp))
        go_wp2
        go_ret
        exact ⟨⟨_, rfl, cut_owns HH.out HT.out (by omega)⟩, rfl⟩
      | succ k =>
        have hk1 : k < ds.length := by omega
        have hcell := HC.out k hk1
        obtain ⟨d, hd⟩ : ∃ d, ds[k] = d := ⟨_, rfl⟩
        rw [hd] at hcell
        have hgd : ds.getD (k + 1 - 1) 0 = d := by rw [Nat.add_sub_cancel, List.getD_eq_getElem?_getD, List.getElem?_eq_getElem hk1, hd]; rfl
        have hi1 : ((k + 1 : Nat) : Int) - 1 = (k : Int) := by omega
        have hi2 : ((k + 1 : Nat) : Int) > 0 := by omega
        have hi3 : (0 : Int) ≤ (k : Int) := by omega
        have hi4 : (k : Int) < ((k + 1 : Nat) : Int) := by omega
        by_cases hz0 : d = 0
        · subst hz0
          have HN := Lib.hid ((ev_take_pred 4294967296 ds (k + 1) (by omega) hgd).trans HE.out)
          rw [show ((0 : Nat) : Int) = 0 from rfl] at hcell
          clear hd hgd HE
          go_wp2
          go_roundg k
          case rel => exact ⟨rfl, by rfl, by omega, HN.out⟩
          case measure => omega
        · have hdz : ((d : Int) == 0) = false := by simp; omega
          have HT := Lib.hid (lims_take w32_ge hs hk HE.out (fun _ => by rw [hgd]; exact hz0))
          clear hd hgd
          go_wp2
          go_ret
          exact ⟨⟨_, rfl, cut_owns HH.out HT.out (by omega)⟩, rfl⟩
end Go.Proofs.YtmnibfdenmeepaaDoor
/- The sum of two numbers in words. -/
namespace Go.Proofs.YtmnibfdenmeepaaDoor
open Go.RowKit Go.Shelf Big

attribute [local go_sem] Oper.semAt_some

theorem Tryd.info75 : (Tryd.prog.info? 75).map (fun i => (i.zero, i.size, i.bytes)) = some (some (.int .u32 0), 1, 4) := by kernel_rfl

/-- Words of noughts. -/
def noughts (n : Nat) : Array Value := madeCells #[.int .u32 0] n
theorem noughts_size (n : Nat) : (noughts n).size = n := size_madeCells _ _
theorem noughts_list (n : Nat) : (noughts n).toList = (List.replicate n 0).map u32v := by
  rw [noughts, toList_madeCells_one, List.map_replicate]; rfl
theorem make_any (l c : Int) (a n : Nat) (hl : l = a) (hc : c = n) (ha : a ≤ n) (hn : n ≤ 1000000) (W : World) :
    (Instr.makeSlice 44 (.int .i64 l) (.int .i64 c)).run Tryd.prog W = .ok (.slice (some ⟨W.heap.size, 0, none⟩) a n) (W.alloc (.cells (noughts n) 75)) := by
  obtain ⟨i0, hi, hz0, hz1, hz2⟩ := info_parts Tryd.info75
  subst hl hc
  have := run_make (P := Tryd.prog) W 44 75 i0 (.int .u32 0) Tryd.underlying44 hi hz0 .i64 .i64 (a : Int) (n : Int) (by omega) (by omega) (by rw [hz2]; omega) (by omega)
  rw [hz1] at this
  simpa [noughts, Value.cells] using this

theorem NatIs.putObj {W : World} {B n l : Nat} {v : Value} (h : NatIs W B v n) {o : Obj} (o' : Obj) (hl : W.heap[l]? = some o) (ho : o.isCells = false) : NatIs (W.putObj l o') B v n := ownsRow_putObj h o' hl ho
theorem small_nil : Small [] := fun _ h => nomatch h
/-- What a round leaves of the sum. -/
def PlusI (g B1 B2 C : Nat) (w : World) (pre : List Pr) (W : World) : Prop :=
  ∃ (out : List Nat) (c : Nat), (∃ v, Boxed W B1 44 v ∧ W.ownsRow w.heap.size 75 1 v out.length (out.map u32v) ∧ v = .slice (some ⟨g, 0, none⟩) out.length C) ∧ Boxed W B2 75 (.int .u32 (c : Int)) ∧
    (out.length = pre.length ∧ c ≤ 1 ∧ Small out ∧ ev 4294967296 out + 4294967296 ^ out.length * c = ev 4294967296 (fsts pre) + ev 4294967296 (snds pre)) ∧ Below w.heap.size w W
theorem plusI_own (g B1 B2 C : Nat) (w : World) (B : Nat) (hB : w.heap.size ≤ B) : OwnFrom B (PlusI g B1 B2 C w) := by
  rintro s X Y row ⟨out, c, h1, h2, h3, h4⟩ hg hr
  refine ⟨out, c, ?_, ?_, h3, ownFrom_below (β := List Pr) (Nat.le_refl _) hB s X Y row h4 hg hr⟩
  · exact (Own.from (holdsRow_own (β := List Pr) w.heap.size B1 44 75 1 (fun _ => out.length) (fun _ => out.map u32v) (fun _ v => v = .slice (some ⟨g, 0, none⟩) out.length C)) B) s X Y row h1 hg hr
  · exact (Own.from (boxed_own (β := List Pr) B2 75 (fun _ => .int .u32 (c : Int))) B) s X Y row h2 hg hr

theorem Boxed.new' {W : World} {n : Nat} (h : W.heap.size = n) (t : TypeId) (v : Value) : Boxed (W.alloc (.cells #[v] t)) n t v := by rw [← h]; exact Boxed.new W t v
theorem cell_one_new' {W : World} {n : Nat} {v : Value} {t : TypeId} (h : W.heap.size = n) : ∀ (j : Nat) (u : Value), [v][j]? = some u → (W.alloc (.cells #[v] t)).cell? ((⟨n, 0, none⟩ : Addr).add j) = some u := by rw [← h]; exact cell_one_new _ _ _

theorem plus_step (out : List Nat) (pre : List Pr) (x : Pr) (c : Nat) (hl : out.length = pre.length) (hc : c ≤ 1) (hs : Small out)
    (he : ev 4294967296 out + 4294967296 ^ out.length * c = ev 4294967296 (fsts pre) + ev 4294967296 (snds pre)) :
    (out ++ [(x.1.1 + x.1.2 + c) % 4294967296]).length = (pre ++ [x]).length ∧ (x.1.1 + x.1.2 + c) / 4294967296 ≤ 1 ∧ Small (out ++ [(x.1.1 + x.1.2 + c) % 4294967296]) ∧
    ev 4294967296 (out ++ [(x.1.1 + x.1.2 + c) % 4294967296]) + 4294967296 ^ (out ++ [(x.1.1 + x.1.2 + c) % 4294967296]).length * ((x.1.1 + x.1.2 + c) / 4294967296) = ev 4294967296 (fsts (pre ++ [x])) + ev 4294967296 (snds (pre ++ [x])) := by
  have h1 := x.2.1
  have h2 := x.2.2
  refine ⟨by simp [hl], by omega, ?_, ?_⟩
  · intro d hd
    rcases List.mem_append.1 hd with hd | hd
    · exact hs d hd
    · simp at hd; omega
  · rw [fsts_snoc, snds_snoc, ev_snoc, ev_snoc, ev_snoc, fsts_length, snds_length, List.length_append, List.length_singleton, ← hl, Nat.pow_succ, Nat.mul_assoc]
    have e : (x.1.1 + x.1.2 + c) % 4294967296 + 4294967296 * ((x.1.1 + x.1.2 + c) / 4294967296) = x.1.1 + x.1.2 + c := Nat.mod_add_div _ _
    have e2 : 4294967296 ^ out.length * ((x.1.1 + x.1.2 + c) % 4294967296) + 4294967296 ^ out.length * (4294967296 * ((x.1.1 + x.1.2 + c) / 4294967296)) = 4294967296 ^ out.length * x.1.1 + 4294967296 ^ out.length * x.1.2 + 4294967296 ^ out.length * c := by
      rw [← Nat.mul_add, e, Nat.mul_add, Nat.mul_add]
    omega

set_option maxRecDepth 100000 in
set_option maxHeartbeats 4000000 in
theorem plus_any (B1 B2 m k : Nat) (va vb : Value) (w : World) (ha : NatIs w B1 va m) (hb : NatIs w B2 vb k) (hla : (lims 4294967296 m).length ≤ 100000) (hlb : (lims 4294967296 k).length ≤ 100000) :
    Calls Tryd.prog 107 #[va, vb] w fun e w' => (∃ v, e = .returned v ∧ NatIs w' w.heap.size v (m + k)) ∧ Below w.heap.size w w' := by
  obtain ⟨i0, hi, hz0, hz1, hz2⟩ := info_parts Tryd.info75
  obtain ⟨ao, ca, rfl, ra⟩ := ha.reads hla
  obtain ⟨bo, cb, rfl, rb⟩ := hb.reads hlb
  have HC : Hid (ev 4294967296 (fsts (upto m k (max (lims 4294967296 m).length (lims 4294967296 k).length))) + ev 4294967296 (snds (upto m k (max (lims 4294967296 m).length (lims 4294967296 k).length))) = m + k) := Lib.hid (by
    rw [ev_fsts_upto, ev_snds_upto, mod_max_l (Nat.le_max_left _ _), mod_max_l (Nat.le_max_right _ _)])
  revert ra rb HC hla hlb
  generalize (lims 4294967296 m).length = la
  generalize (lims 4294967296 k).length = lb
  intro hla hlb ra rb HC
  clear ha hb
  refine (callsIn_wide (n := 5)).1 ?_
  refine callsIn_of_wp_marks Tryd.func107 rfl trivial ?_ rfl
  simp only [Tryd.ntmps107, List.size_toArray, List.length_cons, List.length_nil, Nat.reduceAdd, Nat.reduceSub, Array.replicate_succ, Array.replicate_zero, List.push_toArray, List.append_toArray, List.nil_append, List.cons_append]
  by_cases hm : la < lb
  case' pos =>
    obtain ⟨C, hC1, hC2⟩ : ∃ C, max la lb + 1 ≤ C ∧ C ≤ 100001 ∧ C ≤ lb + 1 ∧ lb + 1 ≤ C := ⟨lb + 1, by omega, by omega⟩
    have hmk : ∀ W, (Instr.makeSlice 44 (.int .i64 0) (.int .i64 ((lb : Int) + 1))).run Tryd.prog W = .ok (.slice (some ⟨W.heap.size, 0, none⟩) 0 C) (W.alloc (.cells (noughts C) 75)) := make_any _ _ 0 C rfl (by omega) (by omega) (by omega)
    gi_wp2_with (refine ⟨trivial, ?_⟩; gi_at_call 114; refine (digitPairs_in Fence.wide _ trivial rfl _ _ _ _ _ _ _).mono ?_; rintro e w' ⟨rfl, rfl⟩)
  case' neg =>
    obtain ⟨C, hC1, hC2⟩ : ∃ C, max la lb + 1 ≤ C ∧ C ≤ 100001 ∧ C ≤ la + 1 ∧ la + 1 ≤ C := ⟨la + 1, by omega, by omega⟩
    have hmk : ∀ W, (Instr.makeSlice 44 (.int .i64 0) (.int .i64 ((la : Int) + 1))).run Tryd.prog W = .ok (.slice (some ⟨W.heap.size, 0, none⟩) 0 C) (W.alloc (.cells (noughts C) 75)) := make_any _ _ 0 C rfl (by omega) (by omega) (by omega)
    gi_wp2_with (refine ⟨trivial, ?_⟩; gi_at_call 114; refine (digitPairs_in Fence.wide _ trivial rfl _ _ _ _ _ _ _).mono ?_; rintro e w' ⟨rfl, rfl⟩)
  all_goals
    obtain ⟨W0, hW0⟩ : ∃ W0, w.alloc (.cells (noughts C) 75) = W0 := ⟨_, rfl⟩
    rw [hW0]
    have hs0 : W0.heap.size = w.heap.size + 1 := by rw [← hW0, World.size_alloc]
    have hb0 : Below w.heap.size w W0 := by rw [← hW0]; exact (Below.refl _ w).alloc (Nat.le_refl _) _
    have ho0 : W0.ownsRow w.heap.size 75 1 (.slice (some ⟨w.heap.size, 0, none⟩) 0 C) 0 [] := by
      rw [← hW0]
      exact World.ownsRow_made w _ C (Nat.le_refl _) (by unfold maxLen; omega) (by rw [noughts_size]; omega)
    clear hW0 hmk
    have bO : Boxed (W0.alloc (.cells #[.slice (some ⟨w.heap.size, 0, none⟩) 0 C] 44)) (w.heap.size + 1) 44 (.slice (some ⟨w.heap.size, 0, none⟩) 0 C) := Boxed.new' hs0 _ _
    have bC : Boxed ((W0.alloc (.cells #[.slice (some ⟨w.heap.size, 0, none⟩) 0 C] 44)).alloc (.cells #[.int .u32 0] 75)) (w.heap.size + 1 + 1) 75 (.int .u32 0) := Boxed.new' (by rw [World.size_alloc, hs0]) _ _
    have bA : Boxed (((W0.alloc (.cells #[.slice (some ⟨w.heap.size, 0, none⟩) 0 C] 44)).alloc (.cells #[.int .u32 0] 75)).alloc (.cells #[.slice ao la ca] 44)) (w.heap.size + 1 + 1 + 1) 44 (.slice ao la ca) := Boxed.new' (by rw [World.size_alloc, World.size_alloc, hs0]) _ _
    have bB : Boxed ((((W0.alloc (.cells #[.slice (some ⟨w.heap.size, 0, none⟩) 0 C] 44)).alloc (.cells #[.int .u32 0] 75)).alloc (.cells #[.slice ao la ca] 44)).alloc (.cells #[.slice bo lb cb] 44)) (w.heap.size + 1 + 1 + 1 + 1) 44 (.slice bo lb cb) := Boxed.new' (by rw [World.size_alloc, World.size_alloc, World.size_alloc, hs0]) _ _
    have bO4 := ((bO.alloc (.cells #[.int .u32 0] 75)).alloc (.cells #[.slice ao la ca] 44)).alloc (.cells #[.slice bo lb cb] 44)
    have bC4 := (bC.alloc (.cells #[.slice ao la ca] 44)).alloc (.cells #[.slice bo lb cb] 44)
    have bA4 := bA.alloc (.cells #[.slice bo lb cb] 44)
    have ho4 := (((ho0.alloc (.cells #[.slice (some ⟨w.heap.size, 0, none⟩) 0 C] 44)).alloc (.cells #[.int .u32 0] 75)).alloc (.cells #[.slice ao la ca] 44)).alloc (.cells #[.slice bo lb cb] 44)
    have hb4 := (((hb0.alloc (by omega) (.cells #[.slice (some ⟨w.heap.size, 0, none⟩) 0 C] 44)).alloc (by simp; omega) (.cells #[.int .u32 0] 75)).alloc (by simp; omega) (.cells #[.slice ao la ca] 44)).alloc (by simp; omega) (.cells #[.slice bo lb cb] 44)
    have hs4 : ((((W0.alloc (.cells #[.slice (some ⟨w.heap.size, 0, none⟩) 0 C] 44)).alloc (.cells #[.int .u32 0] 75)).alloc (.cells #[.slice ao la ca] 44)).alloc (.cells #[.slice bo lb cb] 44)).heap.size = w.heap.size + 5 := by simp; omega
    clear bO bC bA ho0 hb0 hs0
    revert bO4 bC4 bA4 bB ho4 hb4 hs4
    generalize ((((W0.alloc (.cells #[.slice (some ⟨w.heap.size, 0, none⟩) 0 C] 44)).alloc (.cells #[.int .u32 0] 75)).alloc (.cells #[.slice ao la ca] 44)).alloc (.cells #[.slice bo lb cb] 44)) = W4
    intro bB bO4 bC4 bA4 ho4 hb4 hs4
    have ra4 := ra.below hb4
    have rb4 := rb.below hb4
    refine wpIn_rangeFunc_ownG (w := W4) rfl (by omega) (gf := 132) (lb := #[.pointer (some ⟨w.heap.size + 1 + 1 + 1, 0, none⟩), .pointer (some ⟨w.heap.size + 1 + 1 + 1 + 1, 0, none⟩)]) rfl trivial (enters_of Tryd.func132 (by kernel_rfl) rfl)
      (pairs_stops Fence.wide _ trivial rfl (by omega) (w.heap.size + 1 + 1 + 1) (w.heap.size + 1 + 1 + 1 + 1) w.heap.size ao bo la ca lb cb m k _ (by omega) (by omega) (by omega) bA4.cell bB.cell ra4 rb4) KpP.trans (KpP.put (by omega) (by omega) (by omega)) (Below.refl _ _) (fun _ => rfl)
      (PlusI w.heap.size (w.heap.size + 1) (w.heap.size + 1 + 1) C w)
      (fun _ _ _ => False)
      (plusI_own _ _ _ _ _ _ (by omega))
      (fun _ _ _ _ _ hs _ _ => hs)
      ⟨[], 0, ⟨_, bO4, ho4, rfl⟩, bC4, ⟨rfl, by omega, small_nil, rfl⟩, hb4⟩
      ?_ ?_ ?_ ?_ ?_
    rotate_left
    · intro l x W K hK
      gi_wp2
      exact hK
    · rintro l pre ⟨⟨x, y⟩, hx, hy⟩ W ⟨out, c, ⟨v, hv, hrow, rfl⟩, hvc, ⟨f1, f2, f3, f4⟩, hB⟩ hlt
      have HS := Lib.hid (plus_step out pre ⟨(x, y), hx, hy⟩ c f1 f2 f3 f4)
      have hol : out.length + 1 ≤ C := by omega
      have h4 := hv.cell
      have h5 := hv.frozen
      have h6 := hvc.cell
      have h7 := hvc.frozen
      have hz := hB.size
      dsimp only at hx hy HS ⊢
      clear f1 f3 f4
      obtain ⟨s, hs⟩ : ∃ s, (x + y + c) % 4294967296 = s := ⟨_, rfl⟩
      obtain ⟨c', hc'⟩ : ∃ c', (x + y + c) / 4294967296 = c' := ⟨_, rfl⟩
      have add := add32_any x y c W hx hy f2
      rw [hs, hc'] at add HS
      clear hs hc'
      have hrow2 := hrow.kept (grownBy_setCell' W (w.heap.size + 1 + 1) (.int .u32 (c' : Int))) (.inr (by simp [Value.ownBlock]; omega))
      have hv2 := hv.other (B' := w.heap.size + 1 + 1) (by omega) (.int .u32 (c' : Int))
      have hvc2 := hvc.set (.int .u32 (c' : Int))
      gi_wp2_with (first
        | (refine ⟨trivial, ?_⟩; gi_at_call 128; refine (CallsIn.inRound l (callsIn_wide.2 add)).mono ?_; rintro e w' ⟨rfl, rfl⟩)
        | (gi_at_builtin; refine wpListIn_append_fits _ rfl _ _ 44 rfl w.heap.size 75 i0 1 Tryd.underlying44 hi hz1 w.heap.size out.length C _ rfl (hrow2.alloc _) ⟨W.heap.size, 0, none⟩ 1 1 [.int .u32 (s : Int)] rfl rfl (cell_one_new' (by simp)) (by simp [Value.oneCell']) (by omega) ?_; intro w1 hown' hgrow; have hv3 := (hv2.alloc (.cells #[.int .u32 (s : Int)] 75)).kept hgrow (by simp); have hc3 := hv3.cell; have hf3 := hv3.frozen))
      have hrow3 := hown'.kept (grownBy_setCell' w1 (w.heap.size + 1) (.slice (some ⟨w.heap.size, 0, none⟩) (out.length + 1) C)) (.inr (by simp [Value.ownBlock]))
      have hvc3 := ((hvc2.alloc (.cells #[.int .u32 (s : Int)] 75)).kept hgrow (by simp; omega)).other (B' := w.heap.size + 1) (by omega) (.slice (some ⟨w.heap.size, 0, none⟩) (out.length + 1) C)
      refine ⟨((((KeepsOthers.setCell W _ _).trans (KeepsOthers.alloc _ _)).from _).trans (KeepsFrom.of_grownBy hgrow (fun j e => by cases e; omega))).trans ((KeepsOthers.setCell _ _ _).from _),
        ((((KpP.refl _ _ _ W).setCell (by omega) _).alloc _).grown hgrow (fun j e => by cases e; omega)).setCell (by omega) _, out ++ [s], c', ⟨_, hv3.set _, ?_, ?_⟩, hvc3, HS.out, ?_⟩
      · simpa [u32v] using hrow3
      · simp
      · exact (((hB.setCell (p := ⟨w.heap.size + 1 + 1, 0, none⟩) (by simp; omega) _).alloc (by simp; omega) _).grown hgrow (by simp; omega) (fun j e => by cases e; omega)).setCell (p := ⟨w.heap.size + 1, 0, none⟩) (by simp) _
    · rintro D ys W hD rfl ⟨out, c, ⟨v, hv, hrow, rfl⟩, hvc, ⟨f1, f2, f3, f4⟩, hB⟩ hK
      have h4 := hv.cell
      have h5 := hv.frozen
      have h6 := hvc.cell
      have h7 := hvc.frozen
      have hz := hB.size
      have hol : out.length + 1 ≤ C := by rw [f1, upto_length]; omega
      rw [HC.out] at f4
      have HV := Lib.hid (ev_snoc 4294967296 out c |>.trans f4)
      have HS := Lib.hid (show Small (out ++ [c]) by
        intro d hd
        rcases List.mem_append.1 hd with hd | hd
        · exact f3 d hd
        · simp at hd; omega)
      clear f1 f3 f4
      gi_wp2_with (first
        | (gi_at_builtin; refine wpListIn_append_fits _ rfl _ _ 44 rfl w.heap.size 75 i0 1 Tryd.underlying44 hi hz1 w.heap.size out.length C _ rfl (hrow.alloc _) ⟨W.heap.size, 0, none⟩ 1 1 [.int .u32 (c : Int)] rfl rfl (cell_one_new' (by simp)) (by simp [Value.oneCell']) (by omega) ?_; intro w1 hown' hgrow))
      have hown2 : w1.ownsRow w.heap.size 75 1 (.slice (some ⟨w.heap.size, 0, none⟩) (out.length + 1) C) (out ++ [c]).length ((out ++ [c]).map u32v) := by simpa [u32v] using hown'
      refine ⟨trivial, ?_⟩
      refine (callsIn_wide.2 (cut_any w.heap.size _ (out ++ [c]) w1 hown2 HS.out (by simp; omega))).mono ?_
      rintro e w2 ⟨⟨v', rfl, hnat⟩, rfl⟩
      rw [HV.out] at hnat
      obtain ⟨ao', c1, rfl⟩ := hnat.slice
      gi_wp2
      have hDl := (Array.getElem?_eq_some_iff.1 hK).1
      have hK1 := (hgrow.block D (by simp; omega) (by simp; omega)).trans ((Below.heap_alloc W _ D hDl).trans hK)
      have hb1 : Below w.heap.size w w1 := (hB.alloc hz _).grown hgrow (by simp; omega) (fun j e => by cases e; omega)
      refine ⟨by simp, .inl ⟨_, _, rfl, run_takeDeferred hK1, ?_⟩⟩
      exact ⟨_, results_tmp rfl _ _ _, ⟨_, rfl, hnat.putObj _ hK1 rfl⟩, hb1.trans (belowK_b (w := w) (Nat.le_refl _) w1 D _ _ (by omega) hK1 rfl rfl)⟩
    · rintro D c pre W _ _ h _
      exact h.elim
end Go.Proofs.YtmnibfdenmeepaaDoor
