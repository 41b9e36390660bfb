/- Numbers in memory: slices of words; the iterator over the words of two. -/
import Derived.RangeFuncNested
import Derived.RangeFuncBound
import Derived.RangeFuncCalls
import Derived.RangeFuncLeaves
import Derived.Shelf.Abstract
import Derived.Shelf.RegionOpen
import Derived.WalkKit
import Derived.OwnWalkIn
import Derived.TacticsInMore
import Derived.LoopNIn
import Derived.LoopIn
import Derived.Maps.AppendAt
import Derived.Lib.Hide
import Derived.IntWalk
import Derived.WalkSpells
import Derived.WalkLawsBesides
import Derived.BigQuiet
import Derived.Deep.QuietTactic
import Derived.Laws.OwnMore
import Derived.Deep.LoopGhost
import Derived.Deep.DeepCutAuto
import Derived.Deep.CutBlock
import Derived.Deep.RegionHeld3
import Derived.Test.YtmnibfdenmeepaaDoorRows
import Derived.Test.YtmnibfdenmeepaaDoorRead
namespace Go.Proofs.YtmnibfdenmeepaaDoor
open Go.RowKit Go.Shelf Big

def u32v (d : Nat) : Value := .int .u32 (d : Int)

/-- A value is the slice of the words of a number, in blocks from B on. -/
def NatIs (w : World) (B : Nat) (v : Value) (n : Nat) : Prop := w.ownsRow B 75 1 v (lims 4294967296 n).length ((lims 4294967296 n).map u32v)

/-- What a reader knows of it. -/
def Reads (w : World) (n₀ : Nat) (ao : Option Addr) (l n : Nat) : Prop :=
  l ≤ 100000 ∧ (∀ j, j < l → ∃ g, ao = some ⟨g, 0, none⟩ ∧ g < n₀ ∧ w.cell? ⟨g, j, none⟩ = some (.int .u32 ((n / 4294967296 ^ j % 4294967296 : Nat) : Int))) ∧ (∀ j, l ≤ j → n / 4294967296 ^ j % 4294967296 = 0)
theorem Reads.below {w w' : World} {n₀ : Nat} {ao : Option Addr} {l n : Nat} (h : Reads w n₀ ao l n) (hb : Below n₀ w w') : Reads w' n₀ ao l n :=
  ⟨h.1, fun j hj => by
    obtain ⟨g, e, hg, hc⟩ := h.2.1 j hj
    exact ⟨g, e, hg, (hb.cell (p := ⟨g, j, none⟩) hg).trans hc⟩, h.2.2⟩

theorem w32_ge : 2 ≤ 4294967296 := by decide
theorem lims_zeros (n j : Nat) (h : (lims 4294967296 n).length ≤ j) : n / 4294967296 ^ j % 4294967296 = 0 := by
  have := (lims_len_le w32_ge n j).1 h
  rw [Nat.div_eq_of_lt this]
theorem lims_get (n j : Nat) (h : j < (lims 4294967296 n).length) : (lims 4294967296 n)[j] = n / 4294967296 ^ j % 4294967296 := by
  have := lims_getD w32_ge n j
  rw [List.getD_eq_getElem?_getD, List.getElem?_eq_getElem h] at this
  exact this

theorem NatIs.reads {w : World} {B : Nat} {v : Value} {n : Nat} (h : NatIs w B v n) (hl : (lims 4294967296 n).length ≤ 100000) :
    ∃ ao c, v = .slice ao (lims 4294967296 n).length c ∧ Reads w w.heap.size ao (lims 4294967296 n).length n := by
  rcases h.2 with ⟨rfl, h0⟩ | ⟨g, cap, cur, rfl, hb, hg, hn, hc, hs, ht⟩
  · refine ⟨none, 0, by rw [h0], hl, fun j hj => by omega, fun j hj => lims_zeros n j hj⟩
  · refine ⟨_, cap, rfl, hl, fun j hj => ⟨g, rfl, (Array.getElem?_eq_some_iff.1 hg).1, ?_⟩, fun j hj => lims_zeros n j hj⟩
    rw [World.ownsRow.cellAt h j (by omega), List.getElem?_map, List.getElem?_eq_getElem hj, lims_get n j hj]
    rfl
theorem NatIs.slice {w : World} {B : Nat} {v : Value} {n : Nat} (h : NatIs w B v n) : ∃ ao c, v = .slice ao (lims 4294967296 n).length c := by
  rcases h.2 with ⟨rfl, h0⟩ | ⟨g, cap, cur, rfl, _⟩
  · exact ⟨none, 0, by rw [h0]⟩
  · exact ⟨_, _, rfl⟩
theorem NatIs.kept {w w' : World} {B : Nat} {v : Value} {n : Nat} (h : NatIs w B v n) (hb : Below w.heap.size w w') : NatIs w' B v n := by
  refine ⟨h.1, ?_⟩
  rcases h.2 with hn | ⟨g, cap, cur, rfl, h1, hg, h3⟩
  · exact .inl hn
  · exact .inr ⟨g, cap, cur, rfl, h1, (hb.block g (Array.getElem?_eq_some_iff.1 hg).1).trans hg, h3⟩
theorem NatIs.mono {w : World} {B B' : Nat} {v : Value} {n : Nat} (h : NatIs w B v n) (hb : B' ≤ B) : NatIs w B' v n := by
  refine ⟨h.1, ?_⟩
  rcases h.2 with hn | ⟨g, cap, cur, rfl, h1, hg, h3⟩
  · exact .inl hn
  · exact .inr ⟨g, cap, cur, rfl, by omega, hg, h3⟩

/-- The words of two numbers at a place. -/
abbrev Pr := { p : Nat × Nat // p.1 < 4294967296 ∧ p.2 < 4294967296 }
abbrev encP (p : Pr) : Array Value := #[.int .u32 (p.1.1 : Int), .int .u32 (p.1.2 : Int)]
def pr (m k j : Nat) : Pr := ⟨(m / 4294967296 ^ j % 4294967296, k / 4294967296 ^ j % 4294967296), Nat.mod_lt _ (by decide), Nat.mod_lt _ (by decide)⟩
def upto (m k n : Nat) : List Pr := (List.range n).map (pr m k)
theorem upto_succ (m k n : Nat) : upto m k (n + 1) = upto m k n ++ [pr m k n] := by simp [upto, List.range_succ]
theorem upto_length (m k n : Nat) : (upto m k n).length = n := by simp [upto]

/-- What a round of a loop over the words must keep: what lay ahead, and the two boxes. -/
def KpP (n₀ Ba Bb : Nat) (W W' : World) : Prop := W.heap.size ≤ W'.heap.size ∧ ∀ b, (b < n₀ ∨ b = Ba ∨ b = Bb) → b < W.heap.size → W'.heap[b]? = W.heap[b]?
theorem KpP.refl (n₀ Ba Bb : Nat) (W : World) : KpP n₀ Ba Bb W W := ⟨Nat.le_refl _, fun _ _ _ => rfl⟩
theorem KpP.trans {n₀ Ba Bb : Nat} {A B C : World} (h : KpP n₀ Ba Bb A B) (k : KpP n₀ Ba Bb B C) : KpP n₀ Ba Bb A C :=
  ⟨Nat.le_trans h.1 k.1, fun b hb hl => (k.2 b hb (Nat.lt_of_lt_of_le hl h.1)).trans (h.2 b hb hl)⟩
theorem KpP.grown {n₀ Ba Bb : Nat} {A B C : World} {row : Option Nat} (h : KpP n₀ Ba Bb A B) (hg : B.grownBy C row) (hr : ∀ k, row = some k → n₀ ≤ k ∧ k ≠ Ba ∧ k ≠ Bb) : KpP n₀ Ba Bb A C :=
  ⟨Nat.le_trans h.1 hg.size, fun b hb hl => (hg.block b (Nat.lt_of_lt_of_le hl h.1) (fun e => by obtain ⟨h1, h2, h3⟩ := hr b e.symm; omega)).trans (h.2 b hb hl)⟩
theorem KpP.setCell {n₀ Ba Bb : Nat} {A B : World} (h : KpP n₀ Ba Bb A B) {b : Nat} (hb : n₀ ≤ b ∧ b ≠ Ba ∧ b ≠ Bb) (u : Value) : KpP n₀ Ba Bb A (B.setCell ⟨b, 0, none⟩ u) :=
  h.grown (grownBy_setCell' B b u) (fun k e => by cases e; exact hb)
theorem KpP.alloc {n₀ Ba Bb : Nat} {A B : World} (h : KpP n₀ Ba Bb A B) (o : Obj) : KpP n₀ Ba Bb A (B.alloc o) :=
  h.grown (World.grownBy_alloc B o none) (fun k e => by cases e)
theorem KpP.put {n₀ Ba Bb : Nat} {w : World} (h1 : n₀ ≤ w.heap.size) (h2 : Ba < w.heap.size) (h3 : Bb < w.heap.size) (W : World) (l : Nat) (o o' : Obj) (hl : w.heap.size ≤ l) (_ : W.heap[l]? = some o) (_ : o.isCells = false) (_ : o.isWalk = false) : KpP n₀ Ba Bb W (W.putObj l o') :=
  (KpP.refl _ _ _ W).grown (grownBy_putObj' W l o') (fun k e => by cases e; omega)
theorem KpP.cell {n₀ Ba Bb : Nat} {A B : World} (h : KpP n₀ Ba Bb A B) {b j : Nat} (hb : b < n₀ ∨ b = Ba ∨ b = Bb) (hl : b < A.heap.size) : B.cell? ⟨b, j, none⟩ = A.cell? ⟨b, j, none⟩ :=
  World.cell?_of_block (h.2 b hb hl)
theorem Reads.keep {w w' : World} {n₀ Ba Bb : Nat} {ao : Option Addr} {l n : Nat} (h : Reads w n₀ ao l n) (hb : KpP n₀ Ba Bb w w') (hn : n₀ ≤ w.heap.size) : Reads w' n₀ ao l n :=
  ⟨h.1, fun j hj => by
    obtain ⟨g, e, hg, hc⟩ := h.2.1 j hj
    exact ⟨g, e, hg, (hb.cell (.inl hg) (by omega)).trans hc⟩, h.2.2⟩

attribute [local go_sem] Oper.semAt_some

set_option maxRecDepth 100000 in
set_option maxHeartbeats 2000000 in
theorem pairs1_in (F : Fence) (n : Nat) (hF : F.fn 132) (hro : F.round = none) (hn : 1 ≤ n) (l Ba Bb n₀ : Nat) (ao bo : Option Addr) (la ca lb cb m k : Nat) (J Jx : List Pr → World → Prop)
    (hY : ∀ pre x W, J pre W → pre.length < max la lb → YieldAt F (n - 1) Tryd.prog l (encP x) W fun e W' =>
      (e = .returned (.bool true) ∧ J (pre ++ [x]) W' ∧ KpP n₀ Ba Bb W W') ∨ (e = .returned (.bool false) ∧ Jx (pre ++ [x]) W'))
    (W : World) (hBa : W.cell? ⟨Ba, 0, none⟩ = some (.slice ao la ca)) (hBb : W.cell? ⟨Bb, 0, none⟩ = some (.slice bo lb cb)) (hba : Ba < W.heap.size) (hbb : Bb < W.heap.size) (hn₀ : n₀ ≤ W.heap.size)
    (ha : Reads W n₀ ao la m) (hb : Reads W n₀ bo lb k) (h0 : J [] W) :
    CallsIn F n Tryd.prog 132 #[.func (.yield l) #[] #[], .pointer (some ⟨Ba, 0, none⟩), .pointer (some ⟨Bb, 0, none⟩)] W fun e W' => (∃ v, e = .returned v) ∧
      ((∃ ys, ys = upto m k (max la lb) ∧ J ys W') ∨ (∃ pre, True ∧ Jx pre W')) := by
  obtain ⟨M, hM⟩ : ∃ M, max la lb = M := ⟨_, rfl⟩
  have hM0 : M ≤ la ∨ M ≤ lb := by omega
  have hM1 : la ≤ M := by omega
  have hM2 : lb ≤ M := by omega
  have hM3 : M ≤ 100000 := by have := ha.1; have := hb.1; omega
  rw [hM] at hY
  refine callsIn_of_wp Tryd.func132 rfl hF ?_ hro
  simp only [Tryd.ntmps132, List.size_toArray, List.length_cons, List.length_nil, Nat.reduceAdd, Nat.reduceSub, Array.replicate_succ, Array.replicate_zero, List.push_toArray, List.append_toArray, List.nil_append, List.cons_append]
  have HM := Lib.hid hM
  clear hM
  gi_wp2
  all_goals
    gi_loopw [12] (fun i wr => ∃ j : Nat, j ≤ M ∧ i = .int .i64 j ∧ J (upto m k j) wr ∧ KpP n₀ Ba Bb W wr)
      (fun i _ => M - (intOf i).toNat)
    case atStart => exact ⟨0, Nat.zero_le _, rfl, h0, KpP.refl _ _ _ _⟩
    case round =>
      obtain ⟨j, hj, rfl, hJs, hnx⟩ := hrel
      have c1 := (hnx.cell (j := 0) (.inr (.inl rfl)) hba).trans hBa
      have c2 := (hnx.cell (j := 0) (.inr (.inr rfl)) hbb).trans hBb
      have ra := ha.keep hnx hn₀
      have rb := hb.keep hnx hn₀
      by_cases hlt : j < M
      · obtain ⟨fn, tmps, assign, body, hy, hR⟩ := hY _ (pr m k j) wr hJs (by rw [upto_length]; exact hlt)
        have hs := upto_succ m k j
        rw [← hs] at hR
        have HR := Lib.hid hR
        clear hs hR
        dsimp only [encP, pr] at hy
        obtain ⟨x, hx⟩ : ∃ x, m / 4294967296 ^ j % 4294967296 = x := ⟨_, rfl⟩
        obtain ⟨y, hyy⟩ : ∃ y, k / 4294967296 ^ j % 4294967296 = y := ⟨_, rfl⟩
        rw [hx, hyy] at hy
        have hm0 := fun h : la ≤ j => hx.symm.trans (ra.2.2 j h)
        have hk0 := fun h : lb ≤ j => hyy.symm.trans (rb.2.2 j h)
        have hmg := fun h : j < la => ra.2.1 j h
        have hkg := fun h : j < lb => rb.2.1 j h
        rw [hx] at hmg
        rw [hyy] at hkg
        have HB := Lib.hid hnx
        clear ra rb hx hyy hY hBa hBb ha hb hJs hnx h0
        by_cases hja : j < la <;> by_cases hjb : j < lb
        · obtain ⟨ga, rfl, hga, hca⟩ := hmg hja
          obtain ⟨gb, rfl, hgb, hcb⟩ := hkg hjb
          clear hmg hkg hm0 hk0
          gi_wp2
          refine HR.out.mono ?_
          rintro e W3 (⟨rfl, hJ3, hk3⟩ | ⟨rfl, hJx3⟩)
          · gi_wp2
            go_roundw
            case rel => exact ⟨j + 1, by omega, by simp, hJ3, HB.out.trans hk3⟩
            case measure => simp [intOf]; omega
          · gi_wp2
            refine bodyPost_ret (results_none rfl _ _ _) rfl ?_
            exact ⟨⟨_, rfl⟩, .inr ⟨_, trivial, hJx3⟩⟩
        · first
          | (clear hmg hkg hm0 hk0; exfalso; omega)
          | (obtain ⟨ga, rfl, hga, hca⟩ := hmg hja
             obtain rfl := hk0 (by omega)
             rw [show ((0 : Nat) : Int) = 0 from rfl] at hy
             clear hmg hkg hm0 hk0
             gi_wp2
             refine HR.out.mono ?_
             rintro e W3 (⟨rfl, hJ3, hk3⟩ | ⟨rfl, hJx3⟩)
             · gi_wp2
               go_roundw
               case rel => exact ⟨j + 1, by omega, by simp, hJ3, HB.out.trans hk3⟩
               case measure => simp [intOf]; omega
             · gi_wp2
               refine bodyPost_ret (results_none rfl _ _ _) rfl ?_
               exact ⟨⟨_, rfl⟩, .inr ⟨_, trivial, hJx3⟩⟩)
        · first
          | (clear hmg hkg hm0 hk0; exfalso; omega)
          | (obtain ⟨gb, rfl, hgb, hcb⟩ := hkg hjb
             obtain rfl := hm0 (by omega)
             rw [show ((0 : Nat) : Int) = 0 from rfl] at hy
             clear hmg hkg hm0 hk0
             gi_wp2
             refine HR.out.mono ?_
             rintro e W3 (⟨rfl, hJ3, hk3⟩ | ⟨rfl, hJx3⟩)
             · gi_wp2
               go_roundw
               case rel => exact ⟨j + 1, by omega, by simp, hJ3, HB.out.trans hk3⟩
               case measure => simp [intOf]; omega
             · gi_wp2
               refine bodyPost_ret (results_none rfl _ _ _) rfl ?_
               exact ⟨⟨_, rfl⟩, .inr ⟨_, trivial, hJx3⟩⟩)
        · clear hmg hkg hm0 hk0; exfalso; omega
      · obtain rfl : j = M := by omega
        clear hY ra rb
        gi_wp2
        go_end0
        exact ⟨⟨_, rfl⟩, .inl ⟨_, by rw [HM.out], hJs⟩⟩

/-- digitPairs: the two slices are boxed. -/
theorem digitPairs_in (F : Fence) (n : Nat) (hF : F.fn 114) (hro : F.round = none) (ao bo : Option Addr) (la ca lb cb : Nat) (w : World) :
    CallsIn F n Tryd.prog 114 #[.slice ao la ca, .slice bo lb cb] w fun e w' => e = .returned (.func (.func 132) #[] #[.pointer (some ⟨w.heap.size, 0, none⟩), .pointer (some ⟨w.heap.size + 1, 0, none⟩)]) ∧ w' = (w.alloc (.cells #[.slice ao la ca] 44)).alloc (.cells #[.slice bo lb cb] 44) := by
  refine callsIn_of_wp Tryd.func114 rfl hF ?_ hro
  simp only [Tryd.ntmps114, List.size_toArray, List.length_cons, List.length_nil, Nat.reduceAdd, Nat.reduceSub, Array.replicate_succ, Array.replicate_zero, List.push_toArray, List.append_toArray, List.nil_append, List.cons_append]
  gi_wp2
  go_ret
  exact ⟨rfl, rfl⟩

theorem pairs_stops (F : Fence) (n : Nat) (hF : F.fn 132) (hro : F.round = none) (hn : 1 ≤ n) (Ba Bb n₀ : Nat) (ao bo : Option Addr) (la ca lb cb m k : Nat) (w : World) (hba : Ba < w.heap.size) (hbb : Bb < w.heap.size) (hn₀ : n₀ ≤ w.heap.size)
    (hBa : w.cell? ⟨Ba, 0, none⟩ = some (.slice ao la ca)) (hBb : w.cell? ⟨Bb, 0, none⟩ = some (.slice bo lb cb)) (ha : Reads w n₀ ao la m) (hb : Reads w n₀ bo lb k) :
    SeqStopsK F n Tryd.prog 132 #[.pointer (some ⟨Ba, 0, none⟩), .pointer (some ⟨Bb, 0, none⟩)] encP (KpP n₀ Ba Bb) (fun ys => ys = upto m k (max la lb)) (fun _ => True) (max la lb) w := fun l J Jx W hW _ _ hY h0 =>
  pairs1_in F n hF hro hn l Ba Bb n₀ ao bo la ca lb cb m k J Jx hY W ((hW.cell (p := ⟨Ba, 0, none⟩) hba).trans hBa) ((hW.cell (p := ⟨Bb, 0, none⟩) hbb).trans hBb) (by have := hW.size; omega) (by have := hW.size; omega) (by have := hW.size; omega) (ha.below (hW.mono hn₀)) (hb.below (hW.mono hn₀)) h0

/-- The first and the second words. -/
def fsts (l : List Pr) : List Nat := l.map (·.1.1)
def snds (l : List Pr) : List Nat := l.map (·.1.2)
theorem fsts_snoc (l : List Pr) (x : Pr) : fsts (l ++ [x]) = fsts l ++ [x.1.1] := by simp [fsts]
theorem snds_snoc (l : List Pr) (x : Pr) : snds (l ++ [x]) = snds l ++ [x.1.2] := by simp [snds]
theorem fsts_length (l : List Pr) : (fsts l).length = l.length := by simp [fsts]
theorem snds_length (l : List Pr) : (snds l).length = l.length := by simp [snds]
theorem ev_fsts_lt (l : List Pr) : ev 4294967296 (fsts l) < 4294967296 ^ l.length := by
  have := ev_lt (B := 4294967296) (l := fsts l) (by intro d hd; simp only [fsts, List.mem_map] at hd; obtain ⟨x, _, rfl⟩ := hd; exact x.2.1)
  rwa [fsts_length] at this
theorem ev_snds_lt (l : List Pr) : ev 4294967296 (snds l) < 4294967296 ^ l.length := by
  have := ev_lt (B := 4294967296) (l := snds l) (by intro d hd; simp only [snds, List.mem_map] at hd; obtain ⟨x, _, rfl⟩ := hd; exact x.2.2)
  rwa [snds_length] at this
theorem ev_mod (m j : Nat) : ev 4294967296 ((List.range j).map fun i => m / 4294967296 ^ i % 4294967296) = m % 4294967296 ^ j := by
  induction j with
  | zero => simp [ev, Nat.mod_one]
  | succ j ih =>
    rw [List.range_succ, List.map_append, ev_append, ih]
    simp only [List.length_map, List.length_range, List.map_cons, List.map_nil, ev, Nat.mul_zero, Nat.add_zero]
    rw [Nat.pow_succ, Nat.mod_mul]
theorem ev_fsts_upto (m k j : Nat) : ev 4294967296 (fsts (upto m k j)) = m % 4294967296 ^ j := by
  rw [← ev_mod]; simp [fsts, upto, pr, Function.comp_def]
theorem ev_snds_upto (m k j : Nat) : ev 4294967296 (snds (upto m k j)) = k % 4294967296 ^ j := by
  rw [← ev_mod]; simp [snds, upto, pr, Function.comp_def]
theorem mod_max_l {m j : Nat} (h : (lims 4294967296 m).length ≤ j) : m % 4294967296 ^ j = m := Nat.mod_eq_of_lt ((lims_len_le w32_ge m j).1 h)
end Go.Proofs.YtmnibfdenmeepaaDoor
