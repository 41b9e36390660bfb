/- The texts Comb RegInv Bitw TwoCap BitOps FitsLaw, one behind the other. -/
import Derived.Test.YtmnibfdenmeepaaDoorMgBigFits13
import Derived.StillTailTactics
/- combined of the program. -/
namespace Go.Proofs.YtmnibfdenmeepaaDoor
open Go.RowKit Go.Shelf Big

/-- A function value that puts two words together. -/
def DoesW (K : FuncId) (g : Nat → Nat → Nat) : Prop :=
  (∀ args w, (callFunc K args).run Tryd.prog w = .ok (.enter K args) w) ∧
  ∀ (x y : Nat) (w : World), x < 4294967296 → y < 4294967296 → Calls Tryd.prog K #[.int .u32 (x : Int), .int .u32 (y : Int)] w fun e w' => e = .returned (.int .u32 (g x y : Int)) ∧ w = w'
theorem doesW_and : DoesW 101 gA := ⟨enters_of Tryd.func101 (by kernel_rfl) rfl, fun x y w hx hy => by
  have h := bits_and x y hx hy
  have H := Lib.hid h
  go_enter Tryd.func101, Tryd.ntmps101
  go_wp2
  go_ret
  exact ⟨rfl, rfl⟩⟩
theorem doesW_or : DoesW 102 gO := ⟨enters_of Tryd.func102 (by kernel_rfl) rfl, fun x y w hx hy => by
  have h := bits_or x y hx hy
  go_enter Tryd.func102, Tryd.ntmps102
  go_wp2
  go_ret
  exact ⟨rfl, rfl⟩⟩
theorem doesW_xor : DoesW 103 gX := ⟨enters_of Tryd.func103 (by kernel_rfl) rfl, fun x y w hx hy => by
  have h := bits_xor x y hx hy
  go_enter Tryd.func103, Tryd.ntmps103
  go_wp2
  go_ret
  exact ⟨rfl, rfl⟩⟩

set_option maxRecDepth 100000 in
set_option maxHeartbeats 4000000 in
theorem comb_any (K : FuncId) (f : Nat → Nat → Nat) (hK : DoesW K f) (B1 B2 g1 g2 n : Nat) (a b : List Nat) (w : World) (ha : RowIs w B1 g1 n a) (hb : RowIs w B2 g2 n b) (hla : a.length = n) (hlb : b.length = n) (hsa : Small a) (hsb : Small b) (hn : n ≤ 1000) :
    Calls Tryd.prog 125 #[.slice (some ⟨g1, 0, none⟩) n n, .slice (some ⟨g2, 0, none⟩) n n, .func (.func K) #[] #[]] w fun e w' => e = .returned (.slice (some ⟨w.heap.size, 0, none⟩) n n) ∧ RowIs w' w.heap.size w.heap.size n (zw f a b) ∧ Below w.heap.size w w' := by
  obtain ⟨hE, hC⟩ := hK
  have HC := Lib.hid hC
  have hmk := umake_any n (by omega)
  have hrow := RowIs.made w w.heap.size n (Nat.le_refl _) (by omega)
  have hb0 : Below w.heap.size w (w.alloc (.cells (noughts n) 75)) := (Below.refl _ w).alloc (Nat.le_refl _) _
  have HA := Lib.hid ha
  have HB := Lib.hid hb
  clear hC ha hb
  go_enter Tryd.func125, Tryd.ntmps125
  go_wp2_with fail
  clear hmk
  go_loopg [14] n (fun gh v wx => ∃ (i : Nat) (od : List Nat), v = .int .i64 (i : Int) ∧ i + gh = n ∧ od.length = n ∧ od.take i = (zw f a b).take i ∧ RowIs wx w.heap.size w.heap.size n od ∧ Below w.heap.size w wx)
  case atStart => exact ⟨0, List.replicate n 0, rfl, by omega, by simp, by rw [List.take_zero, List.take_zero], hrow, hb0⟩
  case round =>
    obtain ⟨i, od, rfl, hik, hol, hot, hR, hBx⟩ := hrel
    by_cases hi : i < n
    · have hia : i < a.length := by omega
      have hib : i < b.length := by omega
      have c1 := (RowIs.cell (own_below HA.out hBx : RowIs _ _ _ _ _) i hia)
      have c2 := (RowIs.cell (own_below HB.out hBx : RowIs _ _ _ _ _) i hib)
      have hfo := hR.free i
      have hco := hR.cell i (by omega)
      generalize od[i] = o9 at hco
      have hx2 : a[i] < 4294967296 := hsa _ (List.getElem_mem hia)
      have hy2 : b[i] < 4294967296 := hsb _ (List.getElem_mem hib)
      have hnx := (RowIs.drew hR).put i (f a[i] b[i])
      have hzl := zw_len f (a := a) (b := b) (by omega)
      have hz : (zw f a b)[i]'(by omega) = f a[i] b[i] := by unfold zw; rw [List.getElem_zipWith]
      have HTk := Lib.hid (show (od.set i (f a[i] b[i])).take (i + 1) = (zw f a b).take (i + 1) by
        rw [List.take_succ_eq_append_getElem (by rw [List.length_set]; omega), List.take_succ_eq_append_getElem (by omega), List.getElem_set_self, hz, List.take_set_of_le (Nat.le_refl _), hot])
      obtain ⟨x, hxe⟩ : ∃ x, a[i] = x := ⟨_, rfl⟩
      obtain ⟨y, hye⟩ : ∃ y, b[i] = y := ⟨_, rfl⟩
      rw [hxe] at c1 hx2 hnx HTk
      rw [hye] at c2 hy2 hnx HTk
      have hiI : (i : Int) < (n : Int) := by omega
      have hi0 : (0 : Int) ≤ (i : Int) := by omega
      have HNX := Lib.hid hnx
      have HBX := Lib.hid (hBx.drew.setCell (p := ⟨w.heap.size, i, none⟩) (Nat.le_refl _) (.int .u32 (f x y : Int)))
      have HCW := Lib.hid (fun W => (HC.out x y W hx2 hy2).mono fun e w'' h => And.intro h.1 h.2.symm)
      have HLS := Lib.hid (show (od.set i (f x y)).length = n by rw [List.length_set]; exact hol)
      obtain ⟨G, rfl⟩ : ∃ G, gk = G + 1 := ⟨gk - 1, by omega⟩
      clear hrow hb0 hnx hBx hR hxe hye hz hot hzl hsa hsb hol
      go_wp2_with fail
      go_still_tail 13, (by kernel_rfl)
      still_call (HCW.out _)
      repeat still_step
      refine wpStill_nil ?_
      change wpList _ _ _ _ _ wr.drew
      have hco' : wr.drew.cell? ⟨w.heap.size, i, none⟩ = some (.int .u32 (o9 : Int)) := hco
      have hfo' : wr.drew.frozen? ⟨w.heap.size, i, none⟩ = false := hfo
      go_wp2
      go_roundg G
      case measure => omega
      case rel => exact ⟨i + 1, _, by go_num, by omega, HLS.out, HTk.out, HNX.out, HBX.out⟩
    · obtain rfl : i = n := by omega
      have hi1 : ¬ (i : Int) < (i : Int) := by omega
      have hzl := zw_len f (a := a) (b := b) (by omega)
      have he : od = zw f a b := by
        rw [List.take_of_length_le (by omega), List.take_of_length_le (by omega)] at hot
        exact hot
      subst he
      have HR := Lib.hid hR
      have HBX := Lib.hid hBx
      clear hR hBx hot hrow hb0
      go_wp2
      go_ret
      exact ⟨rfl, HR.out, HBX.out⟩
end Go.Proofs.YtmnibfdenmeepaaDoor
/- A region that draws its order, whose last operations write what others have given. -/
namespace Go.Proofs.YtmnibfdenmeepaaDoor
open Go.RowKit Go.Shelf Big

/-- Up to operation n: Pr i of the slot s i, once i has come; from n on: Fin, by what has come. -/
structure RegInv (I : World → Prop) (n : Nat) (s : Nat → Nat) (Pr : Nat → Value → World → Prop) (Fin : (Nat → Bool) → (Nat → Value) → World → Prop) (L : Nat → Bool) (u : Nat → Value) (w' : World) : Prop where
  inv : L n = false → I w'
  each : ∀ i, i < n → L n = false → L i = true → Pr i (u (s i)) w'
  fin : L n = true → Fin L u w'
  all : L n = true → ∀ i, i < n → L i = true
  aft : ∀ j, n < j → L j = true → L n = true
theorem RegInv.start {I : World → Prop} {n : Nat} {s : Nat → Nat} {Pr : Nat → Value → World → Prop} {Fin : (Nat → Bool) → (Nat → Value) → World → Prop} {L : Nat → Bool} {u : Nat → Value} {w : World} (h : ∀ i, L i = false) (hI : I w) : RegInv I n s Pr Fin L u w :=
  ⟨fun _ => hI, fun i _ _ h1 => (by rw [h i] at h1; cases h1), fun h1 => (by rw [h n] at h1; cases h1), fun h1 => (by rw [h n] at h1; cases h1), fun j _ h1 => (by rw [h j] at h1; cases h1)⟩
theorem RegInv.not {I : World → Prop} {w1 : World} {n : Nat} {s : Nat → Nat} {Pr : Nat → Value → World → Prop} {Fin : (Nat → Bool) → (Nat → Value) → World → Prop} {L : Array Bool} {u : Nat → Value} (F : RegInv I n s Pr Fin (fun j => L.getD j false) u w1) (k : Nat) (hkn : k ≤ n) (hk : L.getD k true = false) : L.getD n false = false := by
  cases h1 : L.getD n false with
  | false => rfl
  | true =>
    rcases Nat.lt_or_ge k n with h2 | h2
    · have h3 := F.all h1 k h2
      have h4 := false_of hk
      rw [h4] at h3
      cases h3
    · obtain rfl : k = n := by omega
      have h4 := false_of hk
      rw [h4] at h1
      cases h1
theorem RegInv.got {I : World → Prop} {w1 : World} {n : Nat} {s : Nat → Nat} {Pr : Nat → Value → World → Prop} {Fin : (Nat → Bool) → (Nat → Value) → World → Prop} {L : Array Bool} {u : Nat → Value} (F : RegInv I n s Pr Fin (fun j => L.getD j false) u w1) (i : Nat) (hi : i < n) (k : Nat) (hk : L.getD k true = false) (hkn : k ≤ n) (h : L.getD i false = true) : Pr i (u (s i)) w1 :=
  F.each i hi (F.not k hkn hk) h
theorem RegInv.put {I : World → Prop} {w1 w2 : World} {n : Nat} {s : Nat → Nat} {Pr : Nat → Value → World → Prop} {Fin : (Nat → Bool) → (Nat → Value) → World → Prop} {L : Array Bool} {u : Nat → Value} {x : Value} (i : Nat) (F : RegInv I n s Pr Fin (fun j => L.getD j false) u w1)
    (hst : Stays n Pr) (hi : i < n) (hs : ∀ j, j < n → j ≠ i → s j ≠ s i) (hnl : L.getD i true = false) (hb : Below w1.heap.size w1 w2) (hI : I w2) (hx : Pr i x w2) :
    RegInv I n s Pr Fin (fun j => (L.setIfInBounds i true).getD j false) (upd u (s i) x) w2 := by
  have hln := F.not i (Nat.le_of_lt hi) hnl
  have hset : ∀ j, j ≠ i → (L.setIfInBounds i true).getD j false = L.getD j false := fun j hj => by
    simp only [Array.getD_eq_getD_getElem?]
    rw [Array.getElem?_setIfInBounds_ne (by omega)]
  have hn' := (hset n (by omega)).trans hln
  refine ⟨fun _ => hI, fun j hj _ h1 => ?_, fun h => ?_, fun h => ?_, fun j hj h => ?_⟩
  · by_cases e : j = i
    · subst e
      rw [upd_eq]
      exact hx
    · rw [upd_ne (hs j hj e)]
      rcases set_true h1 with h | h
      · exact absurd h e
      · exact hst j _ _ _ hj hb (F.each j hj hln h)
  · rw [hn'] at h; cases h
  · rw [hn'] at h; cases h
  · rw [hset j (by omega)] at h
    have := F.aft j hj h
    rw [hln] at this
    cases this
/-- Operation n comes. -/
theorem RegInv.last {I : World → Prop} {w1 w2 : World} {n : Nat} {s : Nat → Nat} {Pr : Nat → Value → World → Prop} {Fin : (Nat → Bool) → (Nat → Value) → World → Prop} {L : Array Bool} {u u' : Nat → Value} (F : RegInv I n s Pr Fin (fun j => L.getD j false) u w1) (hnl : L.getD n true = false)
    (hall : ∀ i, i < n → L.getD i false = true) (hx : (∀ j, n < j → (L.setIfInBounds n true).getD j false = false) → Fin (fun j => (L.setIfInBounds n true).getD j false) u' w2) : RegInv I n s Pr Fin (fun j => (L.setIfInBounds n true).getD j false) u' w2 := by
  have hlt : n < L.size := by
    rcases Nat.lt_or_ge n L.size with h | h
    · exact h
    · simp [Array.getD, Nat.not_lt.2 h] at hnl
  have hln := F.not n (Nat.le_refl _) hnl
  have hset : ∀ j, j ≠ n → (L.setIfInBounds n true).getD j false = L.getD j false := fun j hj => by
    simp only [Array.getD_eq_getD_getElem?]
    rw [Array.getElem?_setIfInBounds_ne (by omega)]
  have hyes : (L.setIfInBounds n true).getD n false = true := by
    simp [Array.getD_eq_getD_getElem?, hlt]
  refine ⟨fun h => ?_, fun j _ h => ?_, fun _ => hx (fun j hj => ?_), fun _ i hi => ?_, fun j _ _ => hyes⟩
  · rw [hyes] at h; cases h
  · rw [hyes] at h; cases h
  · rw [hset j (by omega)]
    cases h : L.getD j false with
    | false => rfl
    | true => have := F.aft j hj h; rw [hln] at this; cases this
  · rw [hset i (by omega)]
    exact hall i hi
/-- An operation behind n comes. -/
theorem RegInv.post {I : World → Prop} {w1 w2 : World} {n : Nat} {s : Nat → Nat} {Pr : Nat → Value → World → Prop} {Fin : (Nat → Bool) → (Nat → Value) → World → Prop} {L : Array Bool} {u u' : Nat → Value} (m : Nat) (F : RegInv I n s Pr Fin (fun j => L.getD j false) u w1) (hm : n < m)
    (hn : L.getD n false = true) (hx : Fin (fun j => (L.setIfInBounds m true).getD j false) u' w2) : RegInv I n s Pr Fin (fun j => (L.setIfInBounds m true).getD j false) u' w2 := by
  have hset : ∀ j, j ≠ m → (L.setIfInBounds m true).getD j false = L.getD j false := fun j hj => by
    simp only [Array.getD_eq_getD_getElem?]
    rw [Array.getElem?_setIfInBounds_ne (by omega)]
  have hn' := (hset n (by omega)).trans hn
  refine ⟨fun h => ?_, fun j _ h => ?_, fun _ => hx, fun _ i hi => ?_, fun j _ _ => hn'⟩
  · rw [hn'] at h; cases h
  · rw [hn'] at h; cases h
  · rw [hset i (by omega)]
    exact F.all hn i hi
theorem RowIs.mono {w : World} {B B' g cap : Nat} {ds : List Nat} (h : RowIs w B g cap ds) (hb : B' ≤ B) : RowIs w B' g cap ds := by
  refine ⟨h.1, ?_⟩
  rcases h.2 with hn | ⟨g', cap', cur, e, h1, hg, h3⟩
  · exact .inl hn
  · exact .inr ⟨g', cap', cur, e, Nat.le_trans hb h1, hg, h3⟩
end Go.Proofs.YtmnibfdenmeepaaDoor
/- The word operations on numbers. -/
namespace Go.Proofs.YtmnibfdenmeepaaDoor
open Go.RowKit Go.Shelf Big

def bwS : Nat → Nat
  | 0 => 15 | 1 => 16 | 2 => 17 | 3 => 18 | 4 => 19 | 5 => 20 | 6 => 21 | _ => 22
def bwPr (b0 n : Nat) (X Y F : Value) (dx dy dz : List Nat) : Nat → Value → World → Prop
  | 0, v, _ => v = X
  | 1, v, _ => v = .int .i64 (n : Int)
  | 2, v, w => ∃ g, v = .slice (some ⟨g, 0, none⟩) n n ∧ RowIs w b0 g n dx
  | 3, v, _ => v = Y
  | 4, v, _ => v = .int .i64 (n : Int)
  | 5, v, w => ∃ g, v = .slice (some ⟨g, 0, none⟩) n n ∧ RowIs w b0 g n dy
  | 6, v, _ => v = F
  | _, v, w => ∃ g, v = .slice (some ⟨g, 0, none⟩) n n ∧ RowIs w b0 g n dz
theorem bwPr_stays (b0 n : Nat) (X Y F : Value) (dx dy dz : List Nat) : Stays 8 (bwPr b0 n X Y F dx dy dz) := by
  intro i v w w' hi hb h
  match i, h with
  | 0, h => exact h
  | 1, h => exact h
  | 2, h => obtain ⟨g, e, hr⟩ := h; exact ⟨g, e, own_below hr hb⟩
  | 3, h => exact h
  | 4, h => exact h
  | 5, h => obtain ⟨g, e, hr⟩ := h; exact ⟨g, e, own_below hr hb⟩
  | 6, h => exact h
  | k + 7, h => obtain ⟨g, e, hr⟩ := h; exact ⟨g, e, own_below hr hb⟩
def bwFin (W0 : World) (b r5 : Nat) (Z : Int) (L : Nat → Bool) (u : Nat → Value) (w : World) : Prop :=
  (L 9 = false → ∃ r k a l c, u 23 = .agg #[.bool r, .slice a l c, .bool false, .bool false] ∧ NatIs w W0.heap.size (.slice a l c) k ∧ sgI r k = Z ∧ Below W0.heap.size W0 w) ∧
  (L 9 = true → ∃ r k v, Has w r5 46 #[.bool r, v, .bool false, .bool false] ∧ NatIs w b v k ∧ sgI r k = Z ∧ Below b W0 w)

/-- What has come came behind what it needs. -/
def Cl (L : Nat → Bool) : Prop := (L 2 = true → L 0 = true ∧ L 1 = true) ∧ (L 5 = true → L 3 = true ∧ L 4 = true) ∧ (L 7 = true → L 2 = true ∧ L 5 = true ∧ L 6 = true)
theorem set_mono {L : Array Bool} {i j : Nat} (h : L.getD j false = true) : (L.setIfInBounds i true).getD j false = true := by
  by_cases e : i = j
  · subst e
    have hlt : i < L.size := by
      rcases Nat.lt_or_ge i L.size with h1 | h1
      · exact h1
      · simp [Array.getD_eq_getD_getElem?, Array.getElem?_eq_none h1] at h
    simp [Array.getD_eq_getD_getElem?, hlt]
  · simp only [Array.getD_eq_getD_getElem?] at h ⊢
    rwa [Array.getElem?_setIfInBounds_ne e]
theorem set_self9 {L : Array Bool} {i : Nat} (h : L.getD i true = false) : (L.setIfInBounds i true).getD i false = true := by
  have hlt : i < L.size := by
    rcases Nat.lt_or_ge i L.size with h1 | h1
    · exact h1
    · simp [Array.getD, Nat.not_lt.2 h1] at h
  simp [Array.getD_eq_getD_getElem?, hlt]
theorem Cl.start {n : Nat} : Cl (fun i => (Array.replicate n false).getD i false) := by
  have h := none_listed n
  refine ⟨fun h1 => ?_, fun h1 => ?_, fun h1 => ?_⟩ <;> (simp only [h] at h1; cases h1)
theorem Cl.set {L : Array Bool} (h : Cl (fun i => L.getD i false)) (i : Nat) (h2 : i = 2 → L.getD 0 false = true ∧ L.getD 1 false = true) (h5 : i = 5 → L.getD 3 false = true ∧ L.getD 4 false = true) (h7 : i = 7 → L.getD 2 false = true ∧ L.getD 5 false = true ∧ L.getD 6 false = true) :
    Cl (fun j => (L.setIfInBounds i true).getD j false) := by
  refine ⟨fun hj => ?_, fun hj => ?_, fun hj => ?_⟩
  · have e : L.getD 0 false = true ∧ L.getD 1 false = true := by
      rcases set_true hj with e | e
      · exact h2 e.symm
      · exact h.1 e
    exact ⟨set_mono e.1, set_mono e.2⟩
  · have e : L.getD 3 false = true ∧ L.getD 4 false = true := by
      rcases set_true hj with e | e
      · exact h5 e.symm
      · exact h.2.1 e
    exact ⟨set_mono e.1, set_mono e.2⟩
  · have e : L.getD 2 false = true ∧ L.getD 5 false = true ∧ L.getD 6 false = true := by
      rcases set_true hj with e | e
      · exact h7 e.symm
      · exact h.2.2 e
    exact ⟨set_mono e.1, set_mono e.2.1, set_mono e.2.2⟩
theorem Cl.all {L : Nat → Bool} (h : Cl L) (h7 : L 7 = true) : ∀ i, i < 8 → L i = true := by
  obtain ⟨a, b, c⟩ := h.2.2 h7
  obtain ⟨d, e⟩ := h.1 a
  obtain ⟨f, g⟩ := h.2.1 b
  intro i hi
  have : i = 0 ∨ i = 1 ∨ i = 2 ∨ i = 3 ∨ i = 4 ∨ i = 5 ∨ i = 6 ∨ i = 7 := by omega
  rcases this with rfl | rfl | rfl | rfl | rfl | rfl | rfl | rfl <;> assumption

set_option maxRecDepth 100000 in
set_option maxHeartbeats 8000000 in
theorem bitw_any (K : FuncId) (f : Nat → Nat → Nat) (hK : DoesW K f) (hf : ∀ x y, x < 4294967296 → y < 4294967296 → f x y < 4294967296) (x y : Int) (B1 B2 : Nat) (va vb : Value) (l1 o1 l2 o2 : Bool) (c M : Nat) (w : World) (ha : NatIs w B1 va x.natAbs) (hb : NatIs w B2 vb y.natAbs)
    (hc : Has w c 101 #[.func (.func K) #[] #[]]) (hM1 : (lims 4294967296 x.natAbs).length ≤ M) (hM2 : (lims 4294967296 y.natAbs).length ≤ M) (hM : M = (lims 4294967296 x.natAbs).length ∨ M = (lims 4294967296 y.natAbs).length) (hMl : M ≤ 900) :
    Calls Tryd.prog 123 #[.agg #[.bool (decide (x < 0)), va, .bool l1, .bool o1], .agg #[.bool (decide (y < 0)), vb, .bool l2, .bool o2], .pointer (some ⟨c, 0, none⟩)] w fun e w' => (∃ r k, NumIs w.heap.size r k w' e ∧ sgI r k = bitZ f (M + 1) x y) ∧ Below w.heap.size w w' := by
  obtain ⟨W0, hW0⟩ : ∃ W0, ((w.alloc (.cells #[.bool (decide (x < 0)), va, .bool l1, .bool o1] 46)).alloc (.cells #[.bool (decide (y < 0)), vb, .bool l2, .bool o2] 46)).alloc (.cells #[.bool false, .slice none 0 0, .bool false, .bool false] 46) = W0 := ⟨_, rfl⟩
  have hz0 : W0.heap.size = w.heap.size + 3 := by rw [← hW0]; simp
  have hA0 : NatIs W0 B1 va x.natAbs := by rw [← hW0]; exact ((ha.alloc _).alloc _).alloc _
  have hB0 : NatIs W0 B2 vb y.natAbs := by rw [← hW0]; exact ((hb.alloc _).alloc _).alloc _
  have hX : Has W0 w.heap.size 46 #[.bool (decide (x < 0)), va, .bool l1, .bool o1] := by rw [← hW0]; exact ((Has.new w _ _).alloc _).alloc _
  have hY : Has W0 (w.heap.size + 1) 46 #[.bool (decide (y < 0)), vb, .bool l2, .bool o2] := by rw [← hW0]; exact (Has.new' (n := w.heap.size + 1) (by simp) _ _).alloc _
  have hZ : Has W0 (w.heap.size + 2) 46 #[.bool false, .slice none 0 0, .bool false, .bool false] := by rw [← hW0]; exact Has.new' (by simp) _ _
  have hC : Has W0 c 101 #[.func (.func K) #[] #[]] := by rw [← hW0]; exact ((hc.alloc _).alloc _).alloc _
  have hBB : Below w.heap.size w W0 := by rw [← hW0]; exact (((Below.refl _ w).alloc (Nat.le_refl _) _).alloc (by simp) _).alloc (by simp; omega) _
  have HWx := Lib.hid (fun W (hW : Below W0.heap.size W0 W) => words_any B1 (M + 1) x va l1 o1 W (hA0.kept hW) (by omega) (by omega))
  have HWy := Lib.hid (fun W (hW : Below W0.heap.size W0 W) => words_any B2 (M + 1) y vb l2 o2 W (hB0.kept hW) (by omega) (by omega))
  have hlx := tw_len (z := x) (n := M + 1) (by omega)
  have hly := tw_len (z := y) (n := M + 1) (by omega)
  have hsx := tw_small x (M + 1)
  have hsy := tw_small y (M + 1)
  have HCo := Lib.hid (fun W g1 g2 (h1 : RowIs W W0.heap.size g1 (M + 1) (tw x (M + 1))) (h2 : RowIs W W0.heap.size g2 (M + 1) (tw y (M + 1))) => comb_any K f hK W0.heap.size W0.heap.size g1 g2 (M + 1) (tw x (M + 1)) (tw y (M + 1)) W h1 h2 hlx hly hsx hsy (by omega))
  have HOf := Lib.hid (fun W g (h : RowIs W W0.heap.size g (M + 1) (zw f (tw x (M + 1)) (tw y (M + 1)))) (hB : W0.heap.size ≤ W.heap.size) => ofWords_any W0.heap.size g M (zw f (tw x (M + 1)) (tw y (M + 1))) W h (by rw [zw_len f (by omega)]; exact hlx) (zw_small hf hsx hsy) (by omega) hB)
  have HBZ := Lib.hid (show bitZ f (M + 1) x y = val (zw f (tw x (M + 1)) (tw y (M + 1))) from rfl)
  have HE := Lib.hid hK.1
  obtain ⟨av, ca, rfl⟩ := ha.slice
  obtain ⟨bv, cb, rfl⟩ := hb.slice
  generalize (lims 4294967296 x.natAbs).length = la at *
  generalize (lims 4294967296 y.natAbs).length = lb at *
  have hmax : max (la : Int) (lb : Int) = (M : Int) := by omega
  have hmx : max la lb = M := by omega
  obtain ⟨x0, x1, -⟩ := hX.four
  obtain ⟨y0, y1, -⟩ := hY.four
  clear ha hb hc hA0 hB0 hM1 hM2 hM hlx hly hsx hsy
  generalize tw x (M + 1) = dx at *
  generalize tw y (M + 1) = dy at *
  generalize zw f dx dy = dz at *
  generalize decide (x < 0) = sx at *
  generalize decide (y < 0) = sy at *
  obtain ⟨n, hn⟩ : ∃ n, M + 1 = n := ⟨_, rfl⟩
  have hnI : (M : Int) + 1 = (n : Int) := by omega
  rw [hn] at HWx HWy HCo HOf HBZ
  clear hK hf
  go_enter Tryd.func123, Tryd.ntmps123
  go_wp2_with fail
  clear hW0 x0 x1 y0 y1
  have hZ' : Has W0 (w.heap.size + 1 + 1) 46 #[.bool false, .slice none 0 0, .bool false, .bool false] := hZ
  clear hZ
  have hst := bwPr_stays W0.heap.size n (.agg #[.bool sx, .slice av la ca, .bool l1, .bool o1]) (.agg #[.bool sy, .slice bv lb cb, .bool l2, .bool o2]) (.func (.func K) #[] #[]) dx dy dz
  refine wp_region_inv (Inv := fun listed x' w' => ∃ u, x' = { tmps := #[.agg #[.bool sx, .slice av la ca, .bool l1, .bool o1], .agg #[.bool sy, .slice bv lb cb, .bool l2, .bool o2], .pointer (some ⟨c, 0, none⟩), .pointer (some ⟨w.heap.size, 0, none⟩), .pointer (some ⟨w.heap.size + 1, 0, none⟩), .pointer (some ⟨w.heap.size + 1 + 1, 0, none⟩), .int .i64 (n : Int), .pointer (some ⟨w.heap.size, 1, none⟩), .slice av la ca, .int .i64 (la : Int), .pointer (some ⟨w.heap.size + 1, 1, none⟩), .slice bv lb cb, .int .i64 (lb : Int), .int .i64 (M : Int), .int .i64 (n : Int), u 15, u 16, u 17, u 18, u 19, u 20, u 21, u 22, u 23], defers := [] } ∧ RegInv (fun w' => Below W0.heap.size W0 w') 8 bwS (bwPr W0.heap.size n (.agg #[.bool sx, .slice av la ca, .bool l1, .bool o1]) (.agg #[.bool sy, .slice bv lb cb, .bool l2, .bool o2]) (.func (.func K) #[] #[]) dx dy dz) (bwFin W0 w.heap.size (w.heap.size + 1 + 1) (val dz)) (fun i => listed.getD i false) u w' ∧ Cl (fun i => listed.getD i false)) (by kernel_rfl) (ord_of (by kernel_rfl)) ?h0 ?step ?fin
  case h0 => exact ⟨fun _ => undef, rfl, RegInv.start (none_listed _) (Below.refl _ _).drew, Cl.start⟩
  case fin =>
    rintro listed x' w' ⟨u, rfl, F, _⟩ hall
    obtain ⟨r, k, v, hR, hnat, hsg, hbF⟩ := (F.fin (hall 8 (by decide))).2 (hall 9 (by decide))
    obtain ⟨a9, c9, rfl⟩ := hnat.slice
    obtain ⟨q0, q1, q2, q3, -⟩ := hR.four
    have HBF := Lib.hid (hBB.trans hbF)
    have HN := Lib.hid hnat
    have HSG := Lib.hid hsg
    clear F hall hnat hsg hbF hR
    generalize (lims 4294967296 k).length = lk at *
    go_wp2
    exact bodyPost_ret (v := .agg #[.bool r, .slice a9 lk c9, .bool false, .bool false]) (by simp [results, Tryd.results123, go_sem, q0, q1, q2, q3]) rfl ⟨⟨r, k, ⟨_, rfl, HN.out⟩, by rw [HSG.out, hn, HBZ.out]⟩, HBF.out⟩
  case step =>
    rintro listed x' w' i ⟨u, rfl, F, hcl⟩ hi hn' hd
    have h10 : i = 0 ∨ i = 1 ∨ i = 2 ∨ i = 3 ∨ i = 4 ∨ i = 5 ∨ i = 6 ∨ i = 7 ∨ i = 8 ∨ i = 9 := by
      have : i < 10 := hi
      omega
    rcases h10 with rfl | rfl | rfl | rfl | rfl | rfl | rfl | rfl | rfl | rfl
    · have hI := F.inv (F.not 0 (by decide) hn')
      obtain ⟨x0, x1, x2, x3, -⟩ := (hX.below hI).four
      refine wpOp_by rfl rfl (fun K hK => ?_)
      go_simp
      exact hK _ _ ⟨_, rfl, F.put 0 hst (by decide) (by decide) hn' (Below.refl _ _) hI rfl, hcl.set 0 (fun h => absurd h (by decide)) (fun h => absurd h (by decide)) (fun h => absurd h (by decide))⟩
    · have hI := F.inv (F.not 1 (by decide) hn')
      refine wpOp_by rfl rfl (fun K hK => ?_)
      go_simp
      exact hK _ _ ⟨_, rfl, F.put 1 hst (by decide) (by decide) hn' (Below.refl _ _) hI rfl, hcl.set 1 (fun h => absurd h (by decide)) (fun h => absurd h (by decide)) (fun h => absurd h (by decide))⟩
    · have hI := F.inv (F.not 2 (by decide) hn')
      have e1 : u 15 = _ := F.got 0 (by decide) 2 hn' (by decide) (hd _ rfl ⟨0, .data⟩ (by simp) rfl)
      have e2 : u 16 = _ := F.got 1 (by decide) 2 hn' (by decide) (hd _ rfl ⟨1, .data⟩ (by simp) rfl)
      refine wpOp_by rfl rfl (fun K hK => ?_)
      go_simp
      refine (HWx.out _ hI).mono ?_
      rintro e w2 ⟨⟨g, rfl, _, hr⟩, hb2⟩
      exact hK _ _ ⟨_, by simp [upd, bwS, e1, e2], F.put 2 hst (by decide) (by decide) hn' hb2 (Below.behind hI hb2) ⟨g, rfl, RowIs.mono hr hI.size⟩, hcl.set 2 (fun _ => ⟨hd _ rfl ⟨0, .data⟩ (by simp) rfl, hd _ rfl ⟨1, .data⟩ (by simp) rfl⟩) (fun h => absurd h (by decide)) (fun h => absurd h (by decide))⟩
    · have hI := F.inv (F.not 3 (by decide) hn')
      obtain ⟨y0, y1, y2, y3, -⟩ := (hY.below hI).four
      refine wpOp_by rfl rfl (fun K hK => ?_)
      go_simp
      exact hK _ _ ⟨_, rfl, F.put 3 hst (by decide) (by decide) hn' (Below.refl _ _) hI rfl, hcl.set 3 (fun h => absurd h (by decide)) (fun h => absurd h (by decide)) (fun h => absurd h (by decide))⟩
    · have hI := F.inv (F.not 4 (by decide) hn')
      refine wpOp_by rfl rfl (fun K hK => ?_)
      go_simp
      exact hK _ _ ⟨_, rfl, F.put 4 hst (by decide) (by decide) hn' (Below.refl _ _) hI rfl, hcl.set 4 (fun h => absurd h (by decide)) (fun h => absurd h (by decide)) (fun h => absurd h (by decide))⟩
    · have hI := F.inv (F.not 5 (by decide) hn')
      have e1 : u 18 = _ := F.got 3 (by decide) 5 hn' (by decide) (hd _ rfl ⟨3, .data⟩ (by simp) rfl)
      have e2 : u 19 = _ := F.got 4 (by decide) 5 hn' (by decide) (hd _ rfl ⟨4, .data⟩ (by simp) rfl)
      refine wpOp_by rfl rfl (fun K hK => ?_)
      go_simp
      refine (HWy.out _ hI).mono ?_
      rintro e w2 ⟨⟨g, rfl, _, hr⟩, hb2⟩
      exact hK _ _ ⟨_, by simp [upd, bwS, e1, e2], F.put 5 hst (by decide) (by decide) hn' hb2 (Below.behind hI hb2) ⟨g, rfl, RowIs.mono hr hI.size⟩, hcl.set 5 (fun h => absurd h (by decide)) (fun _ => ⟨hd _ rfl ⟨3, .data⟩ (by simp) rfl, hd _ rfl ⟨4, .data⟩ (by simp) rfl⟩) (fun h => absurd h (by decide))⟩
    · have hI := F.inv (F.not 6 (by decide) hn')
      have z0 := Has.cell (hC.below hI) 0
      simp only [List.getElem?_toArray, List.getElem?_cons_zero] at z0
      refine wpOp_by rfl rfl (fun K hK => ?_)
      go_simp
      exact hK _ _ ⟨_, rfl, F.put 6 hst (by decide) (by decide) hn' (Below.refl _ _) hI rfl, hcl.set 6 (fun h => absurd h (by decide)) (fun h => absurd h (by decide)) (fun h => absurd h (by decide))⟩
    · have hI := F.inv (F.not 7 (by decide) hn')
      obtain ⟨g1, e1, hr1⟩ := F.got 2 (by decide) 7 hn' (by decide) (hd _ rfl ⟨2, .data⟩ (by simp) rfl)
      obtain ⟨g2, e2, hr2⟩ := F.got 5 (by decide) 7 hn' (by decide) (hd _ rfl ⟨5, .data⟩ (by simp) rfl)
      have e1 : u 17 = _ := e1
      have e2 : u 20 = _ := e2
      have e3 : u 21 = _ := F.got 6 (by decide) 7 hn' (by decide) (hd _ rfl ⟨6, .data⟩ (by simp) rfl)
      refine wpOp_by rfl rfl (fun K hK => ?_)
      go_simp
      refine (HCo.out _ g1 g2 hr1 hr2).mono ?_
      rintro e w2 ⟨rfl, hr3, hb2⟩
      exact hK _ _ ⟨_, by simp [upd, bwS, e1, e2, e3], F.put 7 hst (by decide) (by decide) hn' hb2 (Below.behind hI hb2) ⟨_, rfl, RowIs.mono hr3 hI.size⟩, hcl.set 7 (fun h => absurd h (by decide)) (fun h => absurd h (by decide)) (fun _ => ⟨hd _ rfl ⟨2, .data⟩ (by simp) rfl, hd _ rfl ⟨5, .data⟩ (by simp) rfl, hd _ rfl ⟨6, .data⟩ (by simp) rfl⟩)⟩
    · have hI := F.inv (F.not 8 (by decide) hn')
      obtain ⟨g3, e1, hr3⟩ := F.got 7 (by decide) 8 hn' (by decide) (hd _ rfl ⟨7, .data⟩ (by simp) rfl)
      have e1 : u 22 = _ := e1
      refine wpOp_by rfl rfl (fun K hK => ?_)
      go_simp
      refine (HOf.out _ g3 hr3 hI.size).mono ?_
      rintro e w2 ⟨⟨r, k, ⟨v, rfl, hnat⟩, hsg⟩, hb2⟩
      obtain ⟨a9, c9, rfl⟩ := hnat.slice
      have h9 := hcl.all (hd _ rfl ⟨7, .data⟩ (by simp) rfl)
      refine hK _ _ ⟨upd u 23 _, by simp [upd, e1], F.last hn' h9 (fun hno => ⟨fun _ => ⟨r, k, a9, _, c9, rfl, hnat, hsg, hI.trans hb2⟩, fun h => ?_⟩), hcl.set 8 (fun h => absurd h (by decide)) (fun h => absurd h (by decide)) (fun h => absurd h (by decide))⟩
      have h10 := hno 9 (by decide)
      exact absurd (h10.symm.trans h) (by decide)
    · have h8 := hd _ rfl ⟨8, .data⟩ (by simp) rfl
      have hno9 := false_of hn'
      obtain ⟨r, k, a9, l9, c9, e1, hnat, hsg, hbw⟩ := (F.fin h8).1 hno9
      obtain ⟨q0, q1, q2, q3, q4, q5, q6, q7⟩ := (hZ'.below hbw).four
      have hput := (hZ'.below hbw).put4 (.bool r) (.slice a9 l9 c9) (.bool false) (.bool false)
      have hnat2 := NatIs.mono (hnat.apart4 (hnat.new (show w.heap.size + 1 + 1 < W0.heap.size by omega)) (.bool r) (.slice a9 l9 c9) (.bool false) (.bool false)) (show w.heap.size ≤ W0.heap.size by omega)
      have hb9 := Below.four (hbw.mono (show w.heap.size ≤ W0.heap.size by omega)) (show w.heap.size ≤ w.heap.size + 1 + 1 by omega) (.bool r) (.slice a9 l9 c9) (.bool false) (.bool false)
      refine wpOp_by rfl rfl (fun K hK => ?_)
      go_simp
      exact hK _ _ ⟨u, by simp [e1], F.post 9 (by decide) h8 ⟨fun h => absurd ((set_self9 hn').symm.trans h) (by decide), fun _ => ⟨r, k, _, hput, hnat2, hsg, hb9⟩⟩, hcl.set 9 (fun h => absurd h (by decide)) (fun h => absurd h (by decide)) (fun h => absurd h (by decide))⟩
end Go.Proofs.YtmnibfdenmeepaaDoor
/- two of the program with a captured variable; And, Or, Xor. -/
namespace Go.Proofs.YtmnibfdenmeepaaDoor
open Go.RowKit Go.Shelf Big

/-- A closure reckons f of the numbers of two texts. -/
def DoesAt (K : FuncId) (c : Nat) (f : Int → Int → Int) (W : World) (a b : List UInt8) : Prop :=
  ∀ (B : Nat) (x y : Int) (va vb : Value) (o1 o2 : Bool), numOf a = some x → numOf b = some y → tooL x.natAbs = false → tooL y.natAbs = false → NatIs W B va x.natAbs → NatIs W B vb y.natAbs →
    Calls Tryd.prog K #[.agg #[.bool (decide (x < 0)), va, .bool false, .bool o1], .agg #[.bool (decide (y < 0)), vb, .bool false, .bool o2], .pointer (some ⟨c, 0, none⟩)] W fun e w' => (∃ r n, NumIs W.heap.size r n w' e ∧ sgI r n = f x y) ∧ Below W.heap.size W w'
def TameAt (f : Int → Int → Int) (a b : List UInt8) : Prop := ∀ x y : Int, numOf a = some x → numOf b = some y → tooL x.natAbs = false → tooL y.natAbs = false → (lims 4294967296 (f x y).natAbs).length ≤ 100000
set_option maxRecDepth 100000 in
set_option maxHeartbeats 2000000 in
theorem two_cap (K : FuncId) (c : Nat) (f : Int → Int → Int) (a b : ByteArray) (w : World) (hE : ∀ args w, (callFunc K args).run Tryd.prog w = .ok (.enter K args) w) (hC : ∀ W, Below w.heap.size w W → DoesAt K c f W a.data.toList b.data.toList) (hf : TameAt f a.data.toList b.data.toList) (ha : a.size ≤ 1000) (hb : b.size ≤ 1000) :
    Calls Tryd.prog 58 #[.string a, .string b, .func (.func K) #[] #[.pointer (some ⟨c, 0, none⟩)]] w fun e w' => e = retS (opS f a.data.toList b.data.toList) ∧ Below w.heap.size w w' := by
  have HC := Lib.hid hC
  clear hC
  go_enter Tryd.func58, Tryd.ntmps58
  go_wp2_with fail
  refine (parseTwo_any a b w ha hb).mono ?_
  rintro e w1 ⟨⟨s1, a1, n1, c1, g1, o1, t1, s2, a2, n2, c2, g2, o2, t2, rfl, hf1, hf2⟩, hb1⟩
  have hz1 := hb1.size
  have HF1 := Lib.hid hf1
  have HF2 := Lib.hid hf2
  clear hf1 hf2
  have hno : (t1 && t2) = false → retS (opS f a.data.toList b.data.toList) = .returned (.tuple #[.string ⟨#[]⟩, .int .i64 2]) := by
    intro h
    unfold opS
    rcases HF1.out with ⟨rfl, z, hz, _⟩ | ⟨rfl, hz⟩
    · rcases HF2.out with ⟨rfl, z2, hz2, _⟩ | ⟨rfl, hz2⟩
      · simp at h
      · rw [hz, hz2]; rfl
    · rw [hz]; rfl
  have HNO := Lib.hid hno
  clear hno
  have hbel : ∀ x y, Below w.heap.size w ((w1.alloc x).alloc y) := fun x y => (hb1.alloc hz1 x).alloc (by simp; omega) y
  have HBE := Lib.hid hbel
  clear hbel
  cases t1 <;> cases t2
  case true.true =>
    obtain ⟨z1, hz1', hs1, hg1, hn1⟩ : ∃ z : Int, numOf a.data.toList = some z ∧ s1 = decide (z < 0) ∧ g1 = tooL z.natAbs ∧ NatIs w1 w.heap.size (.slice a1 n1 c1) z.natAbs := by
      rcases HF1.out with ⟨_, h⟩ | ⟨h, _⟩
      · exact h
      · cases h
    obtain ⟨z2, hz2', hs2, hg2, hn2⟩ : ∃ z : Int, numOf b.data.toList = some z ∧ s2 = decide (z < 0) ∧ g2 = tooL z.natAbs ∧ NatIs w1 w.heap.size (.slice a2 n2 c2) z.natAbs := by
      rcases HF2.out with ⟨_, h⟩ | ⟨h, _⟩
      · exact h
      · cases h
    have HOP := Lib.hid (show opS f a.data.toList b.data.toList = if tooL z1.natAbs || tooL z2.natAbs then ([], 4) else told (f z1 z2) by unfold opS; rw [hz1', hz2'])
    have HG := Lib.hid (And.intro hg1 hg2)
    have HN1 := Lib.hid (fun x y => (hn1.alloc x).alloc y)
    have HN2 := Lib.hid (fun x y => (hn2.alloc x).alloc y)
    have HZ1 := Lib.hid hz1'
    have HZ2 := Lib.hid hz2'
    subst hs1
    subst hs2
    clear hz1' hz2' hg1 hg2 hn1 hn2 HNO HF1 HF2
    cases g1 <;> cases g2
    case false.false =>
      have hl1 := short_of HG.out.1.symm
      have hl2 := short_of HG.out.2.symm
      have HT := Lib.hid (hf z1 z2 HZ1.out HZ2.out HG.out.1.symm HG.out.2.symm)
      go_wp2_with fail
      refine ((HC.out _ (HBE.out _ _)) w.heap.size z1 z2 _ _ o1 o2 HZ1.out HZ2.out HG.out.1.symm HG.out.2.symm (HN1.out _ _) (HN2.out _ _)).mono ?_
      rintro e w2 ⟨⟨r, n, ⟨v, rfl, hn⟩, hsg⟩, hb2⟩
      have hz2 := hb2.size
      have hnl : (lims 4294967296 n).length ≤ 100000 := by
        have h := HT.out
        rwa [← hsg, sg_abs] at h
      have HSG := Lib.hid hsg
      obtain ⟨v9, c9, rfl⟩ := hn.slice
      clear hsg
      go_wp2_with fail
      refine (text_any _ n _ _ _ _ _ hn hnl).mono ?_
      rintro e w3 ⟨ht, hb3⟩
      have htd := ht.told
      rw [HSG.out] at htd
      have HOP2 := Lib.hid (show opS f a.data.toList b.data.toList = told (f z1 z2) by rw [HOP.out, ← HG.out.1, ← HG.out.2]; rfl)
      clear ht
      unfold retS at htd
      subst htd
      go_wp2
      go_ret2
      exact ⟨by rw [HOP2.out]; rfl, ((HBE.out _ _).trans (hb2.mono (by simp; omega))).trans (hb3.mono (by simp at hz2; omega))⟩
    all_goals
      have HOP2 := Lib.hid (show opS f a.data.toList b.data.toList = ([], 4) by rw [HOP.out, ← HG.out.1, ← HG.out.2]; rfl)
      go_wp2
      go_ret2
      exact ⟨by rw [HOP2.out]; rfl, HBE.out _ _⟩
  all_goals
    go_wp2
    go_ret2
    exact ⟨(HNO.out rfl).symm, HBE.out _ _⟩
end Go.Proofs.YtmnibfdenmeepaaDoor
/- And, Or, Xor of the program. -/
namespace Go.Proofs.YtmnibfdenmeepaaDoor
open Go.RowKit Go.Shelf Big

/-- The word operation on two numbers of any size. -/
def bitF (g : Nat → Nat → Nat) (x y : Int) : Int := bitZ g (max (lims 4294967296 x.natAbs).length (lims 4294967296 y.natAbs).length + 1) x y
theorem bitwise_any (K : FuncId) (w : World) :
    Calls Tryd.prog 100 #[.func (.func K) #[] #[]] w fun e w' => e = .returned (.func (.func 123) #[] #[.pointer (some ⟨w.heap.size, 0, none⟩)]) ∧ Has w' w.heap.size 101 #[.func (.func K) #[] #[]] ∧ Below w.heap.size w w' := by
  go_enter Tryd.func100, Tryd.ntmps100
  go_wp2
  go_ret
  exact ⟨rfl, Has.new _ _ _, (Below.refl _ _).alloc (Nat.le_refl _) _⟩
theorem lims_63 {n : Nat} (h : tooL n = false) : (lims 4294967296 n).length ≤ 63 := by
  have h1 := lims_of_tool h
  have h2 : 2 ^ k2008 ≤ 4294967296 ^ 63 := by decide +kernel
  exact (lims_len_le w32_ge n 63).2 (Nat.lt_of_lt_of_le h1 h2)
theorem bitF_abs {g : Nat → Nat → Nat} (hg : ∀ x y, x < 4294967296 → y < 4294967296 → g x y < 4294967296) {x y : Int} {M : Nat} (hx : (lims 4294967296 x.natAbs).length ≤ M) (hy : (lims 4294967296 y.natAbs).length ≤ M) : (bitF g x y).natAbs ≤ 4294967296 ^ (M + 1) := by
  obtain ⟨N, hN, h1, h2⟩ : ∃ N, max (lims 4294967296 x.natAbs).length (lims 4294967296 y.natAbs).length = N ∧ (lims 4294967296 x.natAbs).length ≤ N ∧ (lims 4294967296 y.natAbs).length ≤ N := ⟨_, rfl, Nat.le_max_left _ _, Nat.le_max_right _ _⟩
  have hNM : N ≤ M := by omega
  unfold bitF
  rw [hN]
  unfold bitZ
  have hl1 := tw_len (z := x) (n := N + 1) (by omega)
  have hl2 := tw_len (z := y) (n := N + 1) (by omega)
  have h3 := val_lt (zw_small hg (tw_small x (N + 1)) (tw_small y (N + 1)))
  rw [zw_len g (by omega), hl1] at h3
  exact Nat.le_trans h3 (Nat.pow_le_pow_right (by decide) (by omega))
theorem doesAt_bit (K : FuncId) (g : Nat → Nat → Nat) (hK : DoesW K g) (hg : ∀ x y, x < 4294967296 → y < 4294967296 → g x y < 4294967296) (c : Nat) (W : World) (a b : List UInt8) (hc : Has W c 101 #[.func (.func K) #[] #[]]) : DoesAt 123 c (bitF g) W a b := by
  intro B x y va vb o1 o2 _ _ h1 h2 ha hb
  have l1 := lims_63 h1
  have l2 := lims_63 h2
  unfold bitF
  exact bitw_any K g hK hg x y B B va vb false o1 false o2 c _ W ha hb hc (Nat.le_max_left _ _) (Nat.le_max_right _ _) (by omega) (by omega)
theorem tameAt_bit (g : Nat → Nat → Nat) (hg : ∀ x y, x < 4294967296 → y < 4294967296 → g x y < 4294967296) (a b : List UInt8) : TameAt (bitF g) a b := by
  intro x y _ _ h1 h2
  have h3 := bitF_abs hg (lims_63 h1) (lims_63 h2)
  have h4 : (lims 4294967296 (bitF g x y).natAbs).length ≤ 65 := (lims_len_le w32_ge _ _).2 (Nat.lt_of_le_of_lt h3 (Nat.pow_lt_pow_right (by decide) (by decide)))
  omega
theorem two_bit (K : FuncId) (g : Nat → Nat → Nat) (hK : DoesW K g) (hg : ∀ x y, x < 4294967296 → y < 4294967296 → g x y < 4294967296) (c : Nat) (a b : ByteArray) (w : World) (hc : Has w c 101 #[.func (.func K) #[] #[]]) (ha : a.size ≤ 1000) (hb : b.size ≤ 1000) :
    Calls Tryd.prog 58 #[.string a, .string b, .func (.func 123) #[] #[.pointer (some ⟨c, 0, none⟩)]] w fun e w' => e = retS (opS (bitF g) a.data.toList b.data.toList) ∧ Below w.heap.size w w' :=
  two_cap 123 c (bitF g) a b w (enters_of Tryd.func123 (by kernel_rfl) rfl) (fun W hW => doesAt_bit K g hK hg c W _ _ (hc.below hW)) (tameAt_bit g hg _ _) ha hb
theorem And_any (a b : ByteArray) (w : World) (ha : a.size ≤ 1000) (hb : b.size ≤ 1000) :
    Calls Tryd.prog 50 #[.string a, .string b] w fun e w' => e = retS (opS (bitF gA) a.data.toList b.data.toList) ∧ Below w.heap.size w w' := by
  have HT := Lib.hid (fun c W hc => two_bit 101 gA doesW_and (fun x y hx hy => (gA_hi x y hx hy).1) c a b W hc ha hb)
  have HBw := Lib.hid (fun W => bitwise_any 101 W)
  revert HT
  generalize opS (bitF gA) a.data.toList b.data.toList = p
  obtain ⟨l, c⟩ := p
  unfold retS
  intro HT
  go_enter Tryd.func50, Tryd.ntmps50
  go_wp2_with fail
  refine (HBw.out _).mono ?_
  rintro e w1 ⟨rfl, hc1, hb1⟩
  have HB1 := Lib.hid hb1
  have HC1 := Lib.hid hc1
  clear hb1 hc1
  go_wp2_with fail
  refine (HT.out _ _ HC1.out).mono ?_
  rintro e w2 ⟨rfl, hb2⟩
  have HB2 := Lib.hid (Below.behind HB1.out hb2)
  clear hb2
  go_wp2
  go_ret2
  exact ⟨rfl, HB2.out⟩
theorem Or_any (a b : ByteArray) (w : World) (ha : a.size ≤ 1000) (hb : b.size ≤ 1000) :
    Calls Tryd.prog 51 #[.string a, .string b] w fun e w' => e = retS (opS (bitF gO) a.data.toList b.data.toList) ∧ Below w.heap.size w w' := by
  have HT := Lib.hid (fun c W hc => two_bit 102 gO doesW_or (fun x y hx hy => (gO_hi x y hx hy).1) c a b W hc ha hb)
  have HBw := Lib.hid (fun W => bitwise_any 102 W)
  revert HT
  generalize opS (bitF gO) a.data.toList b.data.toList = p
  obtain ⟨l, c⟩ := p
  unfold retS
  intro HT
  go_enter Tryd.func51, Tryd.ntmps51
  go_wp2_with fail
  refine (HBw.out _).mono ?_
  rintro e w1 ⟨rfl, hc1, hb1⟩
  have HB1 := Lib.hid hb1
  have HC1 := Lib.hid hc1
  clear hb1 hc1
  go_wp2_with fail
  refine (HT.out _ _ HC1.out).mono ?_
  rintro e w2 ⟨rfl, hb2⟩
  have HB2 := Lib.hid (Below.behind HB1.out hb2)
  clear hb2
  go_wp2
  go_ret2
  exact ⟨rfl, HB2.out⟩
theorem Xor_any (a b : ByteArray) (w : World) (ha : a.size ≤ 1000) (hb : b.size ≤ 1000) :
    Calls Tryd.prog 52 #[.string a, .string b] w fun e w' => e = retS (opS (bitF gX) a.data.toList b.data.toList) ∧ Below w.heap.size w w' := by
  have HT := Lib.hid (fun c W hc => two_bit 103 gX doesW_xor (fun x y hx hy => (gX_hi x y hx hy).1) c a b W hc ha hb)
  have HBw := Lib.hid (fun W => bitwise_any 103 W)
  revert HT
  generalize opS (bitF gX) a.data.toList b.data.toList = p
  obtain ⟨l, c⟩ := p
  unfold retS
  intro HT
  go_enter Tryd.func52, Tryd.ntmps52
  go_wp2_with fail
  refine (HBw.out _).mono ?_
  rintro e w1 ⟨rfl, hc1, hb1⟩
  have HB1 := Lib.hid hb1
  have HC1 := Lib.hid hc1
  clear hb1 hc1
  go_wp2_with fail
  refine (HT.out _ _ HC1.out).mono ?_
  rintro e w2 ⟨rfl, hb2⟩
  have HB2 := Lib.hid (Below.behind HB1.out hb2)
  clear hb2
  go_wp2
  go_ret2
  exact ⟨rfl, HB2.out⟩
end Go.Proofs.YtmnibfdenmeepaaDoor
/- BigFits answers true. -/
namespace Go.Proofs.YtmnibfdenmeepaaDoor
open Go.RowKit Go.Shelf Big

theorem num_oneT : numOf (⟨#[49]⟩ : ByteArray).data.toList = some 1 := by decide
theorem lims_k60 {n : Nat} (h : n < k60) : (lims 4294967296 n).length ≤ 8 := by
  have h2 : k60 ≤ 4294967296 ^ 8 := by decide +kernel
  exact (lims_len_le w32_ge n 8).2 (Nat.lt_of_lt_of_le h h2)
def k9 : Nat := 4294967296 ^ 9
theorem k9_le : k9 * 8 ≤ k60 * k60 * 4 := by decide +kernel
theorem k60_9 : k60 ≤ k9 := by decide +kernel
theorem op_bit (g : Nat → Nat → Nat) {a b : List UInt8} {x y : Int} (hx : numOf a = some x) (hy : numOf b = some y) (h1 : tooL x.natAbs = false) (h2 : tooL y.natAbs = false) (h3 : tooL (bitF g x y).natAbs = false) :
    retS (opS (bitF g) a b) = .returned (.tuple #[.string (txb (bitF g x y)), .int .i64 0]) := ret_op hx hy h1 h2 h3

set_option maxRecDepth 100000 in
set_option maxHeartbeats 4000000 in
theorem fitsLaw_any (a b : ByteArray) (w : World) (ha : a.size ≤ 1000000000000) (hb : b.size ≤ 1000000000000) :
    Calls Tryd.prog 9 #[.string a, .string b] w fun e w' => e = .returned (.bool true) ∧ Below w.heap.size w w' := by
  have HAW := Lib.hid awake_any
  have hcell : ∀ i s, [a, b][i]? = some s → (w.alloc (.cells #[.string a, .string b] 9)).cell? ⟨w.heap.size, i, none⟩ = some (.string s) := by
    intro i s h
    rw [Has.cell (Has.new w _ _)]
    match i, h with
    | 0, h => cases h; rfl
    | 1, h => cases h; rfl
  have HR := Lib.hid (right_any w.heap.size 2 [a, b] _ (by simp) (by intro s hs; simp at hs; rcases hs with rfl | rfl <;> assumption) (by simp) hcell)
  have HB0 := Lib.hid ((Below.refl _ w).alloc (Nat.le_refl _) (.cells #[.string a, .string b] 9))
  clear hcell
  cases hall : [a, b].all rightB with
  | false =>
    rw [hall] at HR
    clear hall
    go_enter Tryd.func9, Tryd.ntmps9
    go_wp2_with fail
    refine HR.out.mono ?_
    rintro e w1 ⟨rfl, hb1⟩
    have HB1 := Lib.hid (Below.behind HB0.out hb1)
    clear hb1
    go_wp2_with fail
    refine (HAW.out _).mono ?_
    rintro e w2 ⟨rfl, hb2⟩
    have HB2 := Lib.hid (Below.behind HB1.out hb2)
    clear hb2
    go_wp2
    go_ret
    exact ⟨rfl, HB2.out⟩
  | true =>
    rw [hall] at HR
    simp only [List.all_cons, List.all_nil, Bool.and_true, Bool.and_eq_true] at hall
    obtain ⟨x, hx, hx60, ha60⟩ := right_num hall.1
    obtain ⟨y, hy, hy60, hb60⟩ := right_num hall.2
    have e60 : (16 : Nat) ^ 60 = k60 := rfl
    rw [e60] at hx60 hy60
    have hk := k9_le
    have hk2 := k60_9
    have lx := lims_k60 hx60
    have ly := lims_k60 hy60
    have e9 : 4294967296 ^ (8 + 1) = k9 := rfl
    have bA := bitF_abs (g := gA) (fun u v hu hv => (gA_hi u v hu hv).1) lx ly
    have bO := bitF_abs (g := gO) (fun u v hu hv => (gO_hi u v hu hv).1) lx ly
    have bX := bitF_abs (g := gX) (fun u v hu hv => (gX_hi u v hu hv).1) lx ly
    rw [e9] at bA bO bX
    obtain ⟨hOA, hXA⟩ := bit_laws (n := max (lims 4294967296 x.natAbs).length (lims 4294967296 y.natAbs).length + 1) (x := x) (y := y) (by omega) (by omega)
    have hOA' : bitF gO x y + bitF gA x y = x + y := hOA
    have hXA' : bitF gX x y + 2 * bitF gA x y = x + y := hXA
    have t1 : tooL x.natAbs = false := tool_60 (by omega)
    have t2 : tooL y.natAbs = false := tool_60 (by omega)
    have t3 : tooL (x + y).natAbs = false := tool_60 (by omega)
    have tA : tooL (bitF gA x y).natAbs = false := tool_60 (by omega)
    have tO : tooL (bitF gO x y).natAbs = false := tool_60 (by omega)
    have tX : tooL (bitF gX x y).natAbs = false := tool_60 (by omega)
    have tAA : tooL (bitF gA x y + bitF gA x y).natAbs = false := tool_60 (by omega)
    have tN : tooL (-x - 1).natAbs = false := tool_60 (by omega)
    have tM : tooL (-x).natAbs = false := tool_60 (by omega)
    have t11 : tooL (1 : Int).natAbs = false := tool_small (by decide)
    have ha' : a.size ≤ 1000 := by omega
    have hb' : b.size ≤ 1000 := by omega
    have C1 := Lib.hid (fun W => (And_any a b W ha' hb').mono fun e w' h => And.intro (h.1.trans (op_bit gA hx hy t1 t2 tA)) h.2)
    have C2 := Lib.hid (fun W => (Or_any a b W ha' hb').mono fun e w' h => And.intro (h.1.trans (op_bit gO hx hy t1 t2 tO)) h.2)
    have C3 := Lib.hid (fun W => (Xor_any a b W ha' hb').mono fun e w' h => And.intro (h.1.trans (op_bit gX hx hy t1 t2 tX)) h.2)
    have C4 := Lib.hid (fun W => add_is a b x y W ha' hb' hx hy t1 t2 t3)
    have C5 := Lib.hid (fun W => add_is (txb (bitF gO x y)) (txb (bitF gA x y)) _ _ W (txb_len tO) (txb_len tA) (num_txb _) (num_txb _) tO tA (by rw [hOA']; exact t3))
    rw [hOA'] at C5
    have C6 := Lib.hid (fun W => add_is (txb (bitF gA x y)) (txb (bitF gA x y)) _ _ W (txb_len tA) (txb_len tA) (num_txb _) (num_txb _) tA tA tAA)
    have e7 : bitF gX x y + (bitF gA x y + bitF gA x y) = x + y := by omega
    have C7 := Lib.hid (fun W => add_is (txb (bitF gX x y)) (txb (bitF gA x y + bitF gA x y)) _ _ W (txb_len tX) (txb_len tAA) (num_txb _) (num_txb _) tX tAA (by rw [e7]; exact t3))
    rw [e7] at C7
    have C8 := Lib.hid (fun W => (Not_any a W ha').mono fun e w' h => And.intro (h.1.trans (ret_one (f := fun x => -x - 1) hx t1 tN)) h.2)
    have C9 := Lib.hid (fun W => (Neg_any a W ha').mono fun e w' h => And.intro (h.1.trans (ret_one (f := fun x => -x) hx t1 tM)) h.2)
    have C10 := Lib.hid (fun W => sub_is (txb (-x)) ⟨#[49]⟩ _ 1 W (txb_len tM) (by decide) (num_txb _) num_oneT tM t11 tN)
    clear e7 hx hy hx60 hy60 hk hk2 lx ly e9 bA bO bX hOA hXA hOA' hXA' t1 t2 t3 tA tO tX tAA tN tM t11 ha' hb' hall ha hb ha60 hb60 e60
    revert C1 C2 C3 C4 C5 C6 C7 C8 C9 C10
    generalize txb (x + y) = SUM
    generalize txb (bitF gA x y + bitF gA x y) = TWICE
    generalize txb (bitF gA x y) = AND
    generalize txb (bitF gO x y) = OR
    generalize txb (bitF gX x y) = XOR
    generalize txb (-x - 1) = NOT
    generalize txb (-x) = NEG
    intro C1 C2 C3 C4 C5 C6 C7 C8 C9 C10
    go_enter Tryd.func9, Tryd.ntmps9
    go_wp2_with fail
    refine HR.out.mono ?_
    rintro e w1 ⟨rfl, hb1⟩
    have HB1 := Lib.hid (Below.behind HB0.out hb1)
    clear hb1
    go_wp2_with fail
    refine (C1.out _).mono ?_
    rintro e w2 ⟨rfl, hb2⟩
    have HB2 := Lib.hid (Below.behind HB1.out hb2)
    clear hb2
    go_wp2_with fail
    refine (C2.out _).mono ?_
    rintro e w3 ⟨rfl, hb3⟩
    have HB3 := Lib.hid (Below.behind HB2.out hb3)
    clear hb3
    go_wp2_with fail
    refine (C3.out _).mono ?_
    rintro e w4 ⟨rfl, hb4⟩
    have HB4 := Lib.hid (Below.behind HB3.out hb4)
    clear hb4
    go_wp2_with fail
    refine (C4.out _).mono ?_
    rintro e w5 ⟨rfl, hb5⟩
    have HB5 := Lib.hid (Below.behind HB4.out hb5)
    clear hb5
    go_wp2_with fail
    refine (C5.out _).mono ?_
    rintro e w6 ⟨rfl, hb6⟩
    have HB6 := Lib.hid (Below.behind HB5.out hb6)
    clear hb6
    go_wp2_with fail
    refine (C6.out _).mono ?_
    rintro e w7 ⟨rfl, hb7⟩
    have HB7 := Lib.hid (Below.behind HB6.out hb7)
    clear hb7
    go_wp2_with fail
    refine (C7.out _).mono ?_
    rintro e w8 ⟨rfl, hb8⟩
    have HB8 := Lib.hid (Below.behind HB7.out hb8)
    clear hb8
    go_wp2_with fail
    refine (C8.out _).mono ?_
    rintro e w9 ⟨rfl, hb9⟩
    have HB9 := Lib.hid (Below.behind HB8.out hb9)
    clear hb9
    go_wp2_with fail
    refine (C9.out _).mono ?_
    rintro e w10 ⟨rfl, hb10⟩
    have HB10 := Lib.hid (Below.behind HB9.out hb10)
    clear hb10
    go_wp2_with fail
    refine (C10.out _).mono ?_
    rintro e w11 ⟨rfl, hb11⟩
    have HB11 := Lib.hid (Below.behind HB10.out hb11)
    clear hb11
    go_wp2_with fail
    refine (HAW.out _).mono ?_
    rintro e w12 ⟨rfl, hb12⟩
    have HB12 := Lib.hid (Below.behind HB11.out hb12)
    clear hb12
    go_wp2
    go_ret
    exact ⟨rfl, HB12.out⟩
end Go.Proofs.YtmnibfdenmeepaaDoor
