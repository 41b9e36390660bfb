/- The texts Comb RegInv Bitw TwoCap BitOps Shr Shl RWhole RTim, one behind the other. -/
import Derived.Test.YtmnibfdenmeepaaGreatDoorMgBigBits12
import Derived.StillTailTactics
/- combined of the program. -/
namespace Go.Proofs.YtmnibfdenmeepaaGreatDoor
open Go.RowKit Go.Shelf Big

/-- A function value that puts two words together. -/
def DoesW (K : FuncId) (g : Nat → Nat → Nat) : Prop :=
  (∀ args w, (callFunc K args).run Tryz.prog w = .ok (.enter K args) w) ∧
  ∀ (x y : Nat) (w : World), x < 4294967296 → y < 4294967296 → Calls Tryz.prog K #[.int .u32 (x : Int), .int .u32 (y : Int)] w fun e w' => e = .returned (.int .u32 (g x y : Int)) ∧ w = w'
theorem doesW_and : DoesW 29 gA := ⟨enters_of Tryz.func29 (by kernel_rfl) rfl, fun x y w hx hy => by
  have h := bits_and x y hx hy
  have H := Lib.hid h
  go_enter Tryz.func29, Tryz.ntmps29
  go_wp2
  go_ret
  exact ⟨rfl, rfl⟩⟩
theorem doesW_or : DoesW 31 gO := ⟨enters_of Tryz.func31 (by kernel_rfl) rfl, fun x y w hx hy => by
  have h := bits_or x y hx hy
  go_enter Tryz.func31, Tryz.ntmps31
  go_wp2
  go_ret
  exact ⟨rfl, rfl⟩⟩
theorem doesW_xor : DoesW 32 gX := ⟨enters_of Tryz.func32 (by kernel_rfl) rfl, fun x y w hx hy => by
  have h := bits_xor x y hx hy
  go_enter Tryz.func32, Tryz.ntmps32
  go_wp2
  go_ret
  exact ⟨rfl, rfl⟩⟩

set_option maxRecDepth 100000 in
set_option maxHeartbeats 4000000 in
theorem comb_any (K : FuncId) (f : Nat → Nat → Nat) (hK : DoesW K f) (B1 B2 g1 g2 n : Nat) (a b : List Nat) (w : World) (ha : RowIs w B1 g1 n a) (hb : RowIs w B2 g2 n b) (hla : a.length = n) (hlb : b.length = n) (hsa : Small a) (hsb : Small b) (hn : n ≤ 1000) :
    Calls Tryz.prog 52 #[.slice (some ⟨g1, 0, none⟩) n n, .slice (some ⟨g2, 0, none⟩) n n, .func (.func K) #[] #[]] w fun e w' => e = .returned (.slice (some ⟨w.heap.size, 0, none⟩) n n) ∧ RowIs w' w.heap.size w.heap.size n (zw f a b) ∧ Below w.heap.size w w' := by
  obtain ⟨hE, hC⟩ := hK
  have HC := Lib.hid hC
  have hmk := umake_any n (by omega)
  have hrow := RowIs.made w w.heap.size n (Nat.le_refl _) (by omega)
  have hb0 : Below w.heap.size w (w.alloc (.cells (noughts n) 57)) := (Below.refl _ w).alloc (Nat.le_refl _) _
  have HA := Lib.hid ha
  have HB := Lib.hid hb
  clear hC ha hb
  go_enter Tryz.func52, Tryz.ntmps52
  go_wp2_with fail
  clear hmk
  go_loopg [14] n (fun gh v wx => ∃ (i : Nat) (od : List Nat), v = .int .i64 (i : Int) ∧ i + gh = n ∧ od.length = n ∧ od.take i = (zw f a b).take i ∧ RowIs wx w.heap.size w.heap.size n od ∧ Below w.heap.size w wx)
  case atStart => exact ⟨0, List.replicate n 0, rfl, by omega, by simp, by rw [List.take_zero, List.take_zero], hrow, hb0⟩
  case round =>
    obtain ⟨i, od, rfl, hik, hol, hot, hR, hBx⟩ := hrel
    by_cases hi : i < n
    · have hia : i < a.length := by omega
      have hib : i < b.length := by omega
      have c1 := (RowIs.cell (own_below HA.out hBx : RowIs _ _ _ _ _) i hia)
      have c2 := (RowIs.cell (own_below HB.out hBx : RowIs _ _ _ _ _) i hib)
      have hfo := hR.free i
      have hco := hR.cell i (by omega)
      generalize od[i] = o9 at hco
      have hx2 : a[i] < 4294967296 := hsa _ (List.getElem_mem hia)
      have hy2 : b[i] < 4294967296 := hsb _ (List.getElem_mem hib)
      have hnx := (RowIs.drew hR).put i (f a[i] b[i])
      have hzl := zw_len f (a := a) (b := b) (by omega)
      have hz : (zw f a b)[i]'(by omega) = f a[i] b[i] := by unfold zw; rw [List.getElem_zipWith]
      have HTk := Lib.hid (show (od.set i (f a[i] b[i])).take (i + 1) = (zw f a b).take (i + 1) by
        rw [List.take_succ_eq_append_getElem (by rw [List.length_set]; omega), List.take_succ_eq_append_getElem (by omega), List.getElem_set_self, hz, List.take_set_of_le (Nat.le_refl _), hot])
      obtain ⟨x, hxe⟩ : ∃ x, a[i] = x := ⟨_, rfl⟩
      obtain ⟨y, hye⟩ : ∃ y, b[i] = y := ⟨_, rfl⟩
      rw [hxe] at c1 hx2 hnx HTk
      rw [hye] at c2 hy2 hnx HTk
      have hiI : (i : Int) < (n : Int) := by omega
      have hi0 : (0 : Int) ≤ (i : Int) := by omega
      have HNX := Lib.hid hnx
      have HBX := Lib.hid (hBx.drew.setCell (p := ⟨w.heap.size, i, none⟩) (Nat.le_refl _) (.int .u32 (f x y : Int)))
      have HCW := Lib.hid (fun W => (HC.out x y W hx2 hy2).mono fun e w'' h => And.intro h.1 h.2.symm)
      have HLS := Lib.hid (show (od.set i (f x y)).length = n by rw [List.length_set]; exact hol)
      obtain ⟨G, rfl⟩ : ∃ G, gk = G + 1 := ⟨gk - 1, by omega⟩
      clear hrow hb0 hnx hBx hR hxe hye hz hot hzl hsa hsb hol
      go_wp2_with fail
      go_still_tail 13, (by kernel_rfl)
      still_call (HCW.out _)
      repeat still_step
      refine wpStill_nil ?_
      change wpList _ _ _ _ _ wr.drew
      have hco' : wr.drew.cell? ⟨w.heap.size, i, none⟩ = some (.int .u32 (o9 : Int)) := hco
      have hfo' : wr.drew.frozen? ⟨w.heap.size, i, none⟩ = false := hfo
      go_wp2
      go_roundg G
      case measure => omega
      case rel => exact ⟨i + 1, _, by go_num, by omega, HLS.out, HTk.out, HNX.out, HBX.out⟩
    · obtain rfl : i = n := by omega
      have hi1 : ¬ (i : Int) < (i : Int) := by omega
      have hzl := zw_len f (a := a) (b := b) (by omega)
      have he : od = zw f a b := by
        rw [List.take_of_length_le (by omega), List.take_of_length_le (by omega)] at hot
        exact hot
      subst he
      have HR := Lib.hid hR
      have HBX := Lib.hid hBx
      clear hR hBx hot hrow hb0
      go_wp2
      go_ret
      exact ⟨rfl, HR.out, HBX.out⟩
end Go.Proofs.YtmnibfdenmeepaaGreatDoor
/- A region that draws its order, whose last operations write what others have given. -/
namespace Go.Proofs.YtmnibfdenmeepaaGreatDoor
open Go.RowKit Go.Shelf Big

/-- Up to operation n: Pr i of the slot s i, once i has come; from n on: Fin, by what has come. -/
structure RegInv (I : World → Prop) (n : Nat) (s : Nat → Nat) (Pr : Nat → Value → World → Prop) (Fin : (Nat → Bool) → (Nat → Value) → World → Prop) (L : Nat → Bool) (u : Nat → Value) (w' : World) : Prop where
  inv : L n = false → I w'
  each : ∀ i, i < n → L n = false → L i = true → Pr i (u (s i)) w'
  fin : L n = true → Fin L u w'
  all : L n = true → ∀ i, i < n → L i = true
  aft : ∀ j, n < j → L j = true → L n = true
theorem RegInv.start {I : World → Prop} {n : Nat} {s : Nat → Nat} {Pr : Nat → Value → World → Prop} {Fin : (Nat → Bool) → (Nat → Value) → World → Prop} {L : Nat → Bool} {u : Nat → Value} {w : World} (h : ∀ i, L i = false) (hI : I w) : RegInv I n s Pr Fin L u w :=
  ⟨fun _ => hI, fun i _ _ h1 => (by rw [h i] at h1; cases h1), fun h1 => (by rw [h n] at h1; cases h1), fun h1 => (by rw [h n] at h1; cases h1), fun j _ h1 => (by rw [h j] at h1; cases h1)⟩
theorem RegInv.not {I : World → Prop} {w1 : World} {n : Nat} {s : Nat → Nat} {Pr : Nat → Value → World → Prop} {Fin : (Nat → Bool) → (Nat → Value) → World → Prop} {L : Array Bool} {u : Nat → Value} (F : RegInv I n s Pr Fin (fun j => L.getD j false) u w1) (k : Nat) (hkn : k ≤ n) (hk : L.getD k true = false) : L.getD n false = false := by
  cases h1 : L.getD n false with
  | false => rfl
  | true =>
    rcases Nat.lt_or_ge k n with h2 | h2
    · have h3 := F.all h1 k h2
      have h4 := false_of hk
      rw [h4] at h3
      cases h3
    · obtain rfl : k = n := by omega
      have h4 := false_of hk
      rw [h4] at h1
      cases h1
theorem RegInv.got {I : World → Prop} {w1 : World} {n : Nat} {s : Nat → Nat} {Pr : Nat → Value → World → Prop} {Fin : (Nat → Bool) → (Nat → Value) → World → Prop} {L : Array Bool} {u : Nat → Value} (F : RegInv I n s Pr Fin (fun j => L.getD j false) u w1) (i : Nat) (hi : i < n) (k : Nat) (hk : L.getD k true = false) (hkn : k ≤ n) (h : L.getD i false = true) : Pr i (u (s i)) w1 :=
  F.each i hi (F.not k hkn hk) h
theorem RegInv.put {I : World → Prop} {w1 w2 : World} {n : Nat} {s : Nat → Nat} {Pr : Nat → Value → World → Prop} {Fin : (Nat → Bool) → (Nat → Value) → World → Prop} {L : Array Bool} {u : Nat → Value} {x : Value} (i : Nat) (F : RegInv I n s Pr Fin (fun j => L.getD j false) u w1)
    (hst : Stays n Pr) (hi : i < n) (hs : ∀ j, j < n → j ≠ i → s j ≠ s i) (hnl : L.getD i true = false) (hb : Below w1.heap.size w1 w2) (hI : I w2) (hx : Pr i x w2) :
    RegInv I n s Pr Fin (fun j => (L.setIfInBounds i true).getD j false) (upd u (s i) x) w2 := by
  have hln := F.not i (Nat.le_of_lt hi) hnl
  have hset : ∀ j, j ≠ i → (L.setIfInBounds i true).getD j false = L.getD j false := fun j hj => by
    simp only [Array.getD_eq_getD_getElem?]
    rw [Array.getElem?_setIfInBounds_ne (by omega)]
  have hn' := (hset n (by omega)).trans hln
  refine ⟨fun _ => hI, fun j hj _ h1 => ?_, fun h => ?_, fun h => ?_, fun j hj h => ?_⟩
  · by_cases e : j = i
    · subst e
      rw [upd_eq]
      exact hx
    · rw [upd_ne (hs j hj e)]
      rcases set_true h1 with h | h
      · exact absurd h e
      · exact hst j _ _ _ hj hb (F.each j hj hln h)
  · rw [hn'] at h; cases h
  · rw [hn'] at h; cases h
  · rw [hset j (by omega)] at h
    have := F.aft j hj h
    rw [hln] at this
    cases this
/-- Operation n comes. -/
theorem RegInv.last {I : World → Prop} {w1 w2 : World} {n : Nat} {s : Nat → Nat} {Pr : Nat → Value → World → Prop} {Fin : (Nat → Bool) → (Nat → Value) → World → Prop} {L : Array Bool} {u u' : Nat → Value} (F : RegInv I n s Pr Fin (fun j => L.getD j false) u w1) (hnl : L.getD n true = false)
    (hall : ∀ i, i < n → L.getD i false = true) (hx : (∀ j, n < j → (L.setIfInBounds n true).getD j false = false) → Fin (fun j => (L.setIfInBounds n true).getD j false) u' w2) : RegInv I n s Pr Fin (fun j => (L.setIfInBounds n true).getD j false) u' w2 := by
  have hlt : n < L.size := by
    rcases Nat.lt_or_ge n L.size with h | h
    · exact h
    · simp [Array.getD, Nat.not_lt.2 h] at hnl
  have hln := F.not n (Nat.le_refl _) hnl
  have hset : ∀ j, j ≠ n → (L.setIfInBounds n true).getD j false = L.getD j false := fun j hj => by
    simp only [Array.getD_eq_getD_getElem?]
    rw [Array.getElem?_setIfInBounds_ne (by omega)]
  have hyes : (L.setIfInBounds n true).getD n false = true := by
    simp [Array.getD_eq_getD_getElem?, hlt]
  refine ⟨fun h => ?_, fun j _ h => ?_, fun _ => hx (fun j hj => ?_), fun _ i hi => ?_, fun j _ _ => hyes⟩
  · rw [hyes] at h; cases h
  · rw [hyes] at h; cases h
  · rw [hset j (by omega)]
    cases h : L.getD j false with
    | false => rfl
    | true => have := F.aft j hj h; rw [hln] at this; cases this
  · rw [hset i (by omega)]
    exact hall i hi
/-- An operation behind n comes. -/
theorem RegInv.post {I : World → Prop} {w1 w2 : World} {n : Nat} {s : Nat → Nat} {Pr : Nat → Value → World → Prop} {Fin : (Nat → Bool) → (Nat → Value) → World → Prop} {L : Array Bool} {u u' : Nat → Value} (m : Nat) (F : RegInv I n s Pr Fin (fun j => L.getD j false) u w1) (hm : n < m)
    (hn : L.getD n false = true) (hx : Fin (fun j => (L.setIfInBounds m true).getD j false) u' w2) : RegInv I n s Pr Fin (fun j => (L.setIfInBounds m true).getD j false) u' w2 := by
  have hset : ∀ j, j ≠ m → (L.setIfInBounds m true).getD j false = L.getD j false := fun j hj => by
    simp only [Array.getD_eq_getD_getElem?]
    rw [Array.getElem?_setIfInBounds_ne (by omega)]
  have hn' := (hset n (by omega)).trans hn
  refine ⟨fun h => ?_, fun j _ h => ?_, fun _ => hx, fun _ i hi => ?_, fun j _ _ => hn'⟩
  · rw [hn'] at h; cases h
  · rw [hn'] at h; cases h
  · rw [hset i (by omega)]
    exact F.all hn i hi
theorem RowIs.mono {w : World} {B B' g cap : Nat} {ds : List Nat} (h : RowIs w B g cap ds) (hb : B' ≤ B) : RowIs w B' g cap ds := by
  refine ⟨h.1, ?_⟩
  rcases h.2 with hn | ⟨g', cap', cur, e, h1, hg, h3⟩
  · exact .inl hn
  · exact .inr ⟨g', cap', cur, e, Nat.le_trans hb h1, hg, h3⟩
end Go.Proofs.YtmnibfdenmeepaaGreatDoor
/- The word operations on numbers. -/
namespace Go.Proofs.YtmnibfdenmeepaaGreatDoor
open Go.RowKit Go.Shelf Big

def bwS : Nat → Nat
  | 0 => 15 | 1 => 16 | 2 => 17 | 3 => 18 | 4 => 19 | 5 => 20 | 6 => 21 | _ => 22
def bwPr (b0 n : Nat) (X Y F : Value) (dx dy dz : List Nat) : Nat → Value → World → Prop
  | 0, v, _ => v = X
  | 1, v, _ => v = .int .i64 (n : Int)
  | 2, v, w => ∃ g, v = .slice (some ⟨g, 0, none⟩) n n ∧ RowIs w b0 g n dx
  | 3, v, _ => v = Y
  | 4, v, _ => v = .int .i64 (n : Int)
  | 5, v, w => ∃ g, v = .slice (some ⟨g, 0, none⟩) n n ∧ RowIs w b0 g n dy
  | 6, v, _ => v = F
  | _, v, w => ∃ g, v = .slice (some ⟨g, 0, none⟩) n n ∧ RowIs w b0 g n dz
theorem bwPr_stays (b0 n : Nat) (X Y F : Value) (dx dy dz : List Nat) : Stays 8 (bwPr b0 n X Y F dx dy dz) := by
  intro i v w w' hi hb h
  match i, h with
  | 0, h => exact h
  | 1, h => exact h
  | 2, h => obtain ⟨g, e, hr⟩ := h; exact ⟨g, e, own_below hr hb⟩
  | 3, h => exact h
  | 4, h => exact h
  | 5, h => obtain ⟨g, e, hr⟩ := h; exact ⟨g, e, own_below hr hb⟩
  | 6, h => exact h
  | k + 7, h => obtain ⟨g, e, hr⟩ := h; exact ⟨g, e, own_below hr hb⟩
def bwFin (W0 : World) (b r5 : Nat) (Z : Int) (L : Nat → Bool) (u : Nat → Value) (w : World) : Prop :=
  (L 9 = false → ∃ r k a l c, u 23 = .agg #[.bool r, .slice a l c, .bool false, .bool false] ∧ NatIs w W0.heap.size (.slice a l c) k ∧ sgI r k = Z ∧ Below W0.heap.size W0 w) ∧
  (L 9 = true → ∃ r k v, Has w r5 35 #[.bool r, v, .bool false, .bool false] ∧ NatIs w b v k ∧ sgI r k = Z ∧ Below b W0 w)

/-- What has come came behind what it needs. -/
def Cl (L : Nat → Bool) : Prop := (L 2 = true → L 0 = true ∧ L 1 = true) ∧ (L 5 = true → L 3 = true ∧ L 4 = true) ∧ (L 7 = true → L 2 = true ∧ L 5 = true ∧ L 6 = true)
theorem set_mono {L : Array Bool} {i j : Nat} (h : L.getD j false = true) : (L.setIfInBounds i true).getD j false = true := by
  by_cases e : i = j
  · subst e
    have hlt : i < L.size := by
      rcases Nat.lt_or_ge i L.size with h1 | h1
      · exact h1
      · simp [Array.getD_eq_getD_getElem?, Array.getElem?_eq_none h1] at h
    simp [Array.getD_eq_getD_getElem?, hlt]
  · simp only [Array.getD_eq_getD_getElem?] at h ⊢
    rwa [Array.getElem?_setIfInBounds_ne e]
theorem set_self9 {L : Array Bool} {i : Nat} (h : L.getD i true = false) : (L.setIfInBounds i true).getD i false = true := by
  have hlt : i < L.size := by
    rcases Nat.lt_or_ge i L.size with h1 | h1
    · exact h1
    · simp [Array.getD, Nat.not_lt.2 h1] at h
  simp [Array.getD_eq_getD_getElem?, hlt]
theorem Cl.start {n : Nat} : Cl (fun i => (Array.replicate n false).getD i false) := by
  have h := none_listed n
  refine ⟨fun h1 => ?_, fun h1 => ?_, fun h1 => ?_⟩ <;> (simp only [h] at h1; cases h1)
theorem Cl.set {L : Array Bool} (h : Cl (fun i => L.getD i false)) (i : Nat) (h2 : i = 2 → L.getD 0 false = true ∧ L.getD 1 false = true) (h5 : i = 5 → L.getD 3 false = true ∧ L.getD 4 false = true) (h7 : i = 7 → L.getD 2 false = true ∧ L.getD 5 false = true ∧ L.getD 6 false = true) :
    Cl (fun j => (L.setIfInBounds i true).getD j false) := by
  refine ⟨fun hj => ?_, fun hj => ?_, fun hj => ?_⟩
  · have e : L.getD 0 false = true ∧ L.getD 1 false = true := by
      rcases set_true hj with e | e
      · exact h2 e.symm
      · exact h.1 e
    exact ⟨set_mono e.1, set_mono e.2⟩
  · have e : L.getD 3 false = true ∧ L.getD 4 false = true := by
      rcases set_true hj with e | e
      · exact h5 e.symm
      · exact h.2.1 e
    exact ⟨set_mono e.1, set_mono e.2⟩
  · have e : L.getD 2 false = true ∧ L.getD 5 false = true ∧ L.getD 6 false = true := by
      rcases set_true hj with e | e
      · exact h7 e.symm
      · exact h.2.2 e
    exact ⟨set_mono e.1, set_mono e.2.1, set_mono e.2.2⟩
theorem Cl.all {L : Nat → Bool} (h : Cl L) (h7 : L 7 = true) : ∀ i, i < 8 → L i = true := by
  obtain ⟨a, b, c⟩ := h.2.2 h7
  obtain ⟨d, e⟩ := h.1 a
  obtain ⟨f, g⟩ := h.2.1 b
  intro i hi
  have : i = 0 ∨ i = 1 ∨ i = 2 ∨ i = 3 ∨ i = 4 ∨ i = 5 ∨ i = 6 ∨ i = 7 := by omega
  rcases this with rfl | rfl | rfl | rfl | rfl | rfl | rfl | rfl <;> assumption

set_option maxRecDepth 100000 in
set_option maxHeartbeats 8000000 in
theorem bitw_any (K : FuncId) (f : Nat → Nat → Nat) (hK : DoesW K f) (hf : ∀ x y, x < 4294967296 → y < 4294967296 → f x y < 4294967296) (x y : Int) (B1 B2 : Nat) (va vb : Value) (l1 o1 l2 o2 : Bool) (c M : Nat) (w : World) (ha : NatIs w B1 va x.natAbs) (hb : NatIs w B2 vb y.natAbs)
    (hc : Has w c 58 #[.func (.func K) #[] #[]]) (hM1 : (lims 4294967296 x.natAbs).length ≤ M) (hM2 : (lims 4294967296 y.natAbs).length ≤ M) (hM : M = (lims 4294967296 x.natAbs).length ∨ M = (lims 4294967296 y.natAbs).length) (hMl : M ≤ 900) :
    Calls Tryz.prog 50 #[.agg #[.bool (decide (x < 0)), va, .bool l1, .bool o1], .agg #[.bool (decide (y < 0)), vb, .bool l2, .bool o2], .pointer (some ⟨c, 0, none⟩)] w fun e w' => (∃ r k, NumIs w.heap.size r k w' e ∧ sgI r k = bitZ f (M + 1) x y) ∧ Below w.heap.size w w' := by
  obtain ⟨W0, hW0⟩ : ∃ W0, ((w.alloc (.cells #[.bool (decide (x < 0)), va, .bool l1, .bool o1] 35)).alloc (.cells #[.bool (decide (y < 0)), vb, .bool l2, .bool o2] 35)).alloc (.cells #[.bool false, .slice none 0 0, .bool false, .bool false] 35) = W0 := ⟨_, rfl⟩
  have hz0 : W0.heap.size = w.heap.size + 3 := by rw [← hW0]; simp
  have hA0 : NatIs W0 B1 va x.natAbs := by rw [← hW0]; exact ((ha.alloc _).alloc _).alloc _
  have hB0 : NatIs W0 B2 vb y.natAbs := by rw [← hW0]; exact ((hb.alloc _).alloc _).alloc _
  have hX : Has W0 w.heap.size 35 #[.bool (decide (x < 0)), va, .bool l1, .bool o1] := by rw [← hW0]; exact ((Has.new w _ _).alloc _).alloc _
  have hY : Has W0 (w.heap.size + 1) 35 #[.bool (decide (y < 0)), vb, .bool l2, .bool o2] := by rw [← hW0]; exact (Has.new' (n := w.heap.size + 1) (by simp) _ _).alloc _
  have hZ : Has W0 (w.heap.size + 2) 35 #[.bool false, .slice none 0 0, .bool false, .bool false] := by rw [← hW0]; exact Has.new' (by simp) _ _
  have hC : Has W0 c 58 #[.func (.func K) #[] #[]] := by rw [← hW0]; exact ((hc.alloc _).alloc _).alloc _
  have hBB : Below w.heap.size w W0 := by rw [← hW0]; exact (((Below.refl _ w).alloc (Nat.le_refl _) _).alloc (by simp) _).alloc (by simp; omega) _
  have HWx := Lib.hid (fun W (hW : Below W0.heap.size W0 W) => words_any B1 (M + 1) x va l1 o1 W (hA0.kept hW) (by omega) (by omega))
  have HWy := Lib.hid (fun W (hW : Below W0.heap.size W0 W) => words_any B2 (M + 1) y vb l2 o2 W (hB0.kept hW) (by omega) (by omega))
  have hlx := tw_len (z := x) (n := M + 1) (by omega)
  have hly := tw_len (z := y) (n := M + 1) (by omega)
  have hsx := tw_small x (M + 1)
  have hsy := tw_small y (M + 1)
  have HCo := Lib.hid (fun W g1 g2 (h1 : RowIs W W0.heap.size g1 (M + 1) (tw x (M + 1))) (h2 : RowIs W W0.heap.size g2 (M + 1) (tw y (M + 1))) => comb_any K f hK W0.heap.size W0.heap.size g1 g2 (M + 1) (tw x (M + 1)) (tw y (M + 1)) W h1 h2 hlx hly hsx hsy (by omega))
  have HOf := Lib.hid (fun W g (h : RowIs W W0.heap.size g (M + 1) (zw f (tw x (M + 1)) (tw y (M + 1)))) (hB : W0.heap.size ≤ W.heap.size) => ofWords_any W0.heap.size g M (zw f (tw x (M + 1)) (tw y (M + 1))) W h (by rw [zw_len f (by omega)]; exact hlx) (zw_small hf hsx hsy) (by omega) hB)
  have HBZ := Lib.hid (show bitZ f (M + 1) x y = val (zw f (tw x (M + 1)) (tw y (M + 1))) from rfl)
  have HE := Lib.hid hK.1
  obtain ⟨av, ca, rfl⟩ := ha.slice
  obtain ⟨bv, cb, rfl⟩ := hb.slice
  generalize (lims 4294967296 x.natAbs).length = la at *
  generalize (lims 4294967296 y.natAbs).length = lb at *
  have hmax : max (la : Int) (lb : Int) = (M : Int) := by omega
  have hmx : max la lb = M := by omega
  obtain ⟨x0, x1, -⟩ := hX.four
  obtain ⟨y0, y1, -⟩ := hY.four
  clear ha hb hc hA0 hB0 hM1 hM2 hM hlx hly hsx hsy
  generalize tw x (M + 1) = dx at *
  generalize tw y (M + 1) = dy at *
  generalize zw f dx dy = dz at *
  generalize decide (x < 0) = sx at *
  generalize decide (y < 0) = sy at *
  obtain ⟨n, hn⟩ : ∃ n, M + 1 = n := ⟨_, rfl⟩
  have hnI : (M : Int) + 1 = (n : Int) := by omega
  rw [hn] at HWx HWy HCo HOf HBZ
  clear hK hf
  go_enter Tryz.func50, Tryz.ntmps50
  go_wp2_with fail
  clear hW0 x0 x1 y0 y1
  have hZ' : Has W0 (w.heap.size + 1 + 1) 35 #[.bool false, .slice none 0 0, .bool false, .bool false] := hZ
  clear hZ
  have hst := bwPr_stays W0.heap.size n (.agg #[.bool sx, .slice av la ca, .bool l1, .bool o1]) (.agg #[.bool sy, .slice bv lb cb, .bool l2, .bool o2]) (.func (.func K) #[] #[]) dx dy dz
  refine wp_region_inv (Inv := fun listed x' w' => ∃ u, x' = { tmps := #[.agg #[.bool sx, .slice av la ca, .bool l1, .bool o1], .agg #[.bool sy, .slice bv lb cb, .bool l2, .bool o2], .pointer (some ⟨c, 0, none⟩), .pointer (some ⟨w.heap.size, 0, none⟩), .pointer (some ⟨w.heap.size + 1, 0, none⟩), .pointer (some ⟨w.heap.size + 1 + 1, 0, none⟩), .int .i64 (n : Int), .pointer (some ⟨w.heap.size, 1, none⟩), .slice av la ca, .int .i64 (la : Int), .pointer (some ⟨w.heap.size + 1, 1, none⟩), .slice bv lb cb, .int .i64 (lb : Int), .int .i64 (M : Int), .int .i64 (n : Int), u 15, u 16, u 17, u 18, u 19, u 20, u 21, u 22, u 23], defers := [] } ∧ RegInv (fun w' => Below W0.heap.size W0 w') 8 bwS (bwPr W0.heap.size n (.agg #[.bool sx, .slice av la ca, .bool l1, .bool o1]) (.agg #[.bool sy, .slice bv lb cb, .bool l2, .bool o2]) (.func (.func K) #[] #[]) dx dy dz) (bwFin W0 w.heap.size (w.heap.size + 1 + 1) (val dz)) (fun i => listed.getD i false) u w' ∧ Cl (fun i => listed.getD i false)) (by kernel_rfl) (ord_of (by kernel_rfl)) ?h0 ?step ?fin
  case h0 => exact ⟨fun _ => undef, rfl, RegInv.start (none_listed _) (Below.refl _ _).drew, Cl.start⟩
  case fin =>
    rintro listed x' w' ⟨u, rfl, F, _⟩ hall
    obtain ⟨r, k, v, hR, hnat, hsg, hbF⟩ := (F.fin (hall 8 (by decide))).2 (hall 9 (by decide))
    obtain ⟨a9, c9, rfl⟩ := hnat.slice
    obtain ⟨q0, q1, q2, q3, -⟩ := hR.four
    have HBF := Lib.hid (hBB.trans hbF)
    have HN := Lib.hid hnat
    have HSG := Lib.hid hsg
    clear F hall hnat hsg hbF hR
    generalize (lims 4294967296 k).length = lk at *
    go_wp2
    exact bodyPost_ret (v := .agg #[.bool r, .slice a9 lk c9, .bool false, .bool false]) (by simp [results, Tryz.results50, go_sem, q0, q1, q2, q3]) rfl ⟨⟨r, k, ⟨_, rfl, HN.out⟩, by rw [HSG.out, hn, HBZ.out]⟩, HBF.out⟩
  case step =>
    rintro listed x' w' i ⟨u, rfl, F, hcl⟩ hi hn' hd
    have h10 : i = 0 ∨ i = 1 ∨ i = 2 ∨ i = 3 ∨ i = 4 ∨ i = 5 ∨ i = 6 ∨ i = 7 ∨ i = 8 ∨ i = 9 := by
      have : i < 10 := hi
      omega
    rcases h10 with rfl | rfl | rfl | rfl | rfl | rfl | rfl | rfl | rfl | rfl
    · have hI := F.inv (F.not 0 (by decide) hn')
      obtain ⟨x0, x1, x2, x3, -⟩ := (hX.below hI).four
      refine wpOp_by rfl rfl (fun K hK => ?_)
      go_simp
      exact hK _ _ ⟨_, rfl, F.put 0 hst (by decide) (by decide) hn' (Below.refl _ _) hI rfl, hcl.set 0 (fun h => absurd h (by decide)) (fun h => absurd h (by decide)) (fun h => absurd h (by decide))⟩
    · have hI := F.inv (F.not 1 (by decide) hn')
      refine wpOp_by rfl rfl (fun K hK => ?_)
      go_simp
      exact hK _ _ ⟨_, rfl, F.put 1 hst (by decide) (by decide) hn' (Below.refl _ _) hI rfl, hcl.set 1 (fun h => absurd h (by decide)) (fun h => absurd h (by decide)) (fun h => absurd h (by decide))⟩
    · have hI := F.inv (F.not 2 (by decide) hn')
      have e1 : u 15 = _ := F.got 0 (by decide) 2 hn' (by decide) (hd _ rfl ⟨0, .data⟩ (by simp) rfl)
      have e2 : u 16 = _ := F.got 1 (by decide) 2 hn' (by decide) (hd _ rfl ⟨1, .data⟩ (by simp) rfl)
      refine wpOp_by rfl rfl (fun K hK => ?_)
      go_simp
      refine (HWx.out _ hI).mono ?_
      rintro e w2 ⟨⟨g, rfl, _, hr⟩, hb2⟩
      exact hK _ _ ⟨_, by simp [upd, bwS, e1, e2], F.put 2 hst (by decide) (by decide) hn' hb2 (Below.behind hI hb2) ⟨g, rfl, RowIs.mono hr hI.size⟩, hcl.set 2 (fun _ => ⟨hd _ rfl ⟨0, .data⟩ (by simp) rfl, hd _ rfl ⟨1, .data⟩ (by simp) rfl⟩) (fun h => absurd h (by decide)) (fun h => absurd h (by decide))⟩
    · have hI := F.inv (F.not 3 (by decide) hn')
      obtain ⟨y0, y1, y2, y3, -⟩ := (hY.below hI).four
      refine wpOp_by rfl rfl (fun K hK => ?_)
      go_simp
      exact hK _ _ ⟨_, rfl, F.put 3 hst (by decide) (by decide) hn' (Below.refl _ _) hI rfl, hcl.set 3 (fun h => absurd h (by decide)) (fun h => absurd h (by decide)) (fun h => absurd h (by decide))⟩
    · have hI := F.inv (F.not 4 (by decide) hn')
      refine wpOp_by rfl rfl (fun K hK => ?_)
      go_simp
      exact hK _ _ ⟨_, rfl, F.put 4 hst (by decide) (by decide) hn' (Below.refl _ _) hI rfl, hcl.set 4 (fun h => absurd h (by decide)) (fun h => absurd h (by decide)) (fun h => absurd h (by decide))⟩
    · have hI := F.inv (F.not 5 (by decide) hn')
      have e1 : u 18 = _ := F.got 3 (by decide) 5 hn' (by decide) (hd _ rfl ⟨3, .data⟩ (by simp) rfl)
      have e2 : u 19 = _ := F.got 4 (by decide) 5 hn' (by decide) (hd _ rfl ⟨4, .data⟩ (by simp) rfl)
      refine wpOp_by rfl rfl (fun K hK => ?_)
      go_simp
      refine (HWy.out _ hI).mono ?_
      rintro e w2 ⟨⟨g, rfl, _, hr⟩, hb2⟩
      exact hK _ _ ⟨_, by simp [upd, bwS, e1, e2], F.put 5 hst (by decide) (by decide) hn' hb2 (Below.behind hI hb2) ⟨g, rfl, RowIs.mono hr hI.size⟩, hcl.set 5 (fun h => absurd h (by decide)) (fun _ => ⟨hd _ rfl ⟨3, .data⟩ (by simp) rfl, hd _ rfl ⟨4, .data⟩ (by simp) rfl⟩) (fun h => absurd h (by decide))⟩
    · have hI := F.inv (F.not 6 (by decide) hn')
      have z0 := Has.cell (hC.below hI) 0
      simp only [List.getElem?_toArray, List.getElem?_cons_zero] at z0
      refine wpOp_by rfl rfl (fun K hK => ?_)
      go_simp
      exact hK _ _ ⟨_, rfl, F.put 6 hst (by decide) (by decide) hn' (Below.refl _ _) hI rfl, hcl.set 6 (fun h => absurd h (by decide)) (fun h => absurd h (by decide)) (fun h => absurd h (by decide))⟩
    · have hI := F.inv (F.not 7 (by decide) hn')
      obtain ⟨g1, e1, hr1⟩ := F.got 2 (by decide) 7 hn' (by decide) (hd _ rfl ⟨2, .data⟩ (by simp) rfl)
      obtain ⟨g2, e2, hr2⟩ := F.got 5 (by decide) 7 hn' (by decide) (hd _ rfl ⟨5, .data⟩ (by simp) rfl)
      have e1 : u 17 = _ := e1
      have e2 : u 20 = _ := e2
      have e3 : u 21 = _ := F.got 6 (by decide) 7 hn' (by decide) (hd _ rfl ⟨6, .data⟩ (by simp) rfl)
      refine wpOp_by rfl rfl (fun K hK => ?_)
      go_simp
      refine (HCo.out _ g1 g2 hr1 hr2).mono ?_
      rintro e w2 ⟨rfl, hr3, hb2⟩
      exact hK _ _ ⟨_, by simp [upd, bwS, e1, e2, e3], F.put 7 hst (by decide) (by decide) hn' hb2 (Below.behind hI hb2) ⟨_, rfl, RowIs.mono hr3 hI.size⟩, hcl.set 7 (fun h => absurd h (by decide)) (fun h => absurd h (by decide)) (fun _ => ⟨hd _ rfl ⟨2, .data⟩ (by simp) rfl, hd _ rfl ⟨5, .data⟩ (by simp) rfl, hd _ rfl ⟨6, .data⟩ (by simp) rfl⟩)⟩
    · have hI := F.inv (F.not 8 (by decide) hn')
      obtain ⟨g3, e1, hr3⟩ := F.got 7 (by decide) 8 hn' (by decide) (hd _ rfl ⟨7, .data⟩ (by simp) rfl)
      have e1 : u 22 = _ := e1
      refine wpOp_by rfl rfl (fun K hK => ?_)
      go_simp
      refine (HOf.out _ g3 hr3 hI.size).mono ?_
      rintro e w2 ⟨⟨r, k, ⟨v, rfl, hnat⟩, hsg⟩, hb2⟩
      obtain ⟨a9, c9, rfl⟩ := hnat.slice
      have h9 := hcl.all (hd _ rfl ⟨7, .data⟩ (by simp) rfl)
      refine hK _ _ ⟨upd u 23 _, by simp [upd, e1], F.last hn' h9 (fun hno => ⟨fun _ => ⟨r, k, a9, _, c9, rfl, hnat, hsg, hI.trans hb2⟩, fun h => ?_⟩), hcl.set 8 (fun h => absurd h (by decide)) (fun h => absurd h (by decide)) (fun h => absurd h (by decide))⟩
      have h10 := hno 9 (by decide)
      exact absurd (h10.symm.trans h) (by decide)
    · have h8 := hd _ rfl ⟨8, .data⟩ (by simp) rfl
      have hno9 := false_of hn'
      obtain ⟨r, k, a9, l9, c9, e1, hnat, hsg, hbw⟩ := (F.fin h8).1 hno9
      obtain ⟨q0, q1, q2, q3, q4, q5, q6, q7⟩ := (hZ'.below hbw).four
      have hput := (hZ'.below hbw).put4 (.bool r) (.slice a9 l9 c9) (.bool false) (.bool false)
      have hnat2 := NatIs.mono (hnat.apart4 (hnat.new (show w.heap.size + 1 + 1 < W0.heap.size by omega)) (.bool r) (.slice a9 l9 c9) (.bool false) (.bool false)) (show w.heap.size ≤ W0.heap.size by omega)
      have hb9 := Below.four (hbw.mono (show w.heap.size ≤ W0.heap.size by omega)) (show w.heap.size ≤ w.heap.size + 1 + 1 by omega) (.bool r) (.slice a9 l9 c9) (.bool false) (.bool false)
      refine wpOp_by rfl rfl (fun K hK => ?_)
      go_simp
      exact hK _ _ ⟨u, by simp [e1], F.post 9 (by decide) h8 ⟨fun h => absurd ((set_self9 hn').symm.trans h) (by decide), fun _ => ⟨r, k, _, hput, hnat2, hsg, hb9⟩⟩, hcl.set 9 (fun h => absurd h (by decide)) (fun h => absurd h (by decide)) (fun h => absurd h (by decide))⟩
end Go.Proofs.YtmnibfdenmeepaaGreatDoor
/- two of the program with a captured variable; And, Or, Xor. -/
namespace Go.Proofs.YtmnibfdenmeepaaGreatDoor
open Go.RowKit Go.Shelf Big

/-- A closure reckons f of the numbers of two texts. -/
def DoesAt (K : FuncId) (c : Nat) (f : Int → Int → Int) (W : World) (a b : List UInt8) : Prop :=
  ∀ (B : Nat) (x y : Int) (va vb : Value) (o1 o2 : Bool), numOf a = some x → numOf b = some y → tooL x.natAbs = false → tooL y.natAbs = false → NatIs W B va x.natAbs → NatIs W B vb y.natAbs →
    Calls Tryz.prog K #[.agg #[.bool (decide (x < 0)), va, .bool false, .bool o1], .agg #[.bool (decide (y < 0)), vb, .bool false, .bool o2], .pointer (some ⟨c, 0, none⟩)] W fun e w' => (∃ r n, NumIs W.heap.size r n w' e ∧ sgI r n = f x y) ∧ Below W.heap.size W w'
def TameAt (f : Int → Int → Int) (a b : List UInt8) : Prop := ∀ x y : Int, numOf a = some x → numOf b = some y → tooL x.natAbs = false → tooL y.natAbs = false → (lims 4294967296 (f x y).natAbs).length ≤ 100000
set_option maxRecDepth 100000 in
set_option maxHeartbeats 2000000 in
theorem two_cap (K : FuncId) (c : Nat) (f : Int → Int → Int) (a b : ByteArray) (w : World) (hE : ∀ args w, (callFunc K args).run Tryz.prog w = .ok (.enter K args) w) (hC : ∀ W, Below w.heap.size w W → DoesAt K c f W a.data.toList b.data.toList) (hf : TameAt f a.data.toList b.data.toList) (ha : a.size ≤ 1000) (hb : b.size ≤ 1000) :
    Calls Tryz.prog 27 #[.string a, .string b, .func (.func K) #[] #[.pointer (some ⟨c, 0, none⟩)]] w fun e w' => e = retS (opS f a.data.toList b.data.toList) ∧ Below w.heap.size w w' := by
  have HC := Lib.hid hC
  clear hC
  go_enter Tryz.func27, Tryz.ntmps27
  go_wp2_with fail
  refine (parseTwo_any a b w ha hb).mono ?_
  rintro e w1 ⟨⟨s1, a1, n1, c1, g1, o1, t1, s2, a2, n2, c2, g2, o2, t2, rfl, hf1, hf2⟩, hb1⟩
  have hz1 := hb1.size
  have HF1 := Lib.hid hf1
  have HF2 := Lib.hid hf2
  clear hf1 hf2
  have hno : (t1 && t2) = false → retS (opS f a.data.toList b.data.toList) = .returned (.tuple #[.string ⟨#[]⟩, .int .i64 2]) := by
    intro h
    unfold opS
    rcases HF1.out with ⟨rfl, z, hz, _⟩ | ⟨rfl, hz⟩
    · rcases HF2.out with ⟨rfl, z2, hz2, _⟩ | ⟨rfl, hz2⟩
      · simp at h
      · rw [hz, hz2]; rfl
    · rw [hz]; rfl
  have HNO := Lib.hid hno
  clear hno
  have hbel : ∀ x y, Below w.heap.size w ((w1.alloc x).alloc y) := fun x y => (hb1.alloc hz1 x).alloc (by simp; omega) y
  have HBE := Lib.hid hbel
  clear hbel
  cases t1 <;> cases t2
  case true.true =>
    obtain ⟨z1, hz1', hs1, hg1, hn1⟩ : ∃ z : Int, numOf a.data.toList = some z ∧ s1 = decide (z < 0) ∧ g1 = tooL z.natAbs ∧ NatIs w1 w.heap.size (.slice a1 n1 c1) z.natAbs := by
      rcases HF1.out with ⟨_, h⟩ | ⟨h, _⟩
      · exact h
      · cases h
    obtain ⟨z2, hz2', hs2, hg2, hn2⟩ : ∃ z : Int, numOf b.data.toList = some z ∧ s2 = decide (z < 0) ∧ g2 = tooL z.natAbs ∧ NatIs w1 w.heap.size (.slice a2 n2 c2) z.natAbs := by
      rcases HF2.out with ⟨_, h⟩ | ⟨h, _⟩
      · exact h
      · cases h
    have HOP := Lib.hid (show opS f a.data.toList b.data.toList = if tooL z1.natAbs || tooL z2.natAbs then ([], 4) else told (f z1 z2) by unfold opS; rw [hz1', hz2'])
    have HG := Lib.hid (And.intro hg1 hg2)
    have HN1 := Lib.hid (fun x y => (hn1.alloc x).alloc y)
    have HN2 := Lib.hid (fun x y => (hn2.alloc x).alloc y)
    have HZ1 := Lib.hid hz1'
    have HZ2 := Lib.hid hz2'
    subst hs1
    subst hs2
    clear hz1' hz2' hg1 hg2 hn1 hn2 HNO HF1 HF2
    cases g1 <;> cases g2
    case false.false =>
      have hl1 := short_of HG.out.1.symm
      have hl2 := short_of HG.out.2.symm
      have HT := Lib.hid (hf z1 z2 HZ1.out HZ2.out HG.out.1.symm HG.out.2.symm)
      go_wp2_with fail
      refine ((HC.out _ (HBE.out _ _)) w.heap.size z1 z2 _ _ o1 o2 HZ1.out HZ2.out HG.out.1.symm HG.out.2.symm (HN1.out _ _) (HN2.out _ _)).mono ?_
      rintro e w2 ⟨⟨r, n, ⟨v, rfl, hn⟩, hsg⟩, hb2⟩
      have hz2 := hb2.size
      have hnl : (lims 4294967296 n).length ≤ 100000 := by
        have h := HT.out
        rwa [← hsg, sg_abs] at h
      have HSG := Lib.hid hsg
      obtain ⟨v9, c9, rfl⟩ := hn.slice
      clear hsg
      go_wp2_with fail
      refine (text_any _ n _ _ _ _ _ hn hnl).mono ?_
      rintro e w3 ⟨ht, hb3⟩
      have htd := ht.told
      rw [HSG.out] at htd
      have HOP2 := Lib.hid (show opS f a.data.toList b.data.toList = told (f z1 z2) by rw [HOP.out, ← HG.out.1, ← HG.out.2]; rfl)
      clear ht
      unfold retS at htd
      subst htd
      go_wp2
      go_ret2
      exact ⟨by rw [HOP2.out]; rfl, ((HBE.out _ _).trans (hb2.mono (by simp; omega))).trans (hb3.mono (by simp at hz2; omega))⟩
    all_goals
      have HOP2 := Lib.hid (show opS f a.data.toList b.data.toList = ([], 4) by rw [HOP.out, ← HG.out.1, ← HG.out.2]; rfl)
      go_wp2
      go_ret2
      exact ⟨by rw [HOP2.out]; rfl, HBE.out _ _⟩
  all_goals
    go_wp2
    go_ret2
    exact ⟨(HNO.out rfl).symm, HBE.out _ _⟩
end Go.Proofs.YtmnibfdenmeepaaGreatDoor
/- And, Or, Xor of the program. -/
namespace Go.Proofs.YtmnibfdenmeepaaGreatDoor
open Go.RowKit Go.Shelf Big

/-- The word operation on two numbers of any size. -/
def bitF (g : Nat → Nat → Nat) (x y : Int) : Int := bitZ g (max (lims 4294967296 x.natAbs).length (lims 4294967296 y.natAbs).length + 1) x y
theorem bitwise_any (K : FuncId) (w : World) :
    Calls Tryz.prog 28 #[.func (.func K) #[] #[]] w fun e w' => e = .returned (.func (.func 50) #[] #[.pointer (some ⟨w.heap.size, 0, none⟩)]) ∧ Has w' w.heap.size 58 #[.func (.func K) #[] #[]] ∧ Below w.heap.size w w' := by
  go_enter Tryz.func28, Tryz.ntmps28
  go_wp2
  go_ret
  exact ⟨rfl, Has.new _ _ _, (Below.refl _ _).alloc (Nat.le_refl _) _⟩
theorem lims_63 {n : Nat} (h : tooL n = false) : (lims 4294967296 n).length ≤ 63 := by
  have h1 := lims_of_tool h
  have h2 : 2 ^ k2008 ≤ 4294967296 ^ 63 := by decide +kernel
  exact (lims_len_le w32_ge n 63).2 (Nat.lt_of_lt_of_le h1 h2)
theorem bitF_abs {g : Nat → Nat → Nat} (hg : ∀ x y, x < 4294967296 → y < 4294967296 → g x y < 4294967296) {x y : Int} {M : Nat} (hx : (lims 4294967296 x.natAbs).length ≤ M) (hy : (lims 4294967296 y.natAbs).length ≤ M) : (bitF g x y).natAbs ≤ 4294967296 ^ (M + 1) := by
  obtain ⟨N, hN, h1, h2⟩ : ∃ N, max (lims 4294967296 x.natAbs).length (lims 4294967296 y.natAbs).length = N ∧ (lims 4294967296 x.natAbs).length ≤ N ∧ (lims 4294967296 y.natAbs).length ≤ N := ⟨_, rfl, Nat.le_max_left _ _, Nat.le_max_right _ _⟩
  have hNM : N ≤ M := by omega
  unfold bitF
  rw [hN]
  unfold bitZ
  have hl1 := tw_len (z := x) (n := N + 1) (by omega)
  have hl2 := tw_len (z := y) (n := N + 1) (by omega)
  have h3 := val_lt (zw_small hg (tw_small x (N + 1)) (tw_small y (N + 1)))
  rw [zw_len g (by omega), hl1] at h3
  exact Nat.le_trans h3 (Nat.pow_le_pow_right (by decide) (by omega))
theorem doesAt_bit (K : FuncId) (g : Nat → Nat → Nat) (hK : DoesW K g) (hg : ∀ x y, x < 4294967296 → y < 4294967296 → g x y < 4294967296) (c : Nat) (W : World) (a b : List UInt8) (hc : Has W c 58 #[.func (.func K) #[] #[]]) : DoesAt 50 c (bitF g) W a b := by
  intro B x y va vb o1 o2 _ _ h1 h2 ha hb
  have l1 := lims_63 h1
  have l2 := lims_63 h2
  unfold bitF
  exact bitw_any K g hK hg x y B B va vb false o1 false o2 c _ W ha hb hc (Nat.le_max_left _ _) (Nat.le_max_right _ _) (by omega) (by omega)
theorem tameAt_bit (g : Nat → Nat → Nat) (hg : ∀ x y, x < 4294967296 → y < 4294967296 → g x y < 4294967296) (a b : List UInt8) : TameAt (bitF g) a b := by
  intro x y _ _ h1 h2
  have h3 := bitF_abs hg (lims_63 h1) (lims_63 h2)
  have h4 : (lims 4294967296 (bitF g x y).natAbs).length ≤ 65 := (lims_len_le w32_ge _ _).2 (Nat.lt_of_le_of_lt h3 (Nat.pow_lt_pow_right (by decide) (by decide)))
  omega
theorem two_bit (K : FuncId) (g : Nat → Nat → Nat) (hK : DoesW K g) (hg : ∀ x y, x < 4294967296 → y < 4294967296 → g x y < 4294967296) (c : Nat) (a b : ByteArray) (w : World) (hc : Has w c 58 #[.func (.func K) #[] #[]]) (ha : a.size ≤ 1000) (hb : b.size ≤ 1000) :
    Calls Tryz.prog 27 #[.string a, .string b, .func (.func 50) #[] #[.pointer (some ⟨c, 0, none⟩)]] w fun e w' => e = retS (opS (bitF g) a.data.toList b.data.toList) ∧ Below w.heap.size w w' :=
  two_cap 50 c (bitF g) a b w (enters_of Tryz.func50 (by kernel_rfl) rfl) (fun W hW => doesAt_bit K g hK hg c W _ _ (hc.below hW)) (tameAt_bit g hg _ _) ha hb
theorem And_any (a b : ByteArray) (w : World) (ha : a.size ≤ 1000) (hb : b.size ≤ 1000) :
    Calls Tryz.prog 8 #[.string a, .string b] w fun e w' => e = retS (opS (bitF gA) a.data.toList b.data.toList) ∧ Below w.heap.size w w' := by
  have HT := Lib.hid (fun c W hc => two_bit 29 gA doesW_and (fun x y hx hy => (gA_hi x y hx hy).1) c a b W hc ha hb)
  have HBw := Lib.hid (fun W => bitwise_any 29 W)
  revert HT
  generalize opS (bitF gA) a.data.toList b.data.toList = p
  obtain ⟨l, c⟩ := p
  unfold retS
  intro HT
  go_enter Tryz.func8, Tryz.ntmps8
  go_wp2_with fail
  refine (HBw.out _).mono ?_
  rintro e w1 ⟨rfl, hc1, hb1⟩
  have HB1 := Lib.hid hb1
  have HC1 := Lib.hid hc1
  clear hb1 hc1
  go_wp2_with fail
  refine (HT.out _ _ HC1.out).mono ?_
  rintro e w2 ⟨rfl, hb2⟩
  have HB2 := Lib.hid (Below.behind HB1.out hb2)
  clear hb2
  go_wp2
  go_ret2
  exact ⟨rfl, HB2.out⟩
theorem Or_any (a b : ByteArray) (w : World) (ha : a.size ≤ 1000) (hb : b.size ≤ 1000) :
    Calls Tryz.prog 10 #[.string a, .string b] w fun e w' => e = retS (opS (bitF gO) a.data.toList b.data.toList) ∧ Below w.heap.size w w' := by
  have HT := Lib.hid (fun c W hc => two_bit 31 gO doesW_or (fun x y hx hy => (gO_hi x y hx hy).1) c a b W hc ha hb)
  have HBw := Lib.hid (fun W => bitwise_any 31 W)
  revert HT
  generalize opS (bitF gO) a.data.toList b.data.toList = p
  obtain ⟨l, c⟩ := p
  unfold retS
  intro HT
  go_enter Tryz.func10, Tryz.ntmps10
  go_wp2_with fail
  refine (HBw.out _).mono ?_
  rintro e w1 ⟨rfl, hc1, hb1⟩
  have HB1 := Lib.hid hb1
  have HC1 := Lib.hid hc1
  clear hb1 hc1
  go_wp2_with fail
  refine (HT.out _ _ HC1.out).mono ?_
  rintro e w2 ⟨rfl, hb2⟩
  have HB2 := Lib.hid (Below.behind HB1.out hb2)
  clear hb2
  go_wp2
  go_ret2
  exact ⟨rfl, HB2.out⟩
theorem Xor_any (a b : ByteArray) (w : World) (ha : a.size ≤ 1000) (hb : b.size ≤ 1000) :
    Calls Tryz.prog 12 #[.string a, .string b] w fun e w' => e = retS (opS (bitF gX) a.data.toList b.data.toList) ∧ Below w.heap.size w w' := by
  have HT := Lib.hid (fun c W hc => two_bit 32 gX doesW_xor (fun x y hx hy => (gX_hi x y hx hy).1) c a b W hc ha hb)
  have HBw := Lib.hid (fun W => bitwise_any 32 W)
  revert HT
  generalize opS (bitF gX) a.data.toList b.data.toList = p
  obtain ⟨l, c⟩ := p
  unfold retS
  intro HT
  go_enter Tryz.func12, Tryz.ntmps12
  go_wp2_with fail
  refine (HBw.out _).mono ?_
  rintro e w1 ⟨rfl, hc1, hb1⟩
  have HB1 := Lib.hid hb1
  have HC1 := Lib.hid hc1
  clear hb1 hc1
  go_wp2_with fail
  refine (HT.out _ _ HC1.out).mono ?_
  rintro e w2 ⟨rfl, hb2⟩
  have HB2 := Lib.hid (Below.behind HB1.out hb2)
  clear hb2
  go_wp2
  go_ret2
  exact ⟨rfl, HB2.out⟩
end Go.Proofs.YtmnibfdenmeepaaGreatDoor
/- nat.right of the program. -/
namespace Go.Proofs.YtmnibfdenmeepaaGreatDoor
open Go.RowKit Go.Shelf Big

theorem bits_or64 (x y : Nat) (hx : x < 18446744073709551616) (hy : y < 18446744073709551616) : bits .or .u64 (x : Int) (y : Int) = ((x ||| y : Nat) : Int) :=
  (bits_nat .u64 64 (by decide) (fun n h0 h1 => wraps_u64 n h0 h1) x y hx hy).2
theorem or_word2 (r d : Nat) (hr : r < 4294967296) (hd : d < 4294967296) : bits BinOp.or IntKind.u64 (d : Int) ((r : Int) * 4294967296) = ((r * 4294967296 + d : Nat) : Int) := by
  have e : (r : Int) * 4294967296 = ((r * 4294967296 : Nat) : Int) := by omega
  have h := or_word r d hr hd
  rw [e] at h ⊢
  rw [bits_or64 _ _ (by omega) (by omega)] at h ⊢
  rw [Nat.or_comm]
  exact h
theorem shr_digit (m q s i : Nat) (hs : s < 32) : (m / 4294967296 ^ (q + i) % 4294967296 + m / 4294967296 ^ (q + i + 1) % 4294967296 * 4294967296) / 2 ^ s % 4294967296 = m / 2 ^ (32 * q + s) / 4294967296 ^ i % 4294967296 := by
  have e1 : m / 2 ^ (32 * q + s) / 4294967296 ^ i = m / 4294967296 ^ (q + i) / 2 ^ s := by
    rw [Nat.div_div_eq_div_mul, Nat.div_div_eq_div_mul, Nat.pow_add, Nat.pow_mul, Nat.pow_add, show (2 : Nat) ^ 32 = 4294967296 by decide, Nat.mul_assoc, Nat.mul_assoc, Nat.mul_comm (2 ^ s)]
  have e2 : m / 4294967296 ^ (q + i + 1) = m / 4294967296 ^ (q + i) / 4294967296 := by rw [Nat.div_div_eq_div_mul, ← Nat.pow_succ]
  rw [e1, e2]
  generalize m / 4294967296 ^ (q + i) = x
  have e3 : x % 4294967296 + x / 4294967296 % 4294967296 * 4294967296 = x % 18446744073709551616 := by omega
  rw [e3, show (18446744073709551616 : Nat) = 2 ^ s * (2 ^ (32 - s) * 4294967296) by
    rw [← Nat.mul_assoc, ← Nat.pow_add, show s + (32 - s) = 32 by omega]]
  rw [Nat.mod_mul_right_div_self, Nat.mod_mul_left_mod]

theorem shr_op (T s : Nat) (hs : s < 32) : Op.shift .shr .u64 (T : Int) .u64 (s : Int) = pure (.int .u64 ((T / 2 ^ s : Nat) : Int)) := by
  rw [shift_shr _ _ _ _ (by omega) (by show (s : Int) ≤ ((64 : Nat) : Int); omega), Int.toNat_natCast]
  simp
theorem shr_step {od : List Nat} {i r M : Nat} (hp : i < od.length) (he : ev 4294967296 (od.take i) = M % 4294967296 ^ i) (hr : r = M / 4294967296 ^ i % 4294967296) : ev 4294967296 ((od.set i r).take (i + 1)) = M % 4294967296 ^ (i + 1) := by
  rw [ev_take_succ, List.take_set_of_le (Nat.le_refl _), he, List.getD_eq_getElem?_getD, List.getElem?_set_self hp, Option.getD_some, hr, Nat.pow_succ, Nat.mod_mul]

set_option maxRecDepth 100000 in
set_option maxHeartbeats 4000000 in
theorem shr_by (B1 m q s : Nat) (va : Value) (w : World) (ha : NatIs w B1 va m) (hla : (lims 4294967296 m).length ≤ 100000) (hs : s < 32) (hq : q ≤ 100000) :
    Calls Tryz.prog 20 #[va, .int .u64 ((32 * q + s : Nat) : Int)] w fun e w' => (∃ v, e = .returned v ∧ NatIs w' w.heap.size v (m / 2 ^ (32 * q + s))) ∧ Below w.heap.size w w' := by
  obtain ⟨ao, ca, rfl, ra⟩ := ha.reads hla
  have HBig := Lib.hid ((lims_len_le w32_ge m (lims 4294967296 m).length).1 (Nat.le_refl _))
  have HG := Lib.hid (fun j => shr_digit m q s j hs)
  revert ra hla HBig
  generalize (lims 4294967296 m).length = la
  intro hla ra HBig
  clear ha
  obtain ⟨n, hn⟩ : ∃ n, 32 * q + s = n := ⟨_, rfl⟩
  rw [hn] at HG ⊢
  have hq1 : (n : Int) / 32 = (q : Int) := by omega
  have hs1 : (n : Int) % 32 = (s : Int) := by omega
  have hnI : (n : Int) < 9223372036854775808 := by omega
  have hnI2 : (n : Int) < 18446744073709551616 := by omega
  have HN := Lib.hid hn
  by_cases hc : la ≤ q
  · have hcI : (q : Int) ≥ (la : Int) := by omega
    have hz : m / 2 ^ n = 0 := by
      refine Nat.div_eq_of_lt (Nat.lt_of_lt_of_le HBig.out ?_)
      rw [show (4294967296 : Nat) = 2 ^ 32 by decide, ← Nat.pow_mul]
      exact Nat.pow_le_pow_right (by decide) (by omega)
    rw [hz]
    clear hn ra
    go_enter Tryz.func20, Tryz.ntmps20
    go_wp2
    go_ret
    refine ⟨⟨_, rfl, ?_⟩, Below.refl _ _⟩
    unfold NatIs
    rw [lims_zero]
    exact World.ownsRow_nil _ _ _ _
  obtain ⟨l, hl⟩ : ∃ l, la = q + l := ⟨la - q, by omega⟩
  have hcI : ¬ ((q : Int) ≥ (la : Int)) := by omega
  have hsub : (la : Int) - (q : Int) = (l : Int) := by omega
  have hmk : ∀ W, (Instr.makeSlice 33 (.int .i64 (l : Int)) (.int .i64 (l : Int))).run Tryz.prog W = .ok (.slice (some ⟨W.heap.size, 0, none⟩) l l) (W.alloc (.cells (noughts l) 57)) := make_any _ _ l l rfl rfl (by omega) (by omega)
  have hrow := RowIs.made w w.heap.size l (Nat.le_refl _) (by omega)
  have hb0 : Below w.heap.size w (w.alloc (.cells (noughts l) 57)) := (Below.refl _ w).alloc (Nat.le_refl _) _
  have HHI := Lib.hid (show m / 2 ^ n < 4294967296 ^ l by
    rw [Nat.div_lt_iff_lt_mul (Nat.pow_pos (by decide))]
    refine Nat.lt_of_lt_of_le HBig.out ?_
    rw [hl, Nat.pow_add, Nat.mul_comm]
    refine Nat.mul_le_mul_left _ ?_
    rw [show (4294967296 : Nat) = 2 ^ 32 by decide, ← Nat.pow_mul]
    exact Nat.pow_le_pow_right (by decide) (by omega))
  obtain ⟨M, hM⟩ : ∃ M, m / 2 ^ n = M := ⟨_, rfl⟩
  rw [hM] at HHI HG ⊢
  have HL := Lib.hid hl
  clear hn hM hl
  go_enter Tryz.func20, Tryz.ntmps20
  go_wp2
  clear hmk
  go_loopg [23] l (fun g v23 wx => ∃ (i : Nat) (od : List Nat), v23 = .int .i64 (i : Int) ∧ i + g = l ∧ od.length = l ∧ Small od ∧ RowIs wx w.heap.size w.heap.size l od ∧ ev 4294967296 (od.take i) = M % 4294967296 ^ i ∧ Below w.heap.size w wx)
  case atStart =>
    exact ⟨0, _, rfl, by omega, by simp, small_zeros _, hrow, by simp [ev, Nat.mod_one], hb0⟩
  case round =>
    obtain ⟨i, od, rfl, hi, hod, hsm, hRw, he, hB⟩ := hrel
    have Hod := Lib.hid hod
    have HSm := Lib.hid hsm
    have He := Lib.hid he
    clear hod hsm he
    cases gk with
    | zero =>
      obtain rfl : i = l := by omega
      have he : ev 4294967296 od = M := by
        have h := He.out
        rw [List.take_of_length_le (by rw [Hod.out]; exact Nat.le_refl _), Nat.mod_eq_of_lt HHI.out] at h
        exact h
      have hrow2 := hRw.row
      have hcut := cut_any w.heap.size _ od wr hrow2 HSm.out (by rw [Hod.out]; omega)
      rw [Hod.out, he] at hcut
      clear he ra
      go_wp2_with (go_at_call 38; refine hcut.mono ?_; rintro e w2 ⟨⟨v', rfl, hnat⟩, rfl⟩; obtain ⟨ao', c1, rfl⟩ := hnat.slice)
      go_ret
      exact ⟨⟨_, rfl, hnat⟩, hB⟩
    | succ g =>
      have hil : i < l := by omega
      have hiI : (i : Int) < (l : Int) := by omega
      have hla2 := HL.out
      obtain ⟨ga, rfl, hga, hca⟩ := ra.2.1 (q + i) (by omega)
      obtain ⟨x, hx⟩ : ∃ x, m / 4294967296 ^ (q + i) % 4294967296 = x := ⟨_, rfl⟩
      have hdig := HG.out i
      rw [hx] at hca hdig
      have hx2 : x < 4294967296 := by rw [← hx]; exact Nat.mod_lt _ (by decide)
      have hca2 := (hB.cell (p := ⟨ga, q + i, none⟩) hga).trans hca
      have hpl : i < od.length := by rw [Hod.out]; exact hil
      have hfo := hRw.free i
      have hco := hRw.cell i hpl
      obtain ⟨o, ho⟩ : ∃ o, od[i] = o := ⟨_, rfl⟩
      rw [ho] at hco
      clear ho
      obtain ⟨p, hpe⟩ : ∃ p, q + i = p := ⟨_, rfl⟩
      rw [hpe] at hca2 hdig
      have hsum : (q : Int) + (i : Int) = (p : Int) := by omega
      have hpI : (p : Int) < (la : Int) := by omega
      have hpb : p ≤ 200000 := by omega
      have hpb1 : ((p : Int) + 1) = ((p + 1 : Nat) : Int) := by omega
      obtain ⟨y, hy⟩ : ∃ y, m / 4294967296 ^ (p + 1) % 4294967296 = y := ⟨_, rfl⟩
      have hy2 : y < 4294967296 := by rw [← hy]; exact Nat.mod_lt _ (by decide)
      rw [hy] at hdig
      by_cases h2 : p + 1 < la
      · obtain ⟨ga', he', hga', hcb⟩ := ra.2.1 (p + 1) h2
        cases he'
        rw [hy] at hcb
        have hcb2 := (hB.cell (p := ⟨ga, p + 1, none⟩) hga').trans hcb
        obtain ⟨P, hP⟩ : ∃ P, p + 1 = P := ⟨_, rfl⟩
        rw [hP] at hcb2 hpb1
        have hPI : (P : Int) < (la : Int) := by omega
        have hor := or_word2 y x hy2 hx2
        have hT2 : y * 4294967296 + x < 18446744073709551616 := by omega
        obtain ⟨T, hT⟩ : ∃ T, y * 4294967296 + x = T := ⟨_, rfl⟩
        rw [hT] at hor hT2
        rw [show x + y * 4294967296 = T by omega] at hdig
        have hTI : (T : Int) < 18446744073709551616 := by omega
        have hyI : (y : Int) < 4294967296 := by omega
        have hxI : (x : Int) < 4294967296 := by omega
        have HDig := Lib.hid hdig
        clear hx hca hy hcb ra h2 hP hT hpe hT2 hdig hla2 hil hpb hx2 hy2 hga hga' hc hq
        clear hsub hq1 hcI hrow hb0
        obtain ⟨R, hRe⟩ : ∃ R, T / 2 ^ s = R := ⟨_, rfl⟩
        have hop := shr_op T s hs
        rw [hRe] at hop
        have hop2 : (T : Int) / 2 ^ s = (R : Int) := by rw [← hRe]; simp
        have hR64 : (R : Int) < 18446744073709551616 := by
          have := Nat.div_le_self T (2 ^ s)
          omega
        obtain ⟨r, hr⟩ : ∃ r, R % 4294967296 = r := ⟨_, rfl⟩
        have hmi : (R : Int) % 4294967296 = (r : Int) := by omega
        have hr2 : r < 4294967296 := by omega
        have HSt := Lib.hid (show ev 4294967296 ((od.set i r).take (i + 1)) = M % 4294967296 ^ (i + 1) from by
          have h := HDig.out
          rw [hRe, hr] at h
          exact shr_step hpl He.out h)
        have HPt := Lib.hid (hRw.put i r)
        have HBt := Lib.hid (hB.setCell (p := ⟨w.heap.size, i, none⟩) (Nat.le_refl _) (.int .u32 (r : Int)))
        clear hRe hr hRw hB hpl
        go_wp2_with fail
        go_roundg g
        case measure => omega
        case rel => exact ⟨i + 1, od.set i r, by go_num, by omega, by rw [List.length_set]; exact Hod.out, small_set HSm.out i r hr2, HPt.out, HSt.out, HBt.out⟩
      · have hy0 : y = 0 := by
          rw [← hy]
          refine ra.2.2 (p + 1) (by omega)
        rw [hy0, Nat.zero_mul, Nat.add_zero] at hdig
        have hPI : ¬ ((p : Int) + 1 < (la : Int)) := by omega
        have hTI : (x : Int) < 18446744073709551616 := by omega
        have hxI : (x : Int) < 4294967296 := by omega
        have HDig := Lib.hid hdig
        clear hx hca hy hy0 ra h2 hpe hdig hla2 hil hpb hx2 hy2 hga hc hq hpb1
        clear hsub hq1 hcI hrow hb0
        obtain ⟨T, rfl⟩ : ∃ T, T = x := ⟨_, rfl⟩
        obtain ⟨R, hRe⟩ : ∃ R, T / 2 ^ s = R := ⟨_, rfl⟩
        have hop := shr_op T s hs
        rw [hRe] at hop
        have hop2 : (T : Int) / 2 ^ s = (R : Int) := by rw [← hRe]; simp
        have hR64 : (R : Int) < 18446744073709551616 := by
          have := Nat.div_le_self T (2 ^ s)
          omega
        obtain ⟨r, hr⟩ : ∃ r, R % 4294967296 = r := ⟨_, rfl⟩
        have hmi : (R : Int) % 4294967296 = (r : Int) := by omega
        have hr2 : r < 4294967296 := by omega
        have HSt := Lib.hid (show ev 4294967296 ((od.set i r).take (i + 1)) = M % 4294967296 ^ (i + 1) from by
          have h := HDig.out
          rw [hRe, hr] at h
          exact shr_step hpl He.out h)
        have HPt := Lib.hid (hRw.put i r)
        have HBt := Lib.hid (hB.setCell (p := ⟨w.heap.size, i, none⟩) (Nat.le_refl _) (.int .u32 (r : Int)))
        clear hRe hr hRw hB hpl
        go_wp2_with fail
        go_roundg g
        case measure => omega
        case rel => exact ⟨i + 1, od.set i r, by go_num, by omega, by rw [List.length_set]; exact Hod.out, small_set HSm.out i r hr2, HPt.out, HSt.out, HBt.out⟩

theorem shr_any (B1 m n : Nat) (va : Value) (w : World) (ha : NatIs w B1 va m) (hla : (lims 4294967296 m).length ≤ 100000) (hn : n ≤ 200000) :
    Calls Tryz.prog 20 #[va, .int .u64 (n : Int)] w fun e w' => (∃ v, e = .returned v ∧ NatIs w' w.heap.size v (m / 2 ^ n)) ∧ Below w.heap.size w w' := by
  have h := shr_by B1 m (n / 32) (n % 32) va w ha hla (Nat.mod_lt _ (by decide)) (by omega)
  rw [show 32 * (n / 32) + n % 32 = n by omega] at h
  exact h
end Go.Proofs.YtmnibfdenmeepaaGreatDoor
/- nat.left of the program. -/
namespace Go.Proofs.YtmnibfdenmeepaaGreatDoor
open Go.RowKit Go.Shelf Big

theorem shl_op (T s : Nat) (hs : s < 32) (hT : T < 4294967296) : Op.shift .shl .u64 (T : Int) .u64 (s : Int) = pure (.int .u64 ((T * 2 ^ s : Nat) : Int)) := by
  have h1 : T * 2 ^ s < 18446744073709551616 := by
    have h2 : 2 ^ s ≤ 2 ^ 32 := Nat.pow_le_pow_right (by decide) (by omega)
    have h3 : T * 2 ^ s ≤ 4294967296 * 2 ^ 32 := Nat.mul_le_mul (Nat.le_of_lt hT) h2
    have h4 : T * 2 ^ s ≤ 4294967295 * 2 ^ s := Nat.mul_le_mul_right _ (by omega)
    have h5 : 4294967295 * 2 ^ s ≤ 4294967295 * 2 ^ 32 := Nat.mul_le_mul_left _ h2
    have h6 : 4294967295 * 2 ^ 32 < 18446744073709551616 := by decide
    omega
  rw [shift_shl _ _ _ _ (by omega) (by show (s : Int) ≤ ((64 : Nat) : Int); omega), Int.toNat_natCast]
  have e : (T : Int) * 2 ^ s = ((T * 2 ^ s : Nat) : Int) := by simp
  rw [e, wraps_u64 _ (by omega) (by omega)]
/-- The two halves of a word moved by s places. -/
theorem shl_parts (d s : Nat) (hs : s < 32) (hd : d < 4294967296) : d * 2 ^ s % 4294967296 + 2 ^ s ≤ 4294967296 ∧ d * 2 ^ s / 4294967296 < 2 ^ s ∧ 2 ^ s ∣ d * 2 ^ s % 4294967296 := by
  have hB : 4294967296 = 2 ^ s * 2 ^ (32 - s) := by rw [← Nat.pow_add, show s + (32 - s) = 32 by omega]
  have hp := Nat.two_pow_pos s
  have hm : d * 2 ^ s % 4294967296 = 2 ^ s * (d % 2 ^ (32 - s)) := by rw [hB, Nat.mul_comm d, Nat.mul_mod_mul_left]
  refine ⟨?_, ?_, ?_⟩
  · rw [hm]
    have h1 : d % 2 ^ (32 - s) + 1 ≤ 2 ^ (32 - s) := Nat.mod_lt _ (Nat.two_pow_pos _)
    have h2 := Nat.mul_le_mul_left (2 ^ s) h1
    rw [Nat.mul_add, Nat.mul_one, ← hB] at h2
    exact h2
  · rw [Nat.div_lt_iff_lt_mul (by decide), Nat.mul_comm]
    exact Nat.mul_lt_mul_of_pos_left hd hp
  · rw [hm]; exact Nat.dvd_mul_right _ _
theorem or_apart (s low o : Nat) (ho : o < 2 ^ s) (hl : 2 ^ s ∣ low) : (o ||| low) = low + o := by
  obtain ⟨k, rfl⟩ := hl
  rw [Nat.or_comm, Nat.two_pow_add_eq_or_of_lt ho]
theorem shl_step {od : List Nat} {p i q s m d low hi : Nat} (hp : p + 1 < od.length) (hpe : q + i = p) (he : ev 4294967296 od = m % 4294967296 ^ i * 2 ^ s * 4294967296 ^ q) (hd : d = m / 4294967296 ^ i % 4294967296)
    (hz : od.getD (p + 1) 0 = 0) (ht : d * 2 ^ s = low + 4294967296 * hi) :
    ev 4294967296 ((od.set p (low + od.getD p 0)).set (p + 1) hi) = m % 4294967296 ^ (i + 1) * 2 ^ s * 4294967296 ^ q := by
  have h1 := ev_set 4294967296 od p (low + od.getD p 0) (by omega)
  have h2 := ev_set 4294967296 (od.set p (low + od.getD p 0)) (p + 1) hi (by rw [List.length_set]; exact hp)
  rw [getD_set_ne (by omega), hz, Nat.mul_zero, Nat.add_zero] at h2
  rw [h2]
  rw [Nat.mul_add] at h1
  have h3 : ev 4294967296 (od.set p (low + od.getD p 0)) = ev 4294967296 od + 4294967296 ^ p * low := by omega
  rw [h3, he, Nat.pow_succ 4294967296 p, Nat.mul_assoc (4294967296 ^ p), Nat.add_assoc, ← Nat.mul_add, ← ht, Nat.pow_succ, Nat.mod_mul, ← hd, Nat.add_mul, Nat.add_mul, ← hpe, Nat.pow_add]
  congr 1
  rw [Nat.mul_comm (4294967296 ^ q), Nat.mul_assoc, Nat.mul_assoc, Nat.mul_comm (4294967296 ^ q), Nat.mul_assoc, Nat.mul_assoc (4294967296 ^ i) d]

set_option maxRecDepth 100000 in
set_option maxHeartbeats 4000000 in
theorem shl_by (B1 m q s : Nat) (va : Value) (w : World) (ha : NatIs w B1 va m) (hla : (lims 4294967296 m).length ≤ 100000) (hs : s < 32) (hq : q ≤ 100000) :
    Calls Tryz.prog 17 #[va, .int .u64 ((32 * q + s : Nat) : Int)] w fun e w' => (∃ v, e = .returned v ∧ NatIs w' w.heap.size v (m * 2 ^ (32 * q + s))) ∧ Below w.heap.size w w' := by
  obtain ⟨ao, ca, rfl, ra⟩ := ha.reads hla
  have HBig := Lib.hid ((lims_len_le w32_ge m (lims 4294967296 m).length).1 (Nat.le_refl _))
  revert ra hla HBig
  generalize (lims 4294967296 m).length = la
  intro hla ra HBig
  clear ha
  have hpow : m * 2 ^ (32 * q + s) = m * 2 ^ s * 4294967296 ^ q := by
    rw [Nat.pow_add, Nat.pow_mul, show (2 : Nat) ^ 32 = 4294967296 by decide, Nat.mul_comm (4294967296 ^ q), Nat.mul_assoc]
  rw [hpow]
  clear hpow
  obtain ⟨n, hn⟩ : ∃ n, 32 * q + s = n := ⟨_, rfl⟩
  rw [hn]
  have hq1 : (n : Int) / 32 = (q : Int) := by omega
  have hs1 : (n : Int) % 32 = (s : Int) := by omega
  have hnI : (n : Int) < 9223372036854775808 := by omega
  have hnI2 : (n : Int) < 18446744073709551616 := by omega
  clear hn
  by_cases hc : la = 0
  · subst hc
    have h0 : m = 0 := by have := HBig.out; rw [Nat.pow_zero] at this; omega
    rw [h0, Nat.zero_mul, Nat.zero_mul]
    clear ra
    go_enter Tryz.func17, Tryz.ntmps17
    go_wp2
    go_ret
    refine ⟨⟨_, rfl, ?_⟩, Below.refl _ _⟩
    unfold NatIs
    rw [lims_zero]
    exact World.ownsRow_nil _ _ _ _
  have hcI : ((la : Int) == 0) = false := by simp; omega
  obtain ⟨C, hC⟩ : ∃ C, q + la + 1 = C := ⟨_, rfl⟩
  obtain ⟨D, hD⟩ : ∃ D, q + la = D := ⟨_, rfl⟩
  have hadd : (q : Int) + (la : Int) = (D : Int) := by omega
  have hadd2 : (D : Int) + 1 = (C : Int) := by omega
  have hDC : D ≤ 200000 ∧ C ≤ 200001 := by omega
  have hmk : ∀ W, (Instr.makeSlice 33 (.int .i64 (C : Int)) (.int .i64 (C : Int))).run Tryz.prog W = .ok (.slice (some ⟨W.heap.size, 0, none⟩) C C) (W.alloc (.cells (noughts C) 57)) := make_any _ _ C C rfl rfl (by omega) (by omega)
  have hrow := RowIs.made w w.heap.size C (Nat.le_refl _) (by omega)
  have hb0 : Below w.heap.size w (w.alloc (.cells (noughts C) 57)) := (Below.refl _ w).alloc (Nat.le_refl _) _
  have HC := Lib.hid hC
  clear hC hD
  go_enter Tryz.func17, Tryz.ntmps17
  go_wp2
  clear hmk hadd hadd2
  go_loopg [22] la (fun g v22 wx => ∃ (i : Nat) (od : List Nat), v22 = .int .i64 (i : Int) ∧ i + g = la ∧ od.length = C ∧ Small od ∧ RowIs wx w.heap.size w.heap.size C od ∧ (∀ j, q + i < j → od.getD j 0 = 0) ∧ od.getD (q + i) 0 < 2 ^ s ∧ ev 4294967296 od = m % 4294967296 ^ i * 2 ^ s * 4294967296 ^ q ∧ Below w.heap.size w wx)
  case atStart =>
    have hz : ∀ j, (List.replicate C 0).getD j 0 = 0 := fun j => by
      rw [List.getD_eq_getElem?_getD, List.getElem?_replicate]
      split <;> rfl
    exact ⟨0, _, rfl, by omega, by simp, small_zeros _, hrow, fun j _ => hz j, by rw [hz]; exact Nat.two_pow_pos _, by rw [ev_replicate, Nat.pow_zero, Nat.mod_one]; simp, hb0⟩
  case round =>
    obtain ⟨i, od, rfl, hi, hod, hsm, hRw, hzs, hlt, he, hB⟩ := hrel
    have Hod := Lib.hid hod
    have HSm := Lib.hid hsm
    have HZs := Lib.hid hzs
    have He := Lib.hid he
    clear hod hsm he hzs
    cases gk with
    | zero =>
      obtain rfl : i = la := by omega
      have he : ev 4294967296 od = m * 2 ^ s * 4294967296 ^ q := by
        have h := He.out
        rw [Nat.mod_eq_of_lt HBig.out] at h
        exact h
      have hrow2 := hRw.row
      have hcut := cut_any w.heap.size _ od wr hrow2 HSm.out (by rw [Hod.out]; omega)
      rw [Hod.out, he] at hcut
      clear he ra hlt
      go_wp2_with (go_at_call 38; refine hcut.mono ?_; rintro e w2 ⟨⟨v', rfl, hnat⟩, rfl⟩; obtain ⟨ao', c1, rfl⟩ := hnat.slice)
      go_ret
      exact ⟨⟨_, rfl, hnat⟩, hB⟩
    | succ g =>
      have hil : i < la := by omega
      have hiI : (i : Int) < (la : Int) := by omega
      have hC2 := HC.out
      obtain ⟨ga, rfl, hga, hca⟩ := ra.2.1 i hil
      obtain ⟨d, hd⟩ : ∃ d, m / 4294967296 ^ i % 4294967296 = d := ⟨_, rfl⟩
      rw [hd] at hca
      have hd2 : d < 4294967296 := by rw [← hd]; exact Nat.mod_lt _ (by decide)
      have hca2 := (hB.cell (p := ⟨ga, i, none⟩) hga).trans hca
      obtain ⟨p, hpe⟩ : ∃ p, q + i = p := ⟨_, rfl⟩
      rw [hpe] at hlt
      have hp1 : p + 1 < od.length := by rw [Hod.out]; omega
      have hsum : (q : Int) + (i : Int) = (p : Int) := by omega
      have hpI : (p : Int) < (C : Int) := by omega
      obtain ⟨P, hP⟩ : ∃ P, p + 1 = P := ⟨_, rfl⟩
      have hpP : (p : Int) + 1 = (P : Int) := by omega
      have hPI : (P : Int) < (C : Int) := by omega
      obtain ⟨k1, k2, k3⟩ := shl_parts d s hs hd2
      have hop := shl_op d s hs hd2
      have ht0 : d * 2 ^ s = d * 2 ^ s % 4294967296 + 4294967296 * (d * 2 ^ s / 4294967296) := by omega
      have hT64 : d * 2 ^ s < 18446744073709551616 := by
        have h2 : 2 ^ s ≤ 2 ^ 32 := Nat.pow_le_pow_right (by decide) (by omega)
        have : (2 : Nat) ^ 32 = 4294967296 := by decide
        omega
      obtain ⟨T, hT⟩ : ∃ T, d * 2 ^ s = T := ⟨_, rfl⟩
      obtain ⟨low, hlow⟩ : ∃ low, d * 2 ^ s % 4294967296 = low := ⟨_, rfl⟩
      obtain ⟨hi', hhi⟩ : ∃ hi', d * 2 ^ s / 4294967296 = hi' := ⟨_, rfl⟩
      rw [hlow] at k1 k3
      rw [hhi] at k2
      rw [hlow, hhi] at ht0
      rw [hT] at hlow hhi hop hT64
      have hstep := shl_step hp1 hpe He.out hd.symm (HZs.out (p + 1) (by omega)) ht0
      obtain ⟨o, ho⟩ : ∃ o, od.getD p 0 = o := ⟨_, rfl⟩
      have ho' : od[p]'(by omega) = o := by rw [← getD_of (by omega)]; exact ho
      rw [ho] at hlt hstep
      have ho2 : o + low < 4294967296 := by omega
      have hor : bits BinOp.or IntKind.u32 (o : Int) (low : Int) = ((low + o : Nat) : Int) := by
        rw [bits_or o low (by omega) (by omega), or_apart s low o hlt k3]
      have hs32 : (2 : Nat) ^ s ≤ 2 ^ 32 := Nat.pow_le_pow_right (by decide) (by omega)
      have hs32' : (2 : Nat) ^ 32 = 4294967296 := by decide
      have hhi2 : hi' < 4294967296 := by omega
      have hor2 : bits BinOp.or IntKind.u32 0 (hi' : Int) = (hi' : Int) := by
        have h := bits_or 0 hi' (by decide) hhi2
        rw [Nat.zero_or] at h
        exact h
      obtain ⟨r, hr⟩ : ∃ r, low + o = r := ⟨_, rfl⟩
      rw [hr] at hor hstep
      have hr2 : r < 4294967296 := by omega
      have hlI : (T : Int) % 4294967296 = (low : Int) := by omega
      have hhI : (T : Int) / 4294967296 = (hi' : Int) := by omega
      have hTI : (T : Int) < 18446744073709551616 := by omega
      have hlI2 : (low : Int) < 4294967296 := by omega
      have hhI2 : (hi' : Int) < 4294967296 := by omega
      rw [hP] at hstep hp1
      have hR1 := hRw.put p r
      have hco := hRw.cell p (by omega)
      rw [ho'] at hco
      have hfo := hRw.free p
      have hcP := hR1.cell P (by rw [List.length_set]; exact hp1)
      have hfP := hR1.free P
      have hz1 : (od.set p r)[P]'(by rw [List.length_set]; exact hp1) = 0 := by
        rw [← getD_of (by rw [List.length_set]; exact hp1), getD_set_ne (by omega)]
        exact HZs.out P (by omega)
      rw [hz1] at hcP
      have hcP : (wr.setCell ⟨w.heap.size, p, none⟩ (.int .u32 (r : Int))).cell? ⟨w.heap.size, P, none⟩ = some (.int .u32 0) := hcP
      have hop2 : (d : Int) * 2 ^ s = (T : Int) := by rw [← hT]; simp
      have HPt := Lib.hid (hR1.put P hi')
      have HBt := Lib.hid ((hB.setCell (p := ⟨w.heap.size, p, none⟩) (Nat.le_refl _) (.int .u32 (r : Int))).setCell (p := ⟨w.heap.size, P, none⟩) (Nat.le_refl _) (.int .u32 (hi' : Int)))
      have HSt := Lib.hid hstep
      have HZt := Lib.hid (show (∀ j, q + (i + 1) < j → ((od.set p r).set P hi').getD j 0 = 0) ∧ ((od.set p r).set P hi').getD (q + (i + 1)) 0 < 2 ^ s from by
        refine ⟨fun j hj => ?_, ?_⟩
        · rw [getD_set_ne (by omega), getD_set_ne (by omega)]
          exact HZs.out j (by omega)
        · rw [show q + (i + 1) = P by omega, getD_of (by rw [List.length_set, List.length_set]; exact hp1), List.getElem_set_self]
          exact k2)
      clear hd hca hpe hP k1 k2 k3 ht0 hT hlow hhi hT64 hstep ho ho' hlt ho2 hs32 hs32' hr hz1 hR1 hRw hB hp1 hC2 hil ra hga hq hrow hb0
      go_wp2_with fail
      go_roundg g
      case measure => omega
      case rel => exact ⟨i + 1, (od.set p r).set P hi', by go_num, by omega, by rw [List.length_set, List.length_set]; exact Hod.out, small_set (small_set HSm.out p r hr2) P hi' hhi2, HPt.out, HZt.out.1, HZt.out.2, HSt.out, HBt.out⟩

theorem shl_any (B1 m n : Nat) (va : Value) (w : World) (ha : NatIs w B1 va m) (hla : (lims 4294967296 m).length ≤ 100000) (hn : n ≤ 200000) :
    Calls Tryz.prog 17 #[va, .int .u64 (n : Int)] w fun e w' => (∃ v, e = .returned v ∧ NatIs w' w.heap.size v (m * 2 ^ n)) ∧ Below w.heap.size w w' := by
  have h := shl_by B1 m (n / 32) (n % 32) va w ha hla (Nat.mod_lt _ (by decide)) (by omega)
  rw [show 32 * (n / 32) + n % 32 = n by omega] at h
  exact h
end Go.Proofs.YtmnibfdenmeepaaGreatDoor
/- Whole of the reference, for small numbers. -/
namespace Go.Proofs.YtmnibfdenmeepaaGreatDoor
open Go.RowKit Go.Shelf Big

theorem ZIs.of {B n : Nat} {z : Int} {w' : World} {v : Value} (hd : DecIs w' B v n) (hz : n = z.natAbs) {b : Bool} (hb : b = decide (z < 0)) : ZIs B z w' (.returned (.agg #[.bool b, v])) := ⟨v, by rw [hb], hz ▸ hd⟩

set_option maxRecDepth 100000 in
set_option maxHeartbeats 2000000 in
theorem rWhole_any (z : Int) (h0 : -1000 ≤ z) (h1 : z ≤ 1000) (w : World) :
    Calls Tryz.prog 46 #[.int .i64 z] w fun e w' => ZIs w.heap.size z w' e ∧ Below w.heap.size w w' := by
  obtain ⟨n, hn⟩ : ∃ n, z.natAbs = n := ⟨_, rfl⟩
  obtain ⟨x, hx⟩ : ∃ x, max z (-z) = x := ⟨_, rfl⟩
  have hxn : x = (n : Int) := by omega
  have HNat := Lib.hid (fun W => natOf_any n W (by omega))
  have HL := Lib.hid (fun c av W => num_len n c av (decide (z < 0)) W)
  have HS := Lib.hid (show (decide (z < 0) && decide (0 < n)) = decide (z < 0) by
    rw [Bool.eq_iff_iff]; simp; omega)
  have HNz := Lib.hid hn
  revert HL HS
  obtain ⟨b, hb⟩ : ∃ b, decide (z < 0) = b := ⟨_, rfl⟩
  have HB := Lib.hid hb
  rw [hb]
  intro HL HS
  go_enter Tryz.func46, Tryz.ntmps46
  go_wp2_with fail
  refine (HNat.out _).mono ?_
  rintro e w1 ⟨⟨v1, rfl, hn1⟩, hb1⟩
  obtain ⟨av, c, rfl⟩ := hn1.slice
  obtain ⟨lv, hlv⟩ : ∃ lv, (lims 10 n).length = lv := ⟨_, rfl⟩
  have HLc := Lib.hid (fun W => HL.out c av W)
  rw [hlv] at HLc ⊢
  have HLV := Lib.hid hlv
  have HX1 := Lib.hid ((Has.new w 45 #[.bool false, .slice none 0 0]).below hb1)
  have HB1 := Lib.hid (Below.behind ((Below.refl _ w).alloc (Nat.le_refl _) (.cells #[.bool false, .slice none 0 0] 45)) hb1)
  rw [hlv] at hn1
  have HN1 := Lib.hid hn1
  have hz1 := hb1.size
  have hW : (w.alloc (.cells #[.bool false, .slice none 0 0] 45)).heap.size = w.heap.size + 1 := by simp
  rw [hW] at hz1 HN1
  clear hb1 hn1 HL hlv
  go_wp2_with fail
  refine (HLc.out _).mono ?_
  rintro e w2 ⟨rfl, hb2⟩
  rw [HS.out]
  have hX2 := HX1.out.below hb2
  obtain ⟨q0, q1, q2, q3⟩ := cells_two hX2
  have HB2 := Lib.hid (Below.behind HB1.out hb2)
  have HN2 := Lib.hid (HN1.out.kept hb2)
  clear hb2 hX2
  go_wp2
  refine bodyPost_ret (v := .agg #[.bool b, .slice av lv c]) (by simp [results, Tryz.results46, go_sem, World.cell?_setCell_same', q0, q1]) rfl ⟨ZIs.of (n := n) ?_ HNz.out.symm HB.out.symm, Below.two HB2.out (Nat.le_refl _) _ _⟩
  exact DecIs.mono ((HN2.out.apart (HN2.out.new (by omega)) 0 _).apart (HN2.out.new (by omega)) 1 _) (by omega)
end Go.Proofs.YtmnibfdenmeepaaGreatDoor
/- Times of the reference. -/
namespace Go.Proofs.YtmnibfdenmeepaaGreatDoor
open Go.RowKit Go.Shelf Big

theorem times_z {s t : Bool} {m k : Nat} : ((s != t) && decide (0 < m * k)) = decide (sgI s m * sgI t k < 0) ∧ m * k = (sgI s m * sgI t k).natAbs := by
  have hm : ((m * k : Nat) : Int) = (m : Int) * (k : Int) := by simp
  generalize hP : m * k = P at *
  constructor
  · unfold sgI
    cases s <;> cases t <;> simp [Int.neg_mul, Int.mul_neg, ← hm] <;> omega
  · unfold sgI
    cases s <;> cases t <;> simp [Int.neg_mul, Int.mul_neg, ← hm]
/-- Values laid in a cell's block stay apart from a struct's block. -/
theorem DecIs.notNum {w : World} {B n g : Nat} {v : Value} {cs : Array Value} (h : DecIs w B v n) (hx : Has w g 45 cs) : ∀ b, v.ownBlock = some b → b ≠ g := by
  intro b hb e
  subst e
  rcases h.2 with ⟨rfl, _⟩ | ⟨g', cap, cur, rfl, h2, h3, _⟩
  · cases hb
  · have : g' = b := by
      have h : some g' = some b := hb
      injection h
    subst this
    have h4 : some (Obj.cells cur 3) = some (Obj.cells cs 45) := h3.symm.trans hx
    injection h4 with h5
    injection h5 with _ h6
    exact absurd h6 (by decide)
def timS : Nat → Nat := fun i => i + 5
def timPr (b : Nat) (W0 : World) (s t : Bool) (lv lu : Nat) (av bv : Option Addr) (ca cb : Nat) (n : Nat) : Nat → Value → World → Prop
  | 0, v, _ => v = .pointer (some ⟨b, 0, none⟩)
  | 1, v, _ => v = .bool s
  | 2, v, _ => v = .pointer (some ⟨b + 1, 0, none⟩)
  | 3, v, _ => v = .bool t
  | 4, v, _ => v = .bool (s != t)
  | 5, v, _ => v = .pointer (some ⟨b, 1, none⟩)
  | 6, v, _ => v = .slice av lv ca
  | 7, v, _ => v = .pointer (some ⟨b + 1, 1, none⟩)
  | 8, v, _ => v = .slice bv lu cb
  | 9, v, w => ∃ a c, v = .slice a (lims 10 n).length c ∧ DecIs w W0.heap.size (.slice a (lims 10 n).length c) n
  | _, v, w => ∃ a c, v = .agg #[.bool ((s != t) && decide (0 < n)), .slice a (lims 10 n).length c] ∧ DecIs w W0.heap.size (.slice a (lims 10 n).length c) n
theorem timPr_stays (b : Nat) (W0 : World) (s t : Bool) (lv lu : Nat) (av bv : Option Addr) (ca cb : Nat) (n : Nat) : Stays 11 (timPr b W0 s t lv lu av bv ca cb n) := by
  intro i v w w' hi hb h
  match i, h with
  | 0, h => exact h
  | 1, h => exact h
  | 2, h => exact h
  | 3, h => exact h
  | 4, h => exact h
  | 5, h => exact h
  | 6, h => exact h
  | 7, h => exact h
  | 8, h => exact h
  | 9, h => obtain ⟨a, c, e, hd⟩ := h; exact ⟨a, c, e, hd.kept hb⟩
  | 10, h => obtain ⟨a, c, e, hd⟩ := h; exact ⟨a, c, e, hd.kept hb⟩
  | n + 11, _ => omega
def timFin (b : Nat) (W0 : World) (s t : Bool) (n : Nat) (w0 w : World) : Prop := ∃ v, Has w (b + 2) 45 #[.bool ((s != t) && decide (0 < n)), v] ∧ DecIs w W0.heap.size v n ∧ Below w0.heap.size w0 w
set_option maxRecDepth 100000 in
set_option maxHeartbeats 4000000 in
theorem rTimes_any (B1 B2 m k : Nat) (va vb : Value) (s t : Bool) (w : World) (ha : DecIs w B1 va m) (hb : DecIs w B2 vb k) (hla : (lims 10 m).length ≤ 1000000) (hlb : (lims 10 k).length ≤ 1000000) :
    Calls Tryz.prog 24 #[.agg #[.bool s, va], .agg #[.bool t, vb]] w fun e w' => ZIs w.heap.size (sgI s m * sgI t k) w' e ∧ Below w.heap.size w w' := by
  have HA := Lib.hid ha
  have HB := Lib.hid hb
  obtain ⟨av, ca, rfl⟩ := ha.slice
  obtain ⟨bv, cb, rfl⟩ := hb.slice
  obtain ⟨lv, hlv⟩ : ∃ lv, (lims 10 m).length = lv := ⟨_, rfl⟩
  obtain ⟨lu, hlu⟩ : ∃ lu, (lims 10 k).length = lu := ⟨_, rfl⟩
  rw [hlv] at HA hla ⊢
  rw [hlu] at HB hlb ⊢
  have HLV := Lib.hid hlv
  have HLU := Lib.hid hlu
  clear ha hb hlv hlu
  go_enter Tryz.func24, Tryz.ntmps24
  go_wp2_with fail
  obtain ⟨W0, hW0⟩ : ∃ W0, ((w.alloc (.cells #[.bool s, .slice av lv ca] 45)).alloc (.cells #[.bool t, .slice bv lu cb] 45)).alloc (.cells #[.bool false, .slice none 0 0] 45) = W0 := ⟨_, rfl⟩
  rw [hW0]
  have hz0 : W0.heap.size = w.heap.size + 3 := by rw [← hW0]; simp
  have hA0 : DecIs W0 B1 (.slice av lv ca) m := by rw [← hW0]; exact ((HA.out.alloc _).alloc _).alloc _
  have hB0 : DecIs W0 B2 (.slice bv lu cb) k := by rw [← hW0]; exact ((HB.out.alloc _).alloc _).alloc _
  have hX : Has W0 w.heap.size 45 #[.bool s, .slice av lv ca] := by rw [← hW0]; exact ((Has.new w _ _).alloc _).alloc _
  have hY : Has W0 (w.heap.size + 1) 45 #[.bool t, .slice bv lu cb] := by rw [← hW0]; exact (Has.new' (n := w.heap.size + 1) (by simp) _ _).alloc _
  have hR : Has W0 (w.heap.size + 2) 45 #[.bool false, .slice none 0 0] := by rw [← hW0]; exact Has.new' (n := w.heap.size + 2) (by simp) _ _
  have hBB : Below w.heap.size w W0 := by rw [← hW0]; exact (((Below.refl _ w).alloc (Nat.le_refl _) _).alloc (by simp) _).alloc (by simp; omega) _
  clear hW0
  have HA1 := Lib.hid (fun W (h : Below W0.heap.size W0 W) => hA0.kept h)
  have HB1 := Lib.hid (fun W (h : Below W0.heap.size W0 W) => hB0.kept h)
  clear hA0 hB0
  obtain ⟨n, hn0⟩ : ∃ n, m * k = n := ⟨_, rfl⟩
  have hst := timPr_stays w.heap.size W0 s t lv lu av bv ca cb n
  refine wp_region_inv (Inv := fun listed x w' => ∃ u, x = { tmps := #[.agg #[.bool s, .slice av lv ca], .agg #[.bool t, .slice bv lu cb], .pointer (some ⟨w.heap.size, 0, none⟩), .pointer (some ⟨w.heap.size + 1, 0, none⟩), .pointer (some ⟨w.heap.size + 2, 0, none⟩), u 5, u 6, u 7, u 8, u 9, u 10, u 11, u 12, u 13, u 14, u 15], defers := [] } ∧ RegInv (Below W0.heap.size W0) 11 timS (timPr w.heap.size W0 s t lv lu av bv ca cb n) (fun _ _ w' => timFin w.heap.size W0 s t n w w') (fun i => listed.getD i false) u w') (by kernel_rfl) (ord_of (by kernel_rfl)) ?h0 ?step ?fin
  case h0 => exact ⟨fun _ => undef, rfl, RegInv.start (none_listed _) (Below.refl _ _).drew⟩
  case fin =>
    rintro listed x w' ⟨u, rfl, F⟩ hall
    obtain ⟨v, hg, hv, hbF⟩ := F.fin (hall 11 (by decide))
    obtain ⟨q0, q1, -⟩ := cells_two hg
    obtain ⟨a, c, rfl⟩ := hv.slice
    have HV := Lib.hid hv
    have HBF := Lib.hid hbF
    have hzz := times_z (s := s) (t := t) (m := m) (k := k)
    rw [hn0] at hzz
    have HZ := Lib.hid hzz
    clear hzz
    clear hv hbF hg F hall hBB
    obtain ⟨o, ho⟩ : ∃ o, (s != t && decide (0 < n)) = o := ⟨_, rfl⟩
    obtain ⟨ln, hl⟩ : ∃ ln, (lims 10 n).length = ln := ⟨_, rfl⟩
    rw [ho] at HZ q0
    rw [hl] at HV q1
    clear ho hl
    go_wp2
    refine bodyPost_ret (v := .agg #[.bool o, .slice a ln c]) (by simp [results, Tryz.results24, go_sem, q0, q1]) rfl ⟨ZIs.of (DecIs.mono HV.out (by omega)) HZ.out.2 HZ.out.1, HBF.out⟩
  case step =>
    rintro listed x w' i ⟨u, rfl, F⟩ hi hn hd
    have h6 : i = 0 ∨ i = 1 ∨ i = 2 ∨ i = 3 ∨ i = 4 ∨ i = 5 ∨ i = 6 ∨ i = 7 ∨ i = 8 ∨ i = 9 ∨ i = 10 ∨ i = 11 := by
      have : i < 12 := hi
      omega
    rcases h6 with rfl | rfl | rfl | rfl | rfl | rfl | rfl | rfl | rfl | rfl | rfl | rfl
    · have hI := F.inv (F.not 0 (by decide) hn)
      obtain ⟨x0, x1, -⟩ := cells_two (hX.below hI)
      obtain ⟨y0, y1, -⟩ := cells_two (hY.below hI)
      refine wpOp_by rfl rfl (fun K hK => ?_)
      go_simp
      exact hK _ _ ⟨_, by simp [upd, timS], F.put 0 hst (by decide) (by unfold timS; omega) hn (Below.refl _ _) hI rfl⟩
    · have hI := F.inv (F.not 1 (by decide) hn)
      obtain ⟨x0, x1, -⟩ := cells_two (hX.below hI)
      obtain ⟨y0, y1, -⟩ := cells_two (hY.below hI)
      have e0 : u 5 = _ := F.got 0 (by decide) 1 hn (by decide) (hd _ rfl ⟨0, .data⟩ (by simp) rfl)
      refine wpOp_by rfl rfl (fun K hK => ?_)
      go_simp
      exact hK _ _ ⟨_, by simp [upd, timS, e0], F.put 1 hst (by decide) (by unfold timS; omega) hn (Below.refl _ _) hI rfl⟩
    · have hI := F.inv (F.not 2 (by decide) hn)
      obtain ⟨x0, x1, -⟩ := cells_two (hX.below hI)
      obtain ⟨y0, y1, -⟩ := cells_two (hY.below hI)
      refine wpOp_by rfl rfl (fun K hK => ?_)
      go_simp
      exact hK _ _ ⟨_, by simp [upd, timS], F.put 2 hst (by decide) (by unfold timS; omega) hn (Below.refl _ _) hI rfl⟩
    · have hI := F.inv (F.not 3 (by decide) hn)
      obtain ⟨x0, x1, -⟩ := cells_two (hX.below hI)
      obtain ⟨y0, y1, -⟩ := cells_two (hY.below hI)
      have e2 : u 7 = _ := F.got 2 (by decide) 3 hn (by decide) (hd _ rfl ⟨2, .data⟩ (by simp) rfl)
      refine wpOp_by rfl rfl (fun K hK => ?_)
      go_simp
      exact hK _ _ ⟨_, by simp [upd, timS, e2], F.put 3 hst (by decide) (by unfold timS; omega) hn (Below.refl _ _) hI rfl⟩
    · have hI := F.inv (F.not 4 (by decide) hn)
      obtain ⟨x0, x1, -⟩ := cells_two (hX.below hI)
      obtain ⟨y0, y1, -⟩ := cells_two (hY.below hI)
      have e1 : u 6 = _ := F.got 1 (by decide) 4 hn (by decide) (hd _ rfl ⟨1, .data⟩ (by simp) rfl)
      have e3 : u 8 = _ := F.got 3 (by decide) 4 hn (by decide) (hd _ rfl ⟨3, .data⟩ (by simp) rfl)
      refine wpOp_by rfl rfl (fun K hK => ?_)
      go_simp
      exact hK _ _ ⟨_, by simp [upd, timS, e1, e3]; cases s <;> cases t <;> rfl, F.put 4 hst (by decide) (by unfold timS; omega) hn (Below.refl _ _) hI rfl⟩
    · have hI := F.inv (F.not 5 (by decide) hn)
      obtain ⟨x0, x1, -⟩ := cells_two (hX.below hI)
      obtain ⟨y0, y1, -⟩ := cells_two (hY.below hI)
      refine wpOp_by rfl rfl (fun K hK => ?_)
      go_simp
      exact hK _ _ ⟨_, by simp [upd, timS], F.put 5 hst (by decide) (by unfold timS; omega) hn (Below.refl _ _) hI rfl⟩
    · have hI := F.inv (F.not 6 (by decide) hn)
      obtain ⟨x0, x1, -⟩ := cells_two (hX.below hI)
      obtain ⟨y0, y1, -⟩ := cells_two (hY.below hI)
      have e5 : u 10 = _ := F.got 5 (by decide) 6 hn (by decide) (hd _ rfl ⟨5, .data⟩ (by simp) rfl)
      refine wpOp_by rfl rfl (fun K hK => ?_)
      go_simp
      exact hK _ _ ⟨_, by simp [upd, timS, e5], F.put 6 hst (by decide) (by unfold timS; omega) hn (Below.refl _ _) hI rfl⟩
    · have hI := F.inv (F.not 7 (by decide) hn)
      obtain ⟨x0, x1, -⟩ := cells_two (hX.below hI)
      obtain ⟨y0, y1, -⟩ := cells_two (hY.below hI)
      refine wpOp_by rfl rfl (fun K hK => ?_)
      go_simp
      exact hK _ _ ⟨_, by simp [upd, timS], F.put 7 hst (by decide) (by unfold timS; omega) hn (Below.refl _ _) hI rfl⟩
    · have hI := F.inv (F.not 8 (by decide) hn)
      obtain ⟨x0, x1, -⟩ := cells_two (hX.below hI)
      obtain ⟨y0, y1, -⟩ := cells_two (hY.below hI)
      have e7 : u 12 = _ := F.got 7 (by decide) 8 hn (by decide) (hd _ rfl ⟨7, .data⟩ (by simp) rfl)
      refine wpOp_by rfl rfl (fun K hK => ?_)
      go_simp
      exact hK _ _ ⟨_, by simp [upd, timS, e7], F.put 8 hst (by decide) (by unfold timS; omega) hn (Below.refl _ _) hI rfl⟩
    · have hI := F.inv (F.not 9 (by decide) hn)
      obtain ⟨x0, x1, -⟩ := cells_two (hX.below hI)
      obtain ⟨y0, y1, -⟩ := cells_two (hY.below hI)
      have e6 : u 11 = _ := F.got 6 (by decide) 9 hn (by decide) (hd _ rfl ⟨6, .data⟩ (by simp) rfl)
      have e8 : u 13 = _ := F.got 8 (by decide) 9 hn (by decide) (hd _ rfl ⟨8, .data⟩ (by simp) rfl)
      refine wpOp_by rfl rfl (fun K hK => ?_)
      go_simp
      refine (rtimes_any B1 B2 m k _ _ _ (HA1.out _ hI) (HB1.out _ hI) (by rw [HLV.out]; exact hla) (by rw [HLU.out]; exact hlb)).mono ?_
      rintro e w1 ⟨⟨v, rfl, hv⟩, hb1⟩
      rw [hn0] at hv
      obtain ⟨a, c, rfl⟩ := hv.slice
      exact hK _ _ ⟨_, by simp [upd, timS, e6, e8], F.put 9 hst (by decide) (by unfold timS; omega) hn hb1 (hI.trans (hb1.mono hI.size)) ⟨a, c, rfl, DecIs.mono hv hI.size⟩⟩
    · have hI := F.inv (F.not 10 (by decide) hn)
      obtain ⟨x0, x1, -⟩ := cells_two (hX.below hI)
      obtain ⟨y0, y1, -⟩ := cells_two (hY.below hI)
      have e4 : u 9 = _ := F.got 4 (by decide) 10 hn (by decide) (hd _ rfl ⟨4, .data⟩ (by simp) rfl)
      obtain ⟨a9, c9, e9, d9⟩ := F.got 9 (by decide) 10 hn (by decide) (hd _ rfl ⟨9, .data⟩ (by simp) rfl)
      have e9 : u 14 = _ := e9
      refine wpOp_by rfl rfl (fun K hK => ?_)
      go_simp
      refine (num_len n c9 a9 (s != t) _).mono ?_
      rintro e w1 ⟨rfl, hb1⟩
      exact hK _ _ ⟨_, by simp [upd, timS, e4, e9], F.put 10 hst (by decide) (by unfold timS; omega) hn hb1 (hI.trans (hb1.mono hI.size)) ⟨a9, c9, rfl, d9.kept hb1⟩⟩
    · have hI := F.inv (F.not 11 (by decide) hn)
      obtain ⟨x0, x1, -⟩ := cells_two (hX.below hI)
      obtain ⟨y0, y1, -⟩ := cells_two (hY.below hI)
      obtain ⟨a10, c10, e10, d10⟩ := F.got 10 (by decide) 11 hn (by decide) (hd _ rfl ⟨10, .data⟩ (by simp) rfl)
      have e10 : u 15 = _ := e10
      have hRw := hR.below hI
      obtain ⟨q0, q1, q2, q3⟩ := cells_two hRw
      have hap := d10.notNum hRw
      refine wpOp_by rfl rfl (fun K hK => ?_)
      go_simp
      refine hK _ _ ⟨u, by simp [e10], F.last hn (fun i hi => ?_) (fun _ => ⟨_, hRw.put2 _ _, (d10.apart hap 0 _).apart hap 1 _, ((hBB.trans (hI.mono (by omega))).setCell (p := ⟨w.heap.size + 2, 0, none⟩) (show w.heap.size ≤ w.heap.size + 2 by omega) _).setCell (p := ⟨w.heap.size + 2, 1, none⟩) (show w.heap.size ≤ w.heap.size + 2 by omega) _⟩)⟩
      have : i = 0 ∨ i = 1 ∨ i = 2 ∨ i = 3 ∨ i = 4 ∨ i = 5 ∨ i = 6 ∨ i = 7 ∨ i = 8 ∨ i = 9 ∨ i = 10 := by omega
      rcases this with rfl | rfl | rfl | rfl | rfl | rfl | rfl | rfl | rfl | rfl | rfl
      · exact hd _ rfl ⟨0, .phase⟩ (by simp) rfl
      · exact hd _ rfl ⟨1, .phase⟩ (by simp) rfl
      · exact hd _ rfl ⟨2, .phase⟩ (by simp) rfl
      · exact hd _ rfl ⟨3, .phase⟩ (by simp) rfl
      · exact hd _ rfl ⟨4, .phase⟩ (by simp) rfl
      · exact hd _ rfl ⟨5, .phase⟩ (by simp) rfl
      · exact hd _ rfl ⟨6, .phase⟩ (by simp) rfl
      · exact hd _ rfl ⟨7, .phase⟩ (by simp) rfl
      · exact hd _ rfl ⟨8, .phase⟩ (by simp) rfl
      · exact hd _ rfl ⟨9, .phase⟩ (by simp) rfl
      · exact hd _ rfl ⟨10, .phase⟩ (by simp) rfl
end Go.Proofs.YtmnibfdenmeepaaGreatDoor
