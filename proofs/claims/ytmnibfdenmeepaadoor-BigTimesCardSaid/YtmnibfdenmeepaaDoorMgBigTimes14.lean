/- The texts Comb RegInv Shr Shl RWhole RTim RDivz RTwo RDivm Abs RegTwo, one behind the other. -/
import Derived.Test.YtmnibfdenmeepaaDoorMgBigTimes13
import Derived.StillTailTactics
/- combined of the program. -/
namespace Go.Proofs.YtmnibfdenmeepaaDoor
open Go.RowKit Go.Shelf Big

/-- A function value that puts two words together. -/
def DoesW (K : FuncId) (g : Nat → Nat → Nat) : Prop :=
  (∀ args w, (callFunc K args).run Tryd.prog w = .ok (.enter K args) w) ∧
  ∀ (x y : Nat) (w : World), x < 4294967296 → y < 4294967296 → Calls Tryd.prog K #[.int .u32 (x : Int), .int .u32 (y : Int)] w fun e w' => e = .returned (.int .u32 (g x y : Int)) ∧ w = w'
theorem doesW_and : DoesW 101 gA := ⟨enters_of Tryd.func101 (by kernel_rfl) rfl, fun x y w hx hy => by
  have h := bits_and x y hx hy
  have H := Lib.hid h
  go_enter Tryd.func101, Tryd.ntmps101
  go_wp2
  go_ret
  exact ⟨rfl, rfl⟩⟩
theorem doesW_or : DoesW 102 gO := ⟨enters_of Tryd.func102 (by kernel_rfl) rfl, fun x y w hx hy => by
  have h := bits_or x y hx hy
  go_enter Tryd.func102, Tryd.ntmps102
  go_wp2
  go_ret
  exact ⟨rfl, rfl⟩⟩
theorem doesW_xor : DoesW 103 gX := ⟨enters_of Tryd.func103 (by kernel_rfl) rfl, fun x y w hx hy => by
  have h := bits_xor x y hx hy
  go_enter Tryd.func103, Tryd.ntmps103
  go_wp2
  go_ret
  exact ⟨rfl, rfl⟩⟩

set_option maxRecDepth 100000 in
set_option maxHeartbeats 4000000 in
theorem comb_any (K : FuncId) (f : Nat → Nat → Nat) (hK : DoesW K f) (B1 B2 g1 g2 n : Nat) (a b : List Nat) (w : World) (ha : RowIs w B1 g1 n a) (hb : RowIs w B2 g2 n b) (hla : a.length = n) (hlb : b.length = n) (hsa : Small a) (hsb : Small b) (hn : n ≤ 1000) :
    Calls Tryd.prog 125 #[.slice (some ⟨g1, 0, none⟩) n n, .slice (some ⟨g2, 0, none⟩) n n, .func (.func K) #[] #[]] w fun e w' => e = .returned (.slice (some ⟨w.heap.size, 0, none⟩) n n) ∧ RowIs w' w.heap.size w.heap.size n (zw f a b) ∧ Below w.heap.size w w' := by
  obtain ⟨hE, hC⟩ := hK
  have HC := Lib.hid hC
  have hmk := umake_any n (by omega)
  have hrow := RowIs.made w w.heap.size n (Nat.le_refl _) (by omega)
  have hb0 : Below w.heap.size w (w.alloc (.cells (noughts n) 75)) := (Below.refl _ w).alloc (Nat.le_refl _) _
  have HA := Lib.hid ha
  have HB := Lib.hid hb
  clear hC ha hb
  go_enter Tryd.func125, Tryd.ntmps125
  go_wp2_with fail
  clear hmk
  go_loopg [14] n (fun gh v wx => ∃ (i : Nat) (od : List Nat), v = .int .i64 (i : Int) ∧ i + gh = n ∧ od.length = n ∧ od.take i = (zw f a b).take i ∧ RowIs wx w.heap.size w.heap.size n od ∧ Below w.heap.size w wx)
  case atStart => exact ⟨0, List.replicate n 0, rfl, by omega, by simp, by rw [List.take_zero, List.take_zero], hrow, hb0⟩
  case round =>
    obtain ⟨i, od, rfl, hik, hol, hot, hR, hBx⟩ := hrel
    by_cases hi : i < n
    · have hia : i < a.length := by omega
      have hib : i < b.length := by omega
      have c1 := (RowIs.cell (own_below HA.out hBx : RowIs _ _ _ _ _) i hia)
      have c2 := (RowIs.cell (own_below HB.out hBx : RowIs _ _ _ _ _) i hib)
      have hfo := hR.free i
      have hco := hR.cell i (by omega)
      generalize od[i] = o9 at hco
      have hx2 : a[i] < 4294967296 := hsa _ (List.getElem_mem hia)
      have hy2 : b[i] < 4294967296 := hsb _ (List.getElem_mem hib)
      have hnx := (RowIs.drew hR).put i (f a[i] b[i])
      have hzl := zw_len f (a := a) (b := b) (by omega)
      have hz : (zw f a b)[i]'(by omega) = f a[i] b[i] := by unfold zw; rw [List.getElem_zipWith]
      have HTk := Lib.hid (show (od.set i (f a[i] b[i])).take (i + 1) = (zw f a b).take (i + 1) by
        rw [List.take_succ_eq_append_getElem (by rw [List.length_set]; omega), List.take_succ_eq_append_getElem (by omega), List.getElem_set_self, hz, List.take_set_of_le (Nat.le_refl _), hot])
      obtain ⟨x, hxe⟩ : ∃ x, a[i] = x := ⟨_, rfl⟩
      obtain ⟨y, hye⟩ : ∃ y, b[i] = y := ⟨_, rfl⟩
      rw [hxe] at c1 hx2 hnx HTk
      rw [hye] at c2 hy2 hnx HTk
      have hiI : (i : Int) < (n : Int) := by omega
      have hi0 : (0 : Int) ≤ (i : Int) := by omega
      have HNX := Lib.hid hnx
      have HBX := Lib.hid (hBx.drew.setCell (p := ⟨w.heap.size, i, none⟩) (Nat.le_refl _) (.int .u32 (f x y : Int)))
      have HCW := Lib.hid (fun W => (HC.out x y W hx2 hy2).mono fun e w'' h => And.intro h.1 h.2.symm)
      have HLS := Lib.hid (show (od.set i (f x y)).length = n by rw [List.length_set]; exact hol)
      obtain ⟨G, rfl⟩ : ∃ G, gk = G + 1 := ⟨gk - 1, by omega⟩
      clear hrow hb0 hnx hBx hR hxe hye hz hot hzl hsa hsb hol
      go_wp2_with fail
      go_still_tail 13, (by kernel_rfl)
      still_call (HCW.out _)
      repeat still_step
      refine wpStill_nil ?_
      change wpList _ _ _ _ _ wr.drew
      have hco' : wr.drew.cell? ⟨w.heap.size, i, none⟩ = some (.int .u32 (o9 : Int)) := hco
      have hfo' : wr.drew.frozen? ⟨w.heap.size, i, none⟩ = false := hfo
      go_wp2
      go_roundg G
      case measure => omega
      case rel => exact ⟨i + 1, _, by go_num, by omega, HLS.out, HTk.out, HNX.out, HBX.out⟩
    · obtain rfl : i = n := by omega
      have hi1 : ¬ (i : Int) < (i : Int) := by omega
      have hzl := zw_len f (a := a) (b := b) (by omega)
      have he : od = zw f a b := by
        rw [List.take_of_length_le (by omega), List.take_of_length_le (by omega)] at hot
        exact hot
      subst he
      have HR := Lib.hid hR
      have HBX := Lib.hid hBx
      clear hR hBx hot hrow hb0
      go_wp2
      go_ret
      exact ⟨rfl, HR.out, HBX.out⟩
end Go.Proofs.YtmnibfdenmeepaaDoor
/- A region that draws its order, whose last operations write what others have given. -/
namespace Go.Proofs.YtmnibfdenmeepaaDoor
open Go.RowKit Go.Shelf Big

/-- Up to operation n: Pr i of the slot s i, once i has come; from n on: Fin, by what has come. -/
structure RegInv (I : World → Prop) (n : Nat) (s : Nat → Nat) (Pr : Nat → Value → World → Prop) (Fin : (Nat → Bool) → (Nat → Value) → World → Prop) (L : Nat → Bool) (u : Nat → Value) (w' : World) : Prop where
  inv : L n = false → I w'
  each : ∀ i, i < n → L n = false → L i = true → Pr i (u (s i)) w'
  fin : L n = true → Fin L u w'
  all : L n = true → ∀ i, i < n → L i = true
  aft : ∀ j, n < j → L j = true → L n = true
theorem RegInv.start {I : World → Prop} {n : Nat} {s : Nat → Nat} {Pr : Nat → Value → World → Prop} {Fin : (Nat → Bool) → (Nat → Value) → World → Prop} {L : Nat → Bool} {u : Nat → Value} {w : World} (h : ∀ i, L i = false) (hI : I w) : RegInv I n s Pr Fin L u w :=
  ⟨fun _ => hI, fun i _ _ h1 => (by rw [h i] at h1; cases h1), fun h1 => (by rw [h n] at h1; cases h1), fun h1 => (by rw [h n] at h1; cases h1), fun j _ h1 => (by rw [h j] at h1; cases h1)⟩
theorem RegInv.not {I : World → Prop} {w1 : World} {n : Nat} {s : Nat → Nat} {Pr : Nat → Value → World → Prop} {Fin : (Nat → Bool) → (Nat → Value) → World → Prop} {L : Array Bool} {u : Nat → Value} (F : RegInv I n s Pr Fin (fun j => L.getD j false) u w1) (k : Nat) (hkn : k ≤ n) (hk : L.getD k true = false) : L.getD n false = false := by
  cases h1 : L.getD n false with
  | false => rfl
  | true =>
    rcases Nat.lt_or_ge k n with h2 | h2
    · have h3 := F.all h1 k h2
      have h4 := false_of hk
      rw [h4] at h3
      cases h3
    · obtain rfl : k = n := by omega
      have h4 := false_of hk
      rw [h4] at h1
      cases h1
theorem RegInv.got {I : World → Prop} {w1 : World} {n : Nat} {s : Nat → Nat} {Pr : Nat → Value → World → Prop} {Fin : (Nat → Bool) → (Nat → Value) → World → Prop} {L : Array Bool} {u : Nat → Value} (F : RegInv I n s Pr Fin (fun j => L.getD j false) u w1) (i : Nat) (hi : i < n) (k : Nat) (hk : L.getD k true = false) (hkn : k ≤ n) (h : L.getD i false = true) : Pr i (u (s i)) w1 :=
  F.each i hi (F.not k hkn hk) h
theorem RegInv.put {I : World → Prop} {w1 w2 : World} {n : Nat} {s : Nat → Nat} {Pr : Nat → Value → World → Prop} {Fin : (Nat → Bool) → (Nat → Value) → World → Prop} {L : Array Bool} {u : Nat → Value} {x : Value} (i : Nat) (F : RegInv I n s Pr Fin (fun j => L.getD j false) u w1)
    (hst : Stays n Pr) (hi : i < n) (hs : ∀ j, j < n → j ≠ i → s j ≠ s i) (hnl : L.getD i true = false) (hb : Below w1.heap.size w1 w2) (hI : I w2) (hx : Pr i x w2) :
    RegInv I n s Pr Fin (fun j => (L.setIfInBounds i true).getD j false) (upd u (s i) x) w2 := by
  have hln := F.not i (Nat.le_of_lt hi) hnl
  have hset : ∀ j, j ≠ i → (L.setIfInBounds i true).getD j false = L.getD j false := fun j hj => by
    simp only [Array.getD_eq_getD_getElem?]
    rw [Array.getElem?_setIfInBounds_ne (by omega)]
  have hn' := (hset n (by omega)).trans hln
  refine ⟨fun _ => hI, fun j hj _ h1 => ?_, fun h => ?_, fun h => ?_, fun j hj h => ?_⟩
  · by_cases e : j = i
    · subst e
      rw [upd_eq]
      exact hx
    · rw [upd_ne (hs j hj e)]
      rcases set_true h1 with h | h
      · exact absurd h e
      · exact hst j _ _ _ hj hb (F.each j hj hln h)
  · rw [hn'] at h; cases h
  · rw [hn'] at h; cases h
  · rw [hset j (by omega)] at h
    have := F.aft j hj h
    rw [hln] at this
    cases this
/-- Operation n comes. -/
theorem RegInv.last {I : World → Prop} {w1 w2 : World} {n : Nat} {s : Nat → Nat} {Pr : Nat → Value → World → Prop} {Fin : (Nat → Bool) → (Nat → Value) → World → Prop} {L : Array Bool} {u u' : Nat → Value} (F : RegInv I n s Pr Fin (fun j => L.getD j false) u w1) (hnl : L.getD n true = false)
    (hall : ∀ i, i < n → L.getD i false = true) (hx : (∀ j, n < j → (L.setIfInBounds n true).getD j false = false) → Fin (fun j => (L.setIfInBounds n true).getD j false) u' w2) : RegInv I n s Pr Fin (fun j => (L.setIfInBounds n true).getD j false) u' w2 := by
  have hlt : n < L.size := by
    rcases Nat.lt_or_ge n L.size with h | h
    · exact h
    · simp [Array.getD, Nat.not_lt.2 h] at hnl
  have hln := F.not n (Nat.le_refl _) hnl
  have hset : ∀ j, j ≠ n → (L.setIfInBounds n true).getD j false = L.getD j false := fun j hj => by
    simp only [Array.getD_eq_getD_getElem?]
    rw [Array.getElem?_setIfInBounds_ne (by omega)]
  have hyes : (L.setIfInBounds n true).getD n false = true := by
    simp [Array.getD_eq_getD_getElem?, hlt]
  refine ⟨fun h => ?_, fun j _ h => ?_, fun _ => hx (fun j hj => ?_), fun _ i hi => ?_, fun j _ _ => hyes⟩
  · rw [hyes] at h; cases h
  · rw [hyes] at h; cases h
  · rw [hset j (by omega)]
    cases h : L.getD j false with
    | false => rfl
    | true => have := F.aft j hj h; rw [hln] at this; cases this
  · rw [hset i (by omega)]
    exact hall i hi
/-- An operation behind n comes. -/
theorem RegInv.post {I : World → Prop} {w1 w2 : World} {n : Nat} {s : Nat → Nat} {Pr : Nat → Value → World → Prop} {Fin : (Nat → Bool) → (Nat → Value) → World → Prop} {L : Array Bool} {u u' : Nat → Value} (m : Nat) (F : RegInv I n s Pr Fin (fun j => L.getD j false) u w1) (hm : n < m)
    (hn : L.getD n false = true) (hx : Fin (fun j => (L.setIfInBounds m true).getD j false) u' w2) : RegInv I n s Pr Fin (fun j => (L.setIfInBounds m true).getD j false) u' w2 := by
  have hset : ∀ j, j ≠ m → (L.setIfInBounds m true).getD j false = L.getD j false := fun j hj => by
    simp only [Array.getD_eq_getD_getElem?]
    rw [Array.getElem?_setIfInBounds_ne (by omega)]
  have hn' := (hset n (by omega)).trans hn
  refine ⟨fun h => ?_, fun j _ h => ?_, fun _ => hx, fun _ i hi => ?_, fun j _ _ => hn'⟩
  · rw [hn'] at h; cases h
  · rw [hn'] at h; cases h
  · rw [hset i (by omega)]
    exact F.all hn i hi
theorem RowIs.mono {w : World} {B B' g cap : Nat} {ds : List Nat} (h : RowIs w B g cap ds) (hb : B' ≤ B) : RowIs w B' g cap ds := by
  refine ⟨h.1, ?_⟩
  rcases h.2 with hn | ⟨g', cap', cur, e, h1, hg, h3⟩
  · exact .inl hn
  · exact .inr ⟨g', cap', cur, e, Nat.le_trans hb h1, hg, h3⟩
end Go.Proofs.YtmnibfdenmeepaaDoor
/- nat.right of the program. -/
namespace Go.Proofs.YtmnibfdenmeepaaDoor
open Go.RowKit Go.Shelf Big

theorem bits_or64 (x y : Nat) (hx : x < 18446744073709551616) (hy : y < 18446744073709551616) : bits .or .u64 (x : Int) (y : Int) = ((x ||| y : Nat) : Int) :=
  (bits_nat .u64 64 (by decide) (fun n h0 h1 => wraps_u64 n h0 h1) x y hx hy).2
theorem or_word2 (r d : Nat) (hr : r < 4294967296) (hd : d < 4294967296) : bits BinOp.or IntKind.u64 (d : Int) ((r : Int) * 4294967296) = ((r * 4294967296 + d : Nat) : Int) := by
  have e : (r : Int) * 4294967296 = ((r * 4294967296 : Nat) : Int) := by omega
  have h := or_word r d hr hd
  rw [e] at h ⊢
  rw [bits_or64 _ _ (by omega) (by omega)] at h ⊢
  rw [Nat.or_comm]
  exact h
theorem shr_digit (m q s i : Nat) (hs : s < 32) : (m / 4294967296 ^ (q + i) % 4294967296 + m / 4294967296 ^ (q + i + 1) % 4294967296 * 4294967296) / 2 ^ s % 4294967296 = m / 2 ^ (32 * q + s) / 4294967296 ^ i % 4294967296 := by
  have e1 : m / 2 ^ (32 * q + s) / 4294967296 ^ i = m / 4294967296 ^ (q + i) / 2 ^ s := by
    rw [Nat.div_div_eq_div_mul, Nat.div_div_eq_div_mul, Nat.pow_add, Nat.pow_mul, Nat.pow_add, show (2 : Nat) ^ 32 = 4294967296 by decide, Nat.mul_assoc, Nat.mul_assoc, Nat.mul_comm (2 ^ s)]
  have e2 : m / 4294967296 ^ (q + i + 1) = m / 4294967296 ^ (q + i) / 4294967296 := by rw [Nat.div_div_eq_div_mul, ← Nat.pow_succ]
  rw [e1, e2]
  generalize m / 4294967296 ^ (q + i) = x
  have e3 : x % 4294967296 + x / 4294967296 % 4294967296 * 4294967296 = x % 18446744073709551616 := by omega
  rw [e3, show (18446744073709551616 : Nat) = 2 ^ s * (2 ^ (32 - s) * 4294967296) by
    rw [← Nat.mul_assoc, ← Nat.pow_add, show s + (32 - s) = 32 by omega]]
  rw [Nat.mod_mul_right_div_self, Nat.mod_mul_left_mod]

theorem shr_op (T s : Nat) (hs : s < 32) : Op.shift .shr .u64 (T : Int) .u64 (s : Int) = pure (.int .u64 ((T / 2 ^ s : Nat) : Int)) := by
  rw [shift_shr _ _ _ _ (by omega) (by show (s : Int) ≤ ((64 : Nat) : Int); omega), Int.toNat_natCast]
  simp
theorem shr_step {od : List Nat} {i r M : Nat} (hp : i < od.length) (he : ev 4294967296 (od.take i) = M % 4294967296 ^ i) (hr : r = M / 4294967296 ^ i % 4294967296) : ev 4294967296 ((od.set i r).take (i + 1)) = M % 4294967296 ^ (i + 1) := by
  rw [ev_take_succ, List.take_set_of_le (Nat.le_refl _), he, List.getD_eq_getElem?_getD, List.getElem?_set_self hp, Option.getD_some, hr, Nat.pow_succ, Nat.mod_mul]

set_option maxRecDepth 100000 in
set_option maxHeartbeats 4000000 in
theorem shr_by (B1 m q s : Nat) (va : Value) (w : World) (ha : NatIs w B1 va m) (hla : (lims 4294967296 m).length ≤ 100000) (hs : s < 32) (hq : q ≤ 100000) :
    Calls Tryd.prog 99 #[va, .int .u64 ((32 * q + s : Nat) : Int)] w fun e w' => (∃ v, e = .returned v ∧ NatIs w' w.heap.size v (m / 2 ^ (32 * q + s))) ∧ Below w.heap.size w w' := by
  obtain ⟨ao, ca, rfl, ra⟩ := ha.reads hla
  have HBig := Lib.hid ((lims_len_le w32_ge m (lims 4294967296 m).length).1 (Nat.le_refl _))
  have HG := Lib.hid (fun j => shr_digit m q s j hs)
  revert ra hla HBig
  generalize (lims 4294967296 m).length = la
  intro hla ra HBig
  clear ha
  obtain ⟨n, hn⟩ : ∃ n, 32 * q + s = n := ⟨_, rfl⟩
  rw [hn] at HG ⊢
  have hq1 : (n : Int) / 32 = (q : Int) := by omega
  have hs1 : (n : Int) % 32 = (s : Int) := by omega
  have hnI : (n : Int) < 9223372036854775808 := by omega
  have hnI2 : (n : Int) < 18446744073709551616 := by omega
  have HN := Lib.hid hn
  by_cases hc : la ≤ q
  · have hcI : (q : Int) ≥ (la : Int) := by omega
    have hz : m / 2 ^ n = 0 := by
      refine Nat.div_eq_of_lt (Nat.lt_of_lt_of_le HBig.out ?_)
      rw [show (4294967296 : Nat) = 2 ^ 32 by decide, ← Nat.pow_mul]
      exact Nat.pow_le_pow_right (by decide) (by omega)
    rw [hz]
    clear hn ra
    go_enter Tryd.func99, Tryd.ntmps99
    go_wp2
    go_ret
    refine ⟨⟨_, rfl, ?_⟩, Below.refl _ _⟩
    unfold NatIs
    rw [lims_zero]
    exact World.ownsRow_nil _ _ _ _
  obtain ⟨l, hl⟩ : ∃ l, la = q + l := ⟨la - q, by omega⟩
  have hcI : ¬ ((q : Int) ≥ (la : Int)) := by omega
  have hsub : (la : Int) - (q : Int) = (l : Int) := by omega
  have hmk : ∀ W, (Instr.makeSlice 44 (.int .i64 (l : Int)) (.int .i64 (l : Int))).run Tryd.prog W = .ok (.slice (some ⟨W.heap.size, 0, none⟩) l l) (W.alloc (.cells (noughts l) 75)) := make_any _ _ l l rfl rfl (by omega) (by omega)
  have hrow := RowIs.made w w.heap.size l (Nat.le_refl _) (by omega)
  have hb0 : Below w.heap.size w (w.alloc (.cells (noughts l) 75)) := (Below.refl _ w).alloc (Nat.le_refl _) _
  have HHI := Lib.hid (show m / 2 ^ n < 4294967296 ^ l by
    rw [Nat.div_lt_iff_lt_mul (Nat.pow_pos (by decide))]
    refine Nat.lt_of_lt_of_le HBig.out ?_
    rw [hl, Nat.pow_add, Nat.mul_comm]
    refine Nat.mul_le_mul_left _ ?_
    rw [show (4294967296 : Nat) = 2 ^ 32 by decide, ← Nat.pow_mul]
    exact Nat.pow_le_pow_right (by decide) (by omega))
  obtain ⟨M, hM⟩ : ∃ M, m / 2 ^ n = M := ⟨_, rfl⟩
  rw [hM] at HHI HG ⊢
  have HL := Lib.hid hl
  clear hn hM hl
  go_enter Tryd.func99, Tryd.ntmps99
  go_wp2
  clear hmk
  go_loopg [23] l (fun g v23 wx => ∃ (i : Nat) (od : List Nat), v23 = .int .i64 (i : Int) ∧ i + g = l ∧ od.length = l ∧ Small od ∧ RowIs wx w.heap.size w.heap.size l od ∧ ev 4294967296 (od.take i) = M % 4294967296 ^ i ∧ Below w.heap.size w wx)
  case atStart =>
    exact ⟨0, _, rfl, by omega, by simp, small_zeros _, hrow, by simp [ev, Nat.mod_one], hb0⟩
  case round =>
    obtain ⟨i, od, rfl, hi, hod, hsm, hRw, he, hB⟩ := hrel
    have Hod := Lib.hid hod
    have HSm := Lib.hid hsm
    have He := Lib.hid he
    clear hod hsm he
    cases gk with
    | zero =>
      obtain rfl : i = l := by omega
      have he : ev 4294967296 od = M := by
        have h := He.out
        rw [List.take_of_length_le (by rw [Hod.out]; exact Nat.le_refl _), Nat.mod_eq_of_lt HHI.out] at h
        exact h
      have hrow2 := hRw.row
      have hcut := cut_any w.heap.size _ od wr hrow2 HSm.out (by rw [Hod.out]; omega)
      rw [Hod.out, he] at hcut
      clear he ra
      go_wp2_with (go_at_call 91; refine hcut.mono ?_; rintro e w2 ⟨⟨v', rfl, hnat⟩, rfl⟩; obtain ⟨ao', c1, rfl⟩ := hnat.slice)
      go_ret
      exact ⟨⟨_, rfl, hnat⟩, hB⟩
    | succ g =>
      have hil : i < l := by omega
      have hiI : (i : Int) < (l : Int) := by omega
      have hla2 := HL.out
      obtain ⟨ga, rfl, hga, hca⟩ := ra.2.1 (q + i) (by omega)
      obtain ⟨x, hx⟩ : ∃ x, m / 4294967296 ^ (q + i) % 4294967296 = x := ⟨_, rfl⟩
      have hdig := HG.out i
      rw [hx] at hca hdig
      have hx2 : x < 4294967296 := by rw [← hx]; exact Nat.mod_lt _ (by decide)
      have hca2 := (hB.cell (p := ⟨ga, q + i, none⟩) hga).trans hca
      have hpl : i < od.length := by rw [Hod.out]; exact hil
      have hfo := hRw.free i
      have hco := hRw.cell i hpl
      obtain ⟨o, ho⟩ : ∃ o, od[i] = o := ⟨_, rfl⟩
      rw [ho] at hco
      clear ho
      obtain ⟨p, hpe⟩ : ∃ p, q + i = p := ⟨_, rfl⟩
      rw [hpe] at hca2 hdig
      have hsum : (q : Int) + (i : Int) = (p : Int) := by omega
      have hpI : (p : Int) < (la : Int) := by omega
      have hpb : p ≤ 200000 := by omega
      have hpb1 : ((p : Int) + 1) = ((p + 1 : Nat) : Int) := by omega
      obtain ⟨y, hy⟩ : ∃ y, m / 4294967296 ^ (p + 1) % 4294967296 = y := ⟨_, rfl⟩
      have hy2 : y < 4294967296 := by rw [← hy]; exact Nat.mod_lt _ (by decide)
      rw [hy] at hdig
      by_cases h2 : p + 1 < la
      · obtain ⟨ga', he', hga', hcb⟩ := ra.2.1 (p + 1) h2
        cases he'
        rw [hy] at hcb
        have hcb2 := (hB.cell (p := ⟨ga, p + 1, none⟩) hga').trans hcb
        obtain ⟨P, hP⟩ : ∃ P, p + 1 = P := ⟨_, rfl⟩
        rw [hP] at hcb2 hpb1
        have hPI : (P : Int) < (la : Int) := by omega
        have hor := or_word2 y x hy2 hx2
        have hT2 : y * 4294967296 + x < 18446744073709551616 := by omega
        obtain ⟨T, hT⟩ : ∃ T, y * 4294967296 + x = T := ⟨_, rfl⟩
        rw [hT] at hor hT2
        rw [show x + y * 4294967296 = T by omega] at hdig
        have hTI : (T : Int) < 18446744073709551616 := by omega
        have hyI : (y : Int) < 4294967296 := by omega
        have hxI : (x : Int) < 4294967296 := by omega
        have HDig := Lib.hid hdig
        clear hx hca hy hcb ra h2 hP hT hpe hT2 hdig hla2 hil hpb hx2 hy2 hga hga' hc hq
        clear hsub hq1 hcI hrow hb0
        obtain ⟨R, hRe⟩ : ∃ R, T / 2 ^ s = R := ⟨_, rfl⟩
        have hop := shr_op T s hs
        rw [hRe] at hop
        have hop2 : (T : Int) / 2 ^ s = (R : Int) := by rw [← hRe]; simp
        have hR64 : (R : Int) < 18446744073709551616 := by
          have := Nat.div_le_self T (2 ^ s)
          omega
        obtain ⟨r, hr⟩ : ∃ r, R % 4294967296 = r := ⟨_, rfl⟩
        have hmi : (R : Int) % 4294967296 = (r : Int) := by omega
        have hr2 : r < 4294967296 := by omega
        have HSt := Lib.hid (show ev 4294967296 ((od.set i r).take (i + 1)) = M % 4294967296 ^ (i + 1) from by
          have h := HDig.out
          rw [hRe, hr] at h
          exact shr_step hpl He.out h)
        have HPt := Lib.hid (hRw.put i r)
        have HBt := Lib.hid (hB.setCell (p := ⟨w.heap.size, i, none⟩) (Nat.le_refl _) (.int .u32 (r : Int)))
        clear hRe hr hRw hB hpl
        go_wp2_with fail
        go_roundg g
        case measure => omega
        case rel => exact ⟨i + 1, od.set i r, by go_num, by omega, by rw [List.length_set]; exact Hod.out, small_set HSm.out i r hr2, HPt.out, HSt.out, HBt.out⟩
      · have hy0 : y = 0 := by
          rw [← hy]
          refine ra.2.2 (p + 1) (by omega)
        rw [hy0, Nat.zero_mul, Nat.add_zero] at hdig
        have hPI : ¬ ((p : Int) + 1 < (la : Int)) := by omega
        have hTI : (x : Int) < 18446744073709551616 := by omega
        have hxI : (x : Int) < 4294967296 := by omega
        have HDig := Lib.hid hdig
        clear hx hca hy hy0 ra h2 hpe hdig hla2 hil hpb hx2 hy2 hga hc hq hpb1
        clear hsub hq1 hcI hrow hb0
        obtain ⟨T, rfl⟩ : ∃ T, T = x := ⟨_, rfl⟩
        obtain ⟨R, hRe⟩ : ∃ R, T / 2 ^ s = R := ⟨_, rfl⟩
        have hop := shr_op T s hs
        rw [hRe] at hop
        have hop2 : (T : Int) / 2 ^ s = (R : Int) := by rw [← hRe]; simp
        have hR64 : (R : Int) < 18446744073709551616 := by
          have := Nat.div_le_self T (2 ^ s)
          omega
        obtain ⟨r, hr⟩ : ∃ r, R % 4294967296 = r := ⟨_, rfl⟩
        have hmi : (R : Int) % 4294967296 = (r : Int) := by omega
        have hr2 : r < 4294967296 := by omega
        have HSt := Lib.hid (show ev 4294967296 ((od.set i r).take (i + 1)) = M % 4294967296 ^ (i + 1) from by
          have h := HDig.out
          rw [hRe, hr] at h
          exact shr_step hpl He.out h)
        have HPt := Lib.hid (hRw.put i r)
        have HBt := Lib.hid (hB.setCell (p := ⟨w.heap.size, i, none⟩) (Nat.le_refl _) (.int .u32 (r : Int)))
        clear hRe hr hRw hB hpl
        go_wp2_with fail
        go_roundg g
        case measure => omega
        case rel => exact ⟨i + 1, od.set i r, by go_num, by omega, by rw [List.length_set]; exact Hod.out, small_set HSm.out i r hr2, HPt.out, HSt.out, HBt.out⟩

theorem shr_any (B1 m n : Nat) (va : Value) (w : World) (ha : NatIs w B1 va m) (hla : (lims 4294967296 m).length ≤ 100000) (hn : n ≤ 200000) :
    Calls Tryd.prog 99 #[va, .int .u64 (n : Int)] w fun e w' => (∃ v, e = .returned v ∧ NatIs w' w.heap.size v (m / 2 ^ n)) ∧ Below w.heap.size w w' := by
  have h := shr_by B1 m (n / 32) (n % 32) va w ha hla (Nat.mod_lt _ (by decide)) (by omega)
  rw [show 32 * (n / 32) + n % 32 = n by omega] at h
  exact h
end Go.Proofs.YtmnibfdenmeepaaDoor
/- nat.left of the program. -/
namespace Go.Proofs.YtmnibfdenmeepaaDoor
open Go.RowKit Go.Shelf Big

theorem shl_op (T s : Nat) (hs : s < 32) (hT : T < 4294967296) : Op.shift .shl .u64 (T : Int) .u64 (s : Int) = pure (.int .u64 ((T * 2 ^ s : Nat) : Int)) := by
  have h1 : T * 2 ^ s < 18446744073709551616 := by
    have h2 : 2 ^ s ≤ 2 ^ 32 := Nat.pow_le_pow_right (by decide) (by omega)
    have h3 : T * 2 ^ s ≤ 4294967296 * 2 ^ 32 := Nat.mul_le_mul (Nat.le_of_lt hT) h2
    have h4 : T * 2 ^ s ≤ 4294967295 * 2 ^ s := Nat.mul_le_mul_right _ (by omega)
    have h5 : 4294967295 * 2 ^ s ≤ 4294967295 * 2 ^ 32 := Nat.mul_le_mul_left _ h2
    have h6 : 4294967295 * 2 ^ 32 < 18446744073709551616 := by decide
    omega
  rw [shift_shl _ _ _ _ (by omega) (by show (s : Int) ≤ ((64 : Nat) : Int); omega), Int.toNat_natCast]
  have e : (T : Int) * 2 ^ s = ((T * 2 ^ s : Nat) : Int) := by simp
  rw [e, wraps_u64 _ (by omega) (by omega)]
/-- The two halves of a word moved by s places. -/
theorem shl_parts (d s : Nat) (hs : s < 32) (hd : d < 4294967296) : d * 2 ^ s % 4294967296 + 2 ^ s ≤ 4294967296 ∧ d * 2 ^ s / 4294967296 < 2 ^ s ∧ 2 ^ s ∣ d * 2 ^ s % 4294967296 := by
  have hB : 4294967296 = 2 ^ s * 2 ^ (32 - s) := by rw [← Nat.pow_add, show s + (32 - s) = 32 by omega]
  have hp := Nat.two_pow_pos s
  have hm : d * 2 ^ s % 4294967296 = 2 ^ s * (d % 2 ^ (32 - s)) := by rw [hB, Nat.mul_comm d, Nat.mul_mod_mul_left]
  refine ⟨?_, ?_, ?_⟩
  · rw [hm]
    have h1 : d % 2 ^ (32 - s) + 1 ≤ 2 ^ (32 - s) := Nat.mod_lt _ (Nat.two_pow_pos _)
    have h2 := Nat.mul_le_mul_left (2 ^ s) h1
    rw [Nat.mul_add, Nat.mul_one, ← hB] at h2
    exact h2
  · rw [Nat.div_lt_iff_lt_mul (by decide), Nat.mul_comm]
    exact Nat.mul_lt_mul_of_pos_left hd hp
  · rw [hm]; exact Nat.dvd_mul_right _ _
theorem or_apart (s low o : Nat) (ho : o < 2 ^ s) (hl : 2 ^ s ∣ low) : (o ||| low) = low + o := by
  obtain ⟨k, rfl⟩ := hl
  rw [Nat.or_comm, Nat.two_pow_add_eq_or_of_lt ho]
theorem shl_step {od : List Nat} {p i q s m d low hi : Nat} (hp : p + 1 < od.length) (hpe : q + i = p) (he : ev 4294967296 od = m % 4294967296 ^ i * 2 ^ s * 4294967296 ^ q) (hd : d = m / 4294967296 ^ i % 4294967296)
    (hz : od.getD (p + 1) 0 = 0) (ht : d * 2 ^ s = low + 4294967296 * hi) :
    ev 4294967296 ((od.set p (low + od.getD p 0)).set (p + 1) hi) = m % 4294967296 ^ (i + 1) * 2 ^ s * 4294967296 ^ q := by
  have h1 := ev_set 4294967296 od p (low + od.getD p 0) (by omega)
  have h2 := ev_set 4294967296 (od.set p (low + od.getD p 0)) (p + 1) hi (by rw [List.length_set]; exact hp)
  rw [getD_set_ne (by omega), hz, Nat.mul_zero, Nat.add_zero] at h2
  rw [h2]
  rw [Nat.mul_add] at h1
  have h3 : ev 4294967296 (od.set p (low + od.getD p 0)) = ev 4294967296 od + 4294967296 ^ p * low := by omega
  rw [h3, he, Nat.pow_succ 4294967296 p, Nat.mul_assoc (4294967296 ^ p), Nat.add_assoc, ← Nat.mul_add, ← ht, Nat.pow_succ, Nat.mod_mul, ← hd, Nat.add_mul, Nat.add_mul, ← hpe, Nat.pow_add]
  congr 1
  rw [Nat.mul_comm (4294967296 ^ q), Nat.mul_assoc, Nat.mul_assoc, Nat.mul_comm (4294967296 ^ q), Nat.mul_assoc, Nat.mul_assoc (4294967296 ^ i) d]

set_option maxRecDepth 100000 in
set_option maxHeartbeats 4000000 in
theorem shl_by (B1 m q s : Nat) (va : Value) (w : World) (ha : NatIs w B1 va m) (hla : (lims 4294967296 m).length ≤ 100000) (hs : s < 32) (hq : q ≤ 100000) :
    Calls Tryd.prog 98 #[va, .int .u64 ((32 * q + s : Nat) : Int)] w fun e w' => (∃ v, e = .returned v ∧ NatIs w' w.heap.size v (m * 2 ^ (32 * q + s))) ∧ Below w.heap.size w w' := by
  obtain ⟨ao, ca, rfl, ra⟩ := ha.reads hla
  have HBig := Lib.hid ((lims_len_le w32_ge m (lims 4294967296 m).length).1 (Nat.le_refl _))
  revert ra hla HBig
  generalize (lims 4294967296 m).length = la
  intro hla ra HBig
  clear ha
  have hpow : m * 2 ^ (32 * q + s) = m * 2 ^ s * 4294967296 ^ q := by
    rw [Nat.pow_add, Nat.pow_mul, show (2 : Nat) ^ 32 = 4294967296 by decide, Nat.mul_comm (4294967296 ^ q), Nat.mul_assoc]
  rw [hpow]
  clear hpow
  obtain ⟨n, hn⟩ : ∃ n, 32 * q + s = n := ⟨_, rfl⟩
  rw [hn]
  have hq1 : (n : Int) / 32 = (q : Int) := by omega
  have hs1 : (n : Int) % 32 = (s : Int) := by omega
  have hnI : (n : Int) < 9223372036854775808 := by omega
  have hnI2 : (n : Int) < 18446744073709551616 := by omega
  clear hn
  by_cases hc : la = 0
  · subst hc
    have h0 : m = 0 := by have := HBig.out; rw [Nat.pow_zero] at this; omega
    rw [h0, Nat.zero_mul, Nat.zero_mul]
    clear ra
    go_enter Tryd.func98, Tryd.ntmps98
    go_wp2
    go_ret
    refine ⟨⟨_, rfl, ?_⟩, Below.refl _ _⟩
    unfold NatIs
    rw [lims_zero]
    exact World.ownsRow_nil _ _ _ _
  have hcI : ((la : Int) == 0) = false := by simp; omega
  obtain ⟨C, hC⟩ : ∃ C, q + la + 1 = C := ⟨_, rfl⟩
  obtain ⟨D, hD⟩ : ∃ D, q + la = D := ⟨_, rfl⟩
  have hadd : (q : Int) + (la : Int) = (D : Int) := by omega
  have hadd2 : (D : Int) + 1 = (C : Int) := by omega
  have hDC : D ≤ 200000 ∧ C ≤ 200001 := by omega
  have hmk : ∀ W, (Instr.makeSlice 44 (.int .i64 (C : Int)) (.int .i64 (C : Int))).run Tryd.prog W = .ok (.slice (some ⟨W.heap.size, 0, none⟩) C C) (W.alloc (.cells (noughts C) 75)) := make_any _ _ C C rfl rfl (by omega) (by omega)
  have hrow := RowIs.made w w.heap.size C (Nat.le_refl _) (by omega)
  have hb0 : Below w.heap.size w (w.alloc (.cells (noughts C) 75)) := (Below.refl _ w).alloc (Nat.le_refl _) _
  have HC := Lib.hid hC
  clear hC hD
  go_enter Tryd.func98, Tryd.ntmps98
  go_wp2
  clear hmk hadd hadd2
  go_loopg [22] la (fun g v22 wx => ∃ (i : Nat) (od : List Nat), v22 = .int .i64 (i : Int) ∧ i + g = la ∧ od.length = C ∧ Small od ∧ RowIs wx w.heap.size w.heap.size C od ∧ (∀ j, q + i < j → od.getD j 0 = 0) ∧ od.getD (q + i) 0 < 2 ^ s ∧ ev 4294967296 od = m % 4294967296 ^ i * 2 ^ s * 4294967296 ^ q ∧ Below w.heap.size w wx)
  case atStart =>
    have hz : ∀ j, (List.replicate C 0).getD j 0 = 0 := fun j => by
      rw [List.getD_eq_getElem?_getD, List.getElem?_replicate]
      split <;> rfl
    exact ⟨0, _, rfl, by omega, by simp, small_zeros _, hrow, fun j _ => hz j, by rw [hz]; exact Nat.two_pow_pos _, by rw [ev_replicate, Nat.pow_zero, Nat.mod_one]; simp, hb0⟩
  case round =>
    obtain ⟨i, od, rfl, hi, hod, hsm, hRw, hzs, hlt, he, hB⟩ := hrel
    have Hod := Lib.hid hod
    have HSm := Lib.hid hsm
    have HZs := Lib.hid hzs
    have He := Lib.hid he
    clear hod hsm he hzs
    cases gk with
    | zero =>
      obtain rfl : i = la := by omega
      have he : ev 4294967296 od = m * 2 ^ s * 4294967296 ^ q := by
        have h := He.out
        rw [Nat.mod_eq_of_lt HBig.out] at h
        exact h
      have hrow2 := hRw.row
      have hcut := cut_any w.heap.size _ od wr hrow2 HSm.out (by rw [Hod.out]; omega)
      rw [Hod.out, he] at hcut
      clear he ra hlt
      go_wp2_with (go_at_call 91; refine hcut.mono ?_; rintro e w2 ⟨⟨v', rfl, hnat⟩, rfl⟩; obtain ⟨ao', c1, rfl⟩ := hnat.slice)
      go_ret
      exact ⟨⟨_, rfl, hnat⟩, hB⟩
    | succ g =>
      have hil : i < la := by omega
      have hiI : (i : Int) < (la : Int) := by omega
      have hC2 := HC.out
      obtain ⟨ga, rfl, hga, hca⟩ := ra.2.1 i hil
      obtain ⟨d, hd⟩ : ∃ d, m / 4294967296 ^ i % 4294967296 = d := ⟨_, rfl⟩
      rw [hd] at hca
      have hd2 : d < 4294967296 := by rw [← hd]; exact Nat.mod_lt _ (by decide)
      have hca2 := (hB.cell (p := ⟨ga, i, none⟩) hga).trans hca
      obtain ⟨p, hpe⟩ : ∃ p, q + i = p := ⟨_, rfl⟩
      rw [hpe] at hlt
      have hp1 : p + 1 < od.length := by rw [Hod.out]; omega
      have hsum : (q : Int) + (i : Int) = (p : Int) := by omega
      have hpI : (p : Int) < (C : Int) := by omega
      obtain ⟨P, hP⟩ : ∃ P, p + 1 = P := ⟨_, rfl⟩
      have hpP : (p : Int) + 1 = (P : Int) := by omega
      have hPI : (P : Int) < (C : Int) := by omega
      obtain ⟨k1, k2, k3⟩ := shl_parts d s hs hd2
      have hop := shl_op d s hs hd2
      have ht0 : d * 2 ^ s = d * 2 ^ s % 4294967296 + 4294967296 * (d * 2 ^ s / 4294967296) := by omega
      have hT64 : d * 2 ^ s < 18446744073709551616 := by
        have h2 : 2 ^ s ≤ 2 ^ 32 := Nat.pow_le_pow_right (by decide) (by omega)
        have : (2 : Nat) ^ 32 = 4294967296 := by decide
        omega
      obtain ⟨T, hT⟩ : ∃ T, d * 2 ^ s = T := ⟨_, rfl⟩
      obtain ⟨low, hlow⟩ : ∃ low, d * 2 ^ s % 4294967296 = low := ⟨_, rfl⟩
      obtain ⟨hi', hhi⟩ : ∃ hi', d * 2 ^ s / 4294967296 = hi' := ⟨_, rfl⟩
      rw [hlow] at k1 k3
      rw [hhi] at k2
      rw [hlow, hhi] at ht0
      rw [hT] at hlow hhi hop hT64
      have hstep := shl_step hp1 hpe He.out hd.symm (HZs.out (p + 1) (by omega)) ht0
      obtain ⟨o, ho⟩ : ∃ o, od.getD p 0 = o := ⟨_, rfl⟩
      have ho' : od[p]'(by omega) = o := by rw [← getD_of (by omega)]; exact ho
      rw [ho] at hlt hstep
      have ho2 : o + low < 4294967296 := by omega
      have hor : bits BinOp.or IntKind.u32 (o : Int) (low : Int) = ((low + o : Nat) : Int) := by
        rw [bits_or o low (by omega) (by omega), or_apart s low o hlt k3]
      have hs32 : (2 : Nat) ^ s ≤ 2 ^ 32 := Nat.pow_le_pow_right (by decide) (by omega)
      have hs32' : (2 : Nat) ^ 32 = 4294967296 := by decide
      have hhi2 : hi' < 4294967296 := by omega
      have hor2 : bits BinOp.or IntKind.u32 0 (hi' : Int) = (hi' : Int) := by
        have h := bits_or 0 hi' (by decide) hhi2
        rw [Nat.zero_or] at h
        exact h
      obtain ⟨r, hr⟩ : ∃ r, low + o = r := ⟨_, rfl⟩
      rw [hr] at hor hstep
      have hr2 : r < 4294967296 := by omega
      have hlI : (T : Int) % 4294967296 = (low : Int) := by omega
      have hhI : (T : Int) / 4294967296 = (hi' : Int) := by omega
      have hTI : (T : Int) < 18446744073709551616 := by omega
      have hlI2 : (low : Int) < 4294967296 := by omega
      have hhI2 : (hi' : Int) < 4294967296 := by omega
      rw [hP] at hstep hp1
      have hR1 := hRw.put p r
      have hco := hRw.cell p (by omega)
      rw [ho'] at hco
      have hfo := hRw.free p
      have hcP := hR1.cell P (by rw [List.length_set]; exact hp1)
      have hfP := hR1.free P
      have hz1 : (od.set p r)[P]'(by rw [List.length_set]; exact hp1) = 0 := by
        rw [← getD_of (by rw [List.length_set]; exact hp1), getD_set_ne (by omega)]
        exact HZs.out P (by omega)
      rw [hz1] at hcP
      have hcP : (wr.setCell ⟨w.heap.size, p, none⟩ (.int .u32 (r : Int))).cell? ⟨w.heap.size, P, none⟩ = some (.int .u32 0) := hcP
      have hop2 : (d : Int) * 2 ^ s = (T : Int) := by rw [← hT]; simp
      have HPt := Lib.hid (hR1.put P hi')
      have HBt := Lib.hid ((hB.setCell (p := ⟨w.heap.size, p, none⟩) (Nat.le_refl _) (.int .u32 (r : Int))).setCell (p := ⟨w.heap.size, P, none⟩) (Nat.le_refl _) (.int .u32 (hi' : Int)))
      have HSt := Lib.hid hstep
      have HZt := Lib.hid (show (∀ j, q + (i + 1) < j → ((od.set p r).set P hi').getD j 0 = 0) ∧ ((od.set p r).set P hi').getD (q + (i + 1)) 0 < 2 ^ s from by
        refine ⟨fun j hj => ?_, ?_⟩
        · rw [getD_set_ne (by omega), getD_set_ne (by omega)]
          exact HZs.out j (by omega)
        · rw [show q + (i + 1) = P by omega, getD_of (by rw [List.length_set, List.length_set]; exact hp1), List.getElem_set_self]
          exact k2)
      clear hd hca hpe hP k1 k2 k3 ht0 hT hlow hhi hT64 hstep ho ho' hlt ho2 hs32 hs32' hr hz1 hR1 hRw hB hp1 hC2 hil ra hga hq hrow hb0
      go_wp2_with fail
      go_roundg g
      case measure => omega
      case rel => exact ⟨i + 1, (od.set p r).set P hi', by go_num, by omega, by rw [List.length_set, List.length_set]; exact Hod.out, small_set (small_set HSm.out p r hr2) P hi' hhi2, HPt.out, HZt.out.1, HZt.out.2, HSt.out, HBt.out⟩

theorem shl_any (B1 m n : Nat) (va : Value) (w : World) (ha : NatIs w B1 va m) (hla : (lims 4294967296 m).length ≤ 100000) (hn : n ≤ 200000) :
    Calls Tryd.prog 98 #[va, .int .u64 (n : Int)] w fun e w' => (∃ v, e = .returned v ∧ NatIs w' w.heap.size v (m * 2 ^ n)) ∧ Below w.heap.size w w' := by
  have h := shl_by B1 m (n / 32) (n % 32) va w ha hla (Nat.mod_lt _ (by decide)) (by omega)
  rw [show 32 * (n / 32) + n % 32 = n by omega] at h
  exact h
end Go.Proofs.YtmnibfdenmeepaaDoor
/- Whole of the reference, for small numbers. -/
namespace Go.Proofs.YtmnibfdenmeepaaDoor
open Go.RowKit Go.Shelf Big

theorem ZIs.of {B n : Nat} {z : Int} {w' : World} {v : Value} (hd : DecIs w' B v n) (hz : n = z.natAbs) {b : Bool} (hb : b = decide (z < 0)) : ZIs B z w' (.returned (.agg #[.bool b, v])) := ⟨v, by rw [hb], hz ▸ hd⟩

set_option maxRecDepth 100000 in
set_option maxHeartbeats 2000000 in
theorem rWhole_any (z : Int) (h0 : -1000 ≤ z) (h1 : z ≤ 1000) (w : World) :
    Calls Tryd.prog 79 #[.int .i64 z] w fun e w' => ZIs w.heap.size z w' e ∧ Below w.heap.size w w' := by
  obtain ⟨n, hn⟩ : ∃ n, z.natAbs = n := ⟨_, rfl⟩
  obtain ⟨x, hx⟩ : ∃ x, max z (-z) = x := ⟨_, rfl⟩
  have hxn : x = (n : Int) := by omega
  have HNat := Lib.hid (fun W => natOf_any n W (by omega))
  have HL := Lib.hid (fun c av W => num_len n c av (decide (z < 0)) W)
  have HS := Lib.hid (show (decide (z < 0) && decide (0 < n)) = decide (z < 0) by
    rw [Bool.eq_iff_iff]; simp; omega)
  have HNz := Lib.hid hn
  revert HL HS
  obtain ⟨b, hb⟩ : ∃ b, decide (z < 0) = b := ⟨_, rfl⟩
  have HB := Lib.hid hb
  rw [hb]
  intro HL HS
  go_enter Tryd.func79, Tryd.ntmps79
  go_wp2_with fail
  refine (HNat.out _).mono ?_
  rintro e w1 ⟨⟨v1, rfl, hn1⟩, hb1⟩
  obtain ⟨av, c, rfl⟩ := hn1.slice
  obtain ⟨lv, hlv⟩ : ∃ lv, (lims 10 n).length = lv := ⟨_, rfl⟩
  have HLc := Lib.hid (fun W => HL.out c av W)
  rw [hlv] at HLc ⊢
  have HLV := Lib.hid hlv
  have HX1 := Lib.hid ((Has.new w 51 #[.bool false, .slice none 0 0]).below hb1)
  have HB1 := Lib.hid (Below.behind ((Below.refl _ w).alloc (Nat.le_refl _) (.cells #[.bool false, .slice none 0 0] 51)) hb1)
  rw [hlv] at hn1
  have HN1 := Lib.hid hn1
  have hz1 := hb1.size
  have hW : (w.alloc (.cells #[.bool false, .slice none 0 0] 51)).heap.size = w.heap.size + 1 := by simp
  rw [hW] at hz1 HN1
  clear hb1 hn1 HL hlv
  go_wp2_with fail
  refine (HLc.out _).mono ?_
  rintro e w2 ⟨rfl, hb2⟩
  rw [HS.out]
  have hX2 := HX1.out.below hb2
  obtain ⟨q0, q1, q2, q3⟩ := cells_two hX2
  have HB2 := Lib.hid (Below.behind HB1.out hb2)
  have HN2 := Lib.hid (HN1.out.kept hb2)
  clear hb2 hX2
  go_wp2
  refine bodyPost_ret (v := .agg #[.bool b, .slice av lv c]) (by simp [results, Tryd.results79, go_sem, World.cell?_setCell_same', q0, q1]) rfl ⟨ZIs.of (n := n) ?_ HNz.out.symm HB.out.symm, Below.two HB2.out (Nat.le_refl _) _ _⟩
  exact DecIs.mono ((HN2.out.apart (HN2.out.new (by omega)) 0 _).apart (HN2.out.new (by omega)) 1 _) (by omega)
end Go.Proofs.YtmnibfdenmeepaaDoor
/- Times of the reference. -/
namespace Go.Proofs.YtmnibfdenmeepaaDoor
open Go.RowKit Go.Shelf Big

theorem times_z {s t : Bool} {m k : Nat} : ((s != t) && decide (0 < m * k)) = decide (sgI s m * sgI t k < 0) ∧ m * k = (sgI s m * sgI t k).natAbs := by
  have hm : ((m * k : Nat) : Int) = (m : Int) * (k : Int) := by simp
  generalize hP : m * k = P at *
  constructor
  · unfold sgI
    cases s <;> cases t <;> simp [Int.neg_mul, Int.mul_neg, ← hm] <;> omega
  · unfold sgI
    cases s <;> cases t <;> simp [Int.neg_mul, Int.mul_neg, ← hm]
/-- Values laid in a cell's block stay apart from a struct's block. -/
theorem DecIs.notNum {w : World} {B n g : Nat} {v : Value} {cs : Array Value} (h : DecIs w B v n) (hx : Has w g 51 cs) : ∀ b, v.ownBlock = some b → b ≠ g := by
  intro b hb e
  subst e
  rcases h.2 with ⟨rfl, _⟩ | ⟨g', cap, cur, rfl, h2, h3, _⟩
  · cases hb
  · have : g' = b := by
      have h : some g' = some b := hb
      injection h
    subst this
    have h4 : some (Obj.cells cur 3) = some (Obj.cells cs 51) := h3.symm.trans hx
    injection h4 with h5
    injection h5 with _ h6
    exact absurd h6 (by decide)
def timS : Nat → Nat := fun i => i + 5
def timPr (b : Nat) (W0 : World) (s t : Bool) (lv lu : Nat) (av bv : Option Addr) (ca cb : Nat) (n : Nat) : Nat → Value → World → Prop
  | 0, v, _ => v = .pointer (some ⟨b, 0, none⟩)
  | 1, v, _ => v = .bool s
  | 2, v, _ => v = .pointer (some ⟨b + 1, 0, none⟩)
  | 3, v, _ => v = .bool t
  | 4, v, _ => v = .bool (s != t)
  | 5, v, _ => v = .pointer (some ⟨b, 1, none⟩)
  | 6, v, _ => v = .slice av lv ca
  | 7, v, _ => v = .pointer (some ⟨b + 1, 1, none⟩)
  | 8, v, _ => v = .slice bv lu cb
  | 9, v, w => ∃ a c, v = .slice a (lims 10 n).length c ∧ DecIs w W0.heap.size (.slice a (lims 10 n).length c) n
  | _, v, w => ∃ a c, v = .agg #[.bool ((s != t) && decide (0 < n)), .slice a (lims 10 n).length c] ∧ DecIs w W0.heap.size (.slice a (lims 10 n).length c) n
theorem timPr_stays (b : Nat) (W0 : World) (s t : Bool) (lv lu : Nat) (av bv : Option Addr) (ca cb : Nat) (n : Nat) : Stays 11 (timPr b W0 s t lv lu av bv ca cb n) := by
  intro i v w w' hi hb h
  match i, h with
  | 0, h => exact h
  | 1, h => exact h
  | 2, h => exact h
  | 3, h => exact h
  | 4, h => exact h
  | 5, h => exact h
  | 6, h => exact h
  | 7, h => exact h
  | 8, h => exact h
  | 9, h => obtain ⟨a, c, e, hd⟩ := h; exact ⟨a, c, e, hd.kept hb⟩
  | 10, h => obtain ⟨a, c, e, hd⟩ := h; exact ⟨a, c, e, hd.kept hb⟩
  | n + 11, _ => omega
def timFin (b : Nat) (W0 : World) (s t : Bool) (n : Nat) (w0 w : World) : Prop := ∃ v, Has w (b + 2) 51 #[.bool ((s != t) && decide (0 < n)), v] ∧ DecIs w W0.heap.size v n ∧ Below w0.heap.size w0 w
set_option maxRecDepth 100000 in
set_option maxHeartbeats 4000000 in
theorem rTimes_any (B1 B2 m k : Nat) (va vb : Value) (s t : Bool) (w : World) (ha : DecIs w B1 va m) (hb : DecIs w B2 vb k) (hla : (lims 10 m).length ≤ 1000000) (hlb : (lims 10 k).length ≤ 1000000) :
    Calls Tryd.prog 69 #[.agg #[.bool s, va], .agg #[.bool t, vb]] w fun e w' => ZIs w.heap.size (sgI s m * sgI t k) w' e ∧ Below w.heap.size w w' := by
  have HA := Lib.hid ha
  have HB := Lib.hid hb
  obtain ⟨av, ca, rfl⟩ := ha.slice
  obtain ⟨bv, cb, rfl⟩ := hb.slice
  obtain ⟨lv, hlv⟩ : ∃ lv, (lims 10 m).length = lv := ⟨_, rfl⟩
  obtain ⟨lu, hlu⟩ : ∃ lu, (lims 10 k).length = lu := ⟨_, rfl⟩
  rw [hlv] at HA hla ⊢
  rw [hlu] at HB hlb ⊢
  have HLV := Lib.hid hlv
  have HLU := Lib.hid hlu
  clear ha hb hlv hlu
  go_enter Tryd.func69, Tryd.ntmps69
  go_wp2_with fail
  obtain ⟨W0, hW0⟩ : ∃ W0, ((w.alloc (.cells #[.bool s, .slice av lv ca] 51)).alloc (.cells #[.bool t, .slice bv lu cb] 51)).alloc (.cells #[.bool false, .slice none 0 0] 51) = W0 := ⟨_, rfl⟩
  rw [hW0]
  have hz0 : W0.heap.size = w.heap.size + 3 := by rw [← hW0]; simp
  have hA0 : DecIs W0 B1 (.slice av lv ca) m := by rw [← hW0]; exact ((HA.out.alloc _).alloc _).alloc _
  have hB0 : DecIs W0 B2 (.slice bv lu cb) k := by rw [← hW0]; exact ((HB.out.alloc _).alloc _).alloc _
  have hX : Has W0 w.heap.size 51 #[.bool s, .slice av lv ca] := by rw [← hW0]; exact ((Has.new w _ _).alloc _).alloc _
  have hY : Has W0 (w.heap.size + 1) 51 #[.bool t, .slice bv lu cb] := by rw [← hW0]; exact (Has.new' (n := w.heap.size + 1) (by simp) _ _).alloc _
  have hR : Has W0 (w.heap.size + 2) 51 #[.bool false, .slice none 0 0] := by rw [← hW0]; exact Has.new' (n := w.heap.size + 2) (by simp) _ _
  have hBB : Below w.heap.size w W0 := by rw [← hW0]; exact (((Below.refl _ w).alloc (Nat.le_refl _) _).alloc (by simp) _).alloc (by simp; omega) _
  clear hW0
  have HA1 := Lib.hid (fun W (h : Below W0.heap.size W0 W) => hA0.kept h)
  have HB1 := Lib.hid (fun W (h : Below W0.heap.size W0 W) => hB0.kept h)
  clear hA0 hB0
  obtain ⟨n, hn0⟩ : ∃ n, m * k = n := ⟨_, rfl⟩
  have hst := timPr_stays w.heap.size W0 s t lv lu av bv ca cb n
  refine wp_region_inv (Inv := fun listed x w' => ∃ u, x = { tmps := #[.agg #[.bool s, .slice av lv ca], .agg #[.bool t, .slice bv lu cb], .pointer (some ⟨w.heap.size, 0, none⟩), .pointer (some ⟨w.heap.size + 1, 0, none⟩), .pointer (some ⟨w.heap.size + 2, 0, none⟩), u 5, u 6, u 7, u 8, u 9, u 10, u 11, u 12, u 13, u 14, u 15], defers := [] } ∧ RegInv (Below W0.heap.size W0) 11 timS (timPr w.heap.size W0 s t lv lu av bv ca cb n) (fun _ _ w' => timFin w.heap.size W0 s t n w w') (fun i => listed.getD i false) u w') (by kernel_rfl) (ord_of (by kernel_rfl)) ?h0 ?step ?fin
  case h0 => exact ⟨fun _ => undef, rfl, RegInv.start (none_listed _) (Below.refl _ _).drew⟩
  case fin =>
    rintro listed x w' ⟨u, rfl, F⟩ hall
    obtain ⟨v, hg, hv, hbF⟩ := F.fin (hall 11 (by decide))
    obtain ⟨q0, q1, -⟩ := cells_two hg
    obtain ⟨a, c, rfl⟩ := hv.slice
    have HV := Lib.hid hv
    have HBF := Lib.hid hbF
    have hzz := times_z (s := s) (t := t) (m := m) (k := k)
    rw [hn0] at hzz
    have HZ := Lib.hid hzz
    clear hzz
    clear hv hbF hg F hall hBB
    obtain ⟨o, ho⟩ : ∃ o, (s != t && decide (0 < n)) = o := ⟨_, rfl⟩
    obtain ⟨ln, hl⟩ : ∃ ln, (lims 10 n).length = ln := ⟨_, rfl⟩
    rw [ho] at HZ q0
    rw [hl] at HV q1
    clear ho hl
    go_wp2
    refine bodyPost_ret (v := .agg #[.bool o, .slice a ln c]) (by simp [results, Tryd.results69, go_sem, q0, q1]) rfl ⟨ZIs.of (DecIs.mono HV.out (by omega)) HZ.out.2 HZ.out.1, HBF.out⟩
  case step =>
    rintro listed x w' i ⟨u, rfl, F⟩ hi hn hd
    have h6 : i = 0 ∨ i = 1 ∨ i = 2 ∨ i = 3 ∨ i = 4 ∨ i = 5 ∨ i = 6 ∨ i = 7 ∨ i = 8 ∨ i = 9 ∨ i = 10 ∨ i = 11 := by
      have : i < 12 := hi
      omega
    rcases h6 with rfl | rfl | rfl | rfl | rfl | rfl | rfl | rfl | rfl | rfl | rfl | rfl
    · have hI := F.inv (F.not 0 (by decide) hn)
      obtain ⟨x0, x1, -⟩ := cells_two (hX.below hI)
      obtain ⟨y0, y1, -⟩ := cells_two (hY.below hI)
      refine wpOp_by rfl rfl (fun K hK => ?_)
      go_simp
      exact hK _ _ ⟨_, by simp [upd, timS], F.put 0 hst (by decide) (by unfold timS; omega) hn (Below.refl _ _) hI rfl⟩
    · have hI := F.inv (F.not 1 (by decide) hn)
      obtain ⟨x0, x1, -⟩ := cells_two (hX.below hI)
      obtain ⟨y0, y1, -⟩ := cells_two (hY.below hI)
      have e0 : u 5 = _ := F.got 0 (by decide) 1 hn (by decide) (hd _ rfl ⟨0, .data⟩ (by simp) rfl)
      refine wpOp_by rfl rfl (fun K hK => ?_)
      go_simp
      exact hK _ _ ⟨_, by simp [upd, timS, e0], F.put 1 hst (by decide) (by unfold timS; omega) hn (Below.refl _ _) hI rfl⟩
    · have hI := F.inv (F.not 2 (by decide) hn)
      obtain ⟨x0, x1, -⟩ := cells_two (hX.below hI)
      obtain ⟨y0, y1, -⟩ := cells_two (hY.below hI)
      refine wpOp_by rfl rfl (fun K hK => ?_)
      go_simp
      exact hK _ _ ⟨_, by simp [upd, timS], F.put 2 hst (by decide) (by unfold timS; omega) hn (Below.refl _ _) hI rfl⟩
    · have hI := F.inv (F.not 3 (by decide) hn)
      obtain ⟨x0, x1, -⟩ := cells_two (hX.below hI)
      obtain ⟨y0, y1, -⟩ := cells_two (hY.below hI)
      have e2 : u 7 = _ := F.got 2 (by decide) 3 hn (by decide) (hd _ rfl ⟨2, .data⟩ (by simp) rfl)
      refine wpOp_by rfl rfl (fun K hK => ?_)
      go_simp
      exact hK _ _ ⟨_, by simp [upd, timS, e2], F.put 3 hst (by decide) (by unfold timS; omega) hn (Below.refl _ _) hI rfl⟩
    · have hI := F.inv (F.not 4 (by decide) hn)
      obtain ⟨x0, x1, -⟩ := cells_two (hX.below hI)
      obtain ⟨y0, y1, -⟩ := cells_two (hY.below hI)
      have e1 : u 6 = _ := F.got 1 (by decide) 4 hn (by decide) (hd _ rfl ⟨1, .data⟩ (by simp) rfl)
      have e3 : u 8 = _ := F.got 3 (by decide) 4 hn (by decide) (hd _ rfl ⟨3, .data⟩ (by simp) rfl)
      refine wpOp_by rfl rfl (fun K hK => ?_)
      go_simp
      exact hK _ _ ⟨_, by simp [upd, timS, e1, e3]; cases s <;> cases t <;> rfl, F.put 4 hst (by decide) (by unfold timS; omega) hn (Below.refl _ _) hI rfl⟩
    · have hI := F.inv (F.not 5 (by decide) hn)
      obtain ⟨x0, x1, -⟩ := cells_two (hX.below hI)
      obtain ⟨y0, y1, -⟩ := cells_two (hY.below hI)
      refine wpOp_by rfl rfl (fun K hK => ?_)
      go_simp
      exact hK _ _ ⟨_, by simp [upd, timS], F.put 5 hst (by decide) (by unfold timS; omega) hn (Below.refl _ _) hI rfl⟩
    · have hI := F.inv (F.not 6 (by decide) hn)
      obtain ⟨x0, x1, -⟩ := cells_two (hX.below hI)
      obtain ⟨y0, y1, -⟩ := cells_two (hY.below hI)
      have e5 : u 10 = _ := F.got 5 (by decide) 6 hn (by decide) (hd _ rfl ⟨5, .data⟩ (by simp) rfl)
      refine wpOp_by rfl rfl (fun K hK => ?_)
      go_simp
      exact hK _ _ ⟨_, by simp [upd, timS, e5], F.put 6 hst (by decide) (by unfold timS; omega) hn (Below.refl _ _) hI rfl⟩
    · have hI := F.inv (F.not 7 (by decide) hn)
      obtain ⟨x0, x1, -⟩ := cells_two (hX.below hI)
      obtain ⟨y0, y1, -⟩ := cells_two (hY.below hI)
      refine wpOp_by rfl rfl (fun K hK => ?_)
      go_simp
      exact hK _ _ ⟨_, by simp [upd, timS], F.put 7 hst (by decide) (by unfold timS; omega) hn (Below.refl _ _) hI rfl⟩
    · have hI := F.inv (F.not 8 (by decide) hn)
      obtain ⟨x0, x1, -⟩ := cells_two (hX.below hI)
      obtain ⟨y0, y1, -⟩ := cells_two (hY.below hI)
      have e7 : u 12 = _ := F.got 7 (by decide) 8 hn (by decide) (hd _ rfl ⟨7, .data⟩ (by simp) rfl)
      refine wpOp_by rfl rfl (fun K hK => ?_)
      go_simp
      exact hK _ _ ⟨_, by simp [upd, timS, e7], F.put 8 hst (by decide) (by unfold timS; omega) hn (Below.refl _ _) hI rfl⟩
    · have hI := F.inv (F.not 9 (by decide) hn)
      obtain ⟨x0, x1, -⟩ := cells_two (hX.below hI)
      obtain ⟨y0, y1, -⟩ := cells_two (hY.below hI)
      have e6 : u 11 = _ := F.got 6 (by decide) 9 hn (by decide) (hd _ rfl ⟨6, .data⟩ (by simp) rfl)
      have e8 : u 13 = _ := F.got 8 (by decide) 9 hn (by decide) (hd _ rfl ⟨8, .data⟩ (by simp) rfl)
      refine wpOp_by rfl rfl (fun K hK => ?_)
      go_simp
      refine (rtimes_any B1 B2 m k _ _ _ (HA1.out _ hI) (HB1.out _ hI) (by rw [HLV.out]; exact hla) (by rw [HLU.out]; exact hlb)).mono ?_
      rintro e w1 ⟨⟨v, rfl, hv⟩, hb1⟩
      rw [hn0] at hv
      obtain ⟨a, c, rfl⟩ := hv.slice
      exact hK _ _ ⟨_, by simp [upd, timS, e6, e8], F.put 9 hst (by decide) (by unfold timS; omega) hn hb1 (hI.trans (hb1.mono hI.size)) ⟨a, c, rfl, DecIs.mono hv hI.size⟩⟩
    · have hI := F.inv (F.not 10 (by decide) hn)
      obtain ⟨x0, x1, -⟩ := cells_two (hX.below hI)
      obtain ⟨y0, y1, -⟩ := cells_two (hY.below hI)
      have e4 : u 9 = _ := F.got 4 (by decide) 10 hn (by decide) (hd _ rfl ⟨4, .data⟩ (by simp) rfl)
      obtain ⟨a9, c9, e9, d9⟩ := F.got 9 (by decide) 10 hn (by decide) (hd _ rfl ⟨9, .data⟩ (by simp) rfl)
      have e9 : u 14 = _ := e9
      refine wpOp_by rfl rfl (fun K hK => ?_)
      go_simp
      refine (num_len n c9 a9 (s != t) _).mono ?_
      rintro e w1 ⟨rfl, hb1⟩
      exact hK _ _ ⟨_, by simp [upd, timS, e4, e9], F.put 10 hst (by decide) (by unfold timS; omega) hn hb1 (hI.trans (hb1.mono hI.size)) ⟨a9, c9, rfl, d9.kept hb1⟩⟩
    · have hI := F.inv (F.not 11 (by decide) hn)
      obtain ⟨x0, x1, -⟩ := cells_two (hX.below hI)
      obtain ⟨y0, y1, -⟩ := cells_two (hY.below hI)
      obtain ⟨a10, c10, e10, d10⟩ := F.got 10 (by decide) 11 hn (by decide) (hd _ rfl ⟨10, .data⟩ (by simp) rfl)
      have e10 : u 15 = _ := e10
      have hRw := hR.below hI
      obtain ⟨q0, q1, q2, q3⟩ := cells_two hRw
      have hap := d10.notNum hRw
      refine wpOp_by rfl rfl (fun K hK => ?_)
      go_simp
      refine hK _ _ ⟨u, by simp [e10], F.last hn (fun i hi => ?_) (fun _ => ⟨_, hRw.put2 _ _, (d10.apart hap 0 _).apart hap 1 _, ((hBB.trans (hI.mono (by omega))).setCell (p := ⟨w.heap.size + 2, 0, none⟩) (show w.heap.size ≤ w.heap.size + 2 by omega) _).setCell (p := ⟨w.heap.size + 2, 1, none⟩) (show w.heap.size ≤ w.heap.size + 2 by omega) _⟩)⟩
      have : i = 0 ∨ i = 1 ∨ i = 2 ∨ i = 3 ∨ i = 4 ∨ i = 5 ∨ i = 6 ∨ i = 7 ∨ i = 8 ∨ i = 9 ∨ i = 10 := by omega
      rcases this with rfl | rfl | rfl | rfl | rfl | rfl | rfl | rfl | rfl | rfl | rfl
      · exact hd _ rfl ⟨0, .phase⟩ (by simp) rfl
      · exact hd _ rfl ⟨1, .phase⟩ (by simp) rfl
      · exact hd _ rfl ⟨2, .phase⟩ (by simp) rfl
      · exact hd _ rfl ⟨3, .phase⟩ (by simp) rfl
      · exact hd _ rfl ⟨4, .phase⟩ (by simp) rfl
      · exact hd _ rfl ⟨5, .phase⟩ (by simp) rfl
      · exact hd _ rfl ⟨6, .phase⟩ (by simp) rfl
      · exact hd _ rfl ⟨7, .phase⟩ (by simp) rfl
      · exact hd _ rfl ⟨8, .phase⟩ (by simp) rfl
      · exact hd _ rfl ⟨9, .phase⟩ (by simp) rfl
      · exact hd _ rfl ⟨10, .phase⟩ (by simp) rfl
end Go.Proofs.YtmnibfdenmeepaaDoor
/- Divided of the reference. -/
namespace Go.Proofs.YtmnibfdenmeepaaDoor
open Go.RowKit Go.Shelf Big

/-- The quotient, rounded down. -/
def divQ (s t : Bool) (m k : Nat) : Int := if (s != t) = true ∧ 0 < m % k then sgI (s != t) (m / k) + -1 else sgI (s != t) (m / k)
def DivdRes (B : Nat) (s t : Bool) (m k : Nat) (w' : World) (e : Ending) : Prop :=
  ∃ v1 v2, e = .returned (.tuple #[.agg #[.bool (decide (divQ s t m k < 0)), v1], .agg #[.bool (decide (sgI s m - divQ s t m k * sgI t k < 0)), v2]]) ∧ DecIs w' B v1 (divQ s t m k).natAbs ∧ DecIs w' B v2 (sgI s m - divQ s t m k * sgI t k).natAbs
def dv4S : Nat → Nat := fun i => i + 34
def dv4Pr (W0 : World) (o : Bool) (lq : Nat) (aq : Option Addr) (cq : Nat) (Q : Int) : Nat → Value → World → Prop
  | 0, v, _ => v = .agg #[.bool o, .slice aq lq cq]
  | 1, v, w => ∃ a l c, v = .agg #[.bool true, .slice a l c] ∧ DecIs w W0.heap.size (.slice a l c) 1
  | _, v, w => ∃ a l c, v = .agg #[.bool (decide (Q < 0)), .slice a l c] ∧ DecIs w W0.heap.size (.slice a l c) Q.natAbs
theorem dv4Pr_stays (W0 : World) (o : Bool) (lq : Nat) (aq : Option Addr) (cq : Nat) (Q : Int) : Stays 3 (dv4Pr W0 o lq aq cq Q) := by
  intro i v w w' hi hb h
  match i, h with
  | 0, h => exact h
  | 1, h => obtain ⟨a, l, c, e, hd⟩ := h; exact ⟨a, l, c, e, hd.kept hb⟩
  | 2, h => obtain ⟨a, l, c, e, hd⟩ := h; exact ⟨a, l, c, e, hd.kept hb⟩
  | n + 3, _ => omega
/-- A number in a block of its own. -/
def BoxZ (W0 : World) (g : Nat) (Q : Int) (w : World) : Prop := ∃ a l c, Has w g 51 #[.bool (decide (Q < 0)), .slice a l c] ∧ DecIs w W0.heap.size (.slice a l c) Q.natAbs ∧ Below W0.heap.size W0 w
theorem sgI_abs (x : Bool) (d : Nat) : (sgI x d).natAbs = d := by unfold sgI; cases x <;> simp
theorem sgI_pos_and (x : Bool) (d : Nat) : sgI (x && decide (0 < d)) d = sgI x d := by
  unfold sgI
  cases x <;> rcases Nat.eq_zero_or_pos d with h | h <;> simp [h]
theorem neg_one {w : World} {B : Nat} {v : Value} (h : DecIs w B v (-1 : Int).natAbs) : DecIs w B v 1 := h
theorem len_mul {a b p q : Nat} (ha : (lims 10 a).length ≤ p) (hb : (lims 10 b).length ≤ q) : (lims 10 (a * b)).length ≤ p + q := by
  refine (lims_len_le ten_ge (a * b) (p + q)).2 ?_
  rw [Nat.pow_add]
  exact Nat.mul_lt_mul'' ((lims_len_le ten_ge a p).1 ha) ((lims_len_le ten_ge b q).1 hb)
theorem sgI_self (z : Int) : sgI (decide (z < 0)) z.natAbs = z := by
  unfold sgI
  split
  · rename_i h; have h := of_decide_eq_true h; omega
  · rename_i h; have h : ¬ z < 0 := fun h2 => h (decide_eq_true h2); omega
def dv5S : Nat → Nat := fun i => i + 37
def dv5Pr (W0 : World) (s t : Bool) (lv lu lq : Nat) (av bv aq : Option Addr) (ca cb cq : Nat) (Q P R : Int) : Nat → Value → World → Prop
  | 0, v, _ => v = .agg #[.bool (decide (Q < 0)), .slice aq lq cq]
  | 1, v, _ => v = .agg #[.bool s, .slice av lv ca]
  | 2, v, _ => v = .agg #[.bool (decide (Q < 0)), .slice aq lq cq]
  | 3, v, _ => v = .agg #[.bool t, .slice bv lu cb]
  | 4, v, w => ∃ a c, v = .agg #[.bool (decide (P < 0)), .slice a (lims 10 P.natAbs).length c] ∧ DecIs w W0.heap.size (.slice a (lims 10 P.natAbs).length c) P.natAbs
  | 5, v, w => ∃ a c, v = .agg #[.bool (!decide (P < 0) && decide (0 < P.natAbs)), .slice a (lims 10 P.natAbs).length c] ∧ DecIs w W0.heap.size (.slice a (lims 10 P.natAbs).length c) P.natAbs
  | _, v, w => ∃ a l c, v = .agg #[.bool (decide (R < 0)), .slice a l c] ∧ DecIs w W0.heap.size (.slice a l c) R.natAbs
theorem dv5Pr_stays (W0 : World) (s t : Bool) (lv lu lq : Nat) (av bv aq : Option Addr) (ca cb cq : Nat) (Q P R : Int) : Stays 7 (dv5Pr W0 s t lv lu lq av bv aq ca cb cq Q P R) := by
  intro i v w w' hi hb h
  match i, h with
  | 0, h => exact h
  | 1, h => exact h
  | 2, h => exact h
  | 3, h => exact h
  | 4, h => obtain ⟨a, c, e, hd⟩ := h; exact ⟨a, c, e, hd.kept hb⟩
  | 5, h => obtain ⟨a, c, e, hd⟩ := h; exact ⟨a, c, e, hd.kept hb⟩
  | 6, h => obtain ⟨a, l, c, e, hd⟩ := h; exact ⟨a, l, c, e, hd.kept hb⟩
  | n + 7, _ => omega
theorem set_keep {L : Array Bool} {i j : Nat} (h : L.getD j false = true) : (L.setIfInBounds i true).getD j false = true := by
  by_cases e : i = j
  · subst e
    have hlt : i < L.size := by
      rcases Nat.lt_or_ge i L.size with h1 | h1
      · exact h1
      · simp [Array.getD_eq_getD_getElem?, Array.getElem?_eq_none h1] at h
    simp [Array.getD_eq_getD_getElem?, hlt]
  · simp only [Array.getD_eq_getD_getElem?] at h ⊢
    rwa [Array.getElem?_setIfInBounds_ne e]
/-- What has come up is closed under what it asks. -/
def Cd (L : Nat → Bool) : Prop := (L 4 = true → L 2 = true ∧ L 3 = true) ∧ (L 5 = true → L 4 = true) ∧ (L 6 = true → L 1 = true ∧ L 5 = true)
theorem Cd.set {L : Array Bool} (h : Cd (fun i => L.getD i false)) (i : Nat) (h4 : i = 4 → L.getD 2 false = true ∧ L.getD 3 false = true) (h5 : i = 5 → L.getD 4 false = true) (h6 : i = 6 → L.getD 1 false = true ∧ L.getD 5 false = true) :
    Cd (fun j => (L.setIfInBounds i true).getD j false) := by
  refine ⟨fun hj => ?_, fun hj => ?_, fun hj => ?_⟩
  · have e : L.getD 2 false = true ∧ L.getD 3 false = true := by
      rcases set_true hj with e | e
      · exact h4 e.symm
      · exact h.1 e
    exact ⟨set_keep e.1, set_keep e.2⟩
  · have e : L.getD 4 false = true := by
      rcases set_true hj with e | e
      · exact h5 e.symm
      · exact h.2.1 e
    exact set_keep e
  · have e : L.getD 1 false = true ∧ L.getD 5 false = true := by
      rcases set_true hj with e | e
      · exact h6 e.symm
      · exact h.2.2 e
    exact ⟨set_keep e.1, set_keep e.2⟩
def dv5Mid (b : Nat) (w0 W0 : World) (lq : Nat) (aq : Option Addr) (cq : Nat) (Q R : Int) (u : Nat → Value) (w : World) : Prop :=
  ∃ a l c, u 43 = .agg #[.bool (decide (R < 0)), .slice a l c] ∧ DecIs w W0.heap.size (.slice a l c) R.natAbs ∧ DecIs w W0.heap.size (.slice aq lq cq) Q.natAbs ∧ Has w (b + 2) 51 #[.bool (decide (Q < 0)), .slice aq lq cq] ∧ Has w (b + 3) 51 #[.bool false, .slice none 0 0] ∧ Below b w0 w
def dv5Done (b : Nat) (w0 W0 : World) (lq : Nat) (aq : Option Addr) (cq : Nat) (Q R : Int) (w : World) : Prop :=
  ∃ a l c, DecIs w W0.heap.size (.slice a l c) R.natAbs ∧ DecIs w W0.heap.size (.slice aq lq cq) Q.natAbs ∧ Has w (b + 2) 51 #[.bool (decide (Q < 0)), .slice aq lq cq] ∧ Has w (b + 3) 51 #[.bool (decide (R < 0)), .slice a l c] ∧ Below b w0 w
set_option maxRecDepth 100000 in
set_option maxHeartbeats 4000000 in
theorem rDivided_any (B1 B2 m k : Nat) (va vb : Value) (s t : Bool) (w : World) (ha : DecIs w B1 va m) (hb : DecIs w B2 vb k) (hk : 0 < k) (hla : (lims 10 m).length ≤ 100000) (hlb : (lims 10 k).length ≤ 100000) :
    Calls Tryd.prog 72 #[.agg #[.bool s, va], .agg #[.bool t, vb]] w fun e w' => DivdRes w.heap.size s t m k w' e ∧ Below w.heap.size w w' := by
  have HA := Lib.hid ha
  have HB := Lib.hid hb
  obtain ⟨av, ca, rfl⟩ := ha.slice
  obtain ⟨bv, cb, rfl⟩ := hb.slice
  obtain ⟨lv, hlv⟩ : ∃ lv, (lims 10 m).length = lv := ⟨_, rfl⟩
  obtain ⟨lu, hlu⟩ : ∃ lu, (lims 10 k).length = lu := ⟨_, rfl⟩
  rw [hlv] at HA hla ⊢
  rw [hlu] at HB hlb ⊢
  have HLV := Lib.hid hlv
  have HLU := Lib.hid hlu
  clear ha hb hlv hlu
  obtain ⟨Q, hQ0⟩ : ∃ Q, divQ s t m k = Q := ⟨_, rfl⟩
  obtain ⟨d, hd0⟩ : ∃ d, m / k = d := ⟨_, rfl⟩
  obtain ⟨r, hr0⟩ : ∃ r, m % k = r := ⟨_, rfl⟩
  obtain ⟨x, hx⟩ : ∃ x, (s != t) = x := ⟨_, rfl⟩
  have HQQ := Lib.hid (show Q = if x = true ∧ 0 < r then sgI x d + -1 else sgI x d by rw [← hQ0, ← hr0, ← hd0, ← hx]; rfl)
  have HDK := Lib.hid (show d ≤ m by rw [← hd0]; exact Nat.div_le_self _ _)
  unfold DivdRes
  rw [hQ0]
  obtain ⟨P, hP0⟩ : ∃ P, Q * sgI t k = P := ⟨_, rfl⟩
  obtain ⟨R, hR0⟩ : ∃ R, sgI s m - P = R := ⟨_, rfl⟩
  rw [hP0, hR0]
  have HP0 := Lib.hid hP0
  have HR0 := Lib.hid hR0
  clear hP0 hR0
  have hx2 : (s == t) = !x := by rw [← hx]; cases s <;> cases t <;> rfl
  go_enter Tryd.func72, Tryd.ntmps72
  go_wp2_with fail
  obtain ⟨W0, hW0⟩ : ∃ W0, (((w.alloc (.cells #[.bool s, .slice av lv ca] 51)).alloc (.cells #[.bool t, .slice bv lu cb] 51)).alloc (.cells #[.bool false, .slice none 0 0] 51)).alloc (.cells #[.bool false, .slice none 0 0] 51) = W0 := ⟨_, rfl⟩
  rw [hW0]
  have hz0 : W0.heap.size = w.heap.size + 4 := by rw [← hW0]; simp
  have hA0 : DecIs W0 B1 (.slice av lv ca) m := by rw [← hW0]; exact (((HA.out.alloc _).alloc _).alloc _).alloc _
  have hB0 : DecIs W0 B2 (.slice bv lu cb) k := by rw [← hW0]; exact (((HB.out.alloc _).alloc _).alloc _).alloc _
  have hX : Has W0 w.heap.size 51 #[.bool s, .slice av lv ca] := by rw [← hW0]; exact (((Has.new w _ _).alloc _).alloc _).alloc _
  have hY : Has W0 (w.heap.size + 1) 51 #[.bool t, .slice bv lu cb] := by rw [← hW0]; exact ((Has.new' (n := w.heap.size + 1) (by simp) _ _).alloc _).alloc _
  have hP : Has W0 (w.heap.size + 2) 51 #[.bool false, .slice none 0 0] := by rw [← hW0]; exact (Has.new' (n := w.heap.size + 2) (by simp) _ _).alloc _
  have hQ : Has W0 (w.heap.size + 3) 51 #[.bool false, .slice none 0 0] := by rw [← hW0]; exact Has.new' (n := w.heap.size + 3) (by simp) _ _
  have hBB : Below w.heap.size w W0 := by rw [← hW0]; exact ((((Below.refl _ w).alloc (Nat.le_refl _) _).alloc (by simp) _).alloc (by simp; omega) _).alloc (by simp; omega) _
  clear hW0
  refine (rdivd_any B1 B2 m k _ _ W0 hA0 hB0 hk (by rw [HLV.out]; omega) (by rw [HLU.out]; omega)).mono ?_
  rw [hd0, hr0]
  rintro e w1 ⟨⟨qv, rv, rfl, hq1, hr1⟩, hb1⟩
  obtain ⟨aq, cq, rfl⟩ := hq1.slice
  obtain ⟨ar, cr, rfl⟩ := hr1.slice
  have HN := Lib.hid (fun W => num_len d cq aq x W)
  obtain ⟨lq, hlq⟩ : ∃ lq, (lims 10 d).length = lq := ⟨_, rfl⟩
  obtain ⟨lr, hlr⟩ : ∃ lr, (lims 10 r).length = lr := ⟨_, rfl⟩
  rw [hlq] at HN hq1 ⊢
  rw [hlr] at hr1 ⊢
  have hlr2 := dec_len (n := r)
  rw [hlr] at hlr2
  have HLQ := Lib.hid hlq
  have HLR := Lib.hid hlr
  have HR := Lib.hid hlr2
  clear hlq hlr hlr2
  have hX1 := hX.below hb1
  have hY1 := hY.below hb1
  obtain ⟨x0, x1, -⟩ := cells_two hX1
  obtain ⟨y0, y1, -⟩ := cells_two hY1
  go_wp2_with fail
  refine (HN.out _).mono ?_
  rintro e w2 ⟨rfl, hb2⟩
  have HB2 := Lib.hid (Below.behind hb1 hb2)
  have HX2 := Lib.hid (hX1.below hb2)
  have HY2 := Lib.hid (hY1.below hb2)
  have HQ2 := Lib.hid (hq1.kept hb2)
  have HR2 := Lib.hid (hr1.kept hb2)
  obtain ⟨x0, x1, -⟩ := cells_two HX2.out
  obtain ⟨y0, y1, -⟩ := cells_two HY2.out
  clear hb1 hb2 hX1 hY1 hq1 hr1
  clear hd0 hr0 hQ0 hx
  obtain ⟨o, ho⟩ : ∃ o, (x && decide (0 < d)) = o := ⟨_, rfl⟩
  rw [ho]
  have HO := Lib.hid ho
  clear ho
  go_upto_region 3 with fail
  obtain ⟨W3, hW3⟩ : ∃ W3, w2.alloc (.cells #[.bool o, .slice aq lq cq] 51) = W3 := ⟨_, rfl⟩
  rw [hW3]
  have hG3 : Has W3 w2.heap.size 51 #[.bool o, .slice aq lq cq] := by rw [← hW3]; exact Has.new _ _ _
  have hX3 : Has W3 w.heap.size 51 #[.bool s, .slice av lv ca] := by rw [← hW3]; exact HX2.out.alloc _
  have hY3 : Has W3 (w.heap.size + 1) 51 #[.bool t, .slice bv lu cb] := by rw [← hW3]; exact HY2.out.alloc _
  have HQ3 := Lib.hid (show DecIs W3 W0.heap.size (.slice aq lq cq) d by rw [← hW3]; exact HQ2.out.alloc _)
  have hB3 : Below W0.heap.size W0 W3 := by rw [← hW3]; exact HB2.out.alloc HB2.out.size _
  have hz2 := HB2.out.size
  have hz3 : W3.heap.size = w2.heap.size + 1 := by rw [← hW3]; simp
  obtain ⟨g, hg⟩ : ∃ g, w2.heap.size = g := ⟨_, rfl⟩
  rw [hg] at hG3 hz2 hz3 ⊢
  have HB3 := Lib.hid hB3
  clear HX2 HY2 HQ2 HR2 HB2 hW3 hg hB3 x0 x1 y0 y1
  obtain ⟨x0, x1, -⟩ := cells_two hX3
  obtain ⟨y0, y1, -⟩ := cells_two hY3
  have hQs : x = true ∧ 0 < r → sgI o d + sgI true 1 = Q := by
    intro h
    rw [HQQ.out, if_pos h, ← HO.out, sgI_pos_and]
    rfl
  have hQn : ¬ (x = true ∧ 0 < r) → Q = sgI x d := fun h => by rw [HQQ.out, if_neg h]
  have HQS := Lib.hid hQs
  have HQN := Lib.hid hQn
  clear hQs hQn
  obtain ⟨cc, hcc⟩ : ∃ cc, decide (x = true ∧ 0 < r) = cc := ⟨_, rfl⟩
  have HC := Lib.hid hcc
  go_cut [33] from 24 to 33 (fun v33 wx => v33 = .bool cc ∧ wx = W3)
  case first =>
    rcases HR.out with ⟨rfl, hr0⟩ | ⟨hl, hr0⟩
    · have HCC := Lib.hid (show cc = false by rw [← HC.out]; simp [hr0])
      clear hcc hr0
      cases x with
      | false =>
        go_wp2_with fail
        go_meet
        exact ⟨by rw [HCC.out], rfl⟩
      | true =>
        go_wp2_with fail
        go_meet
        exact ⟨by rw [HCC.out], rfl⟩
    · have hlI : (lr : Int) > 0 := by omega
      cases x with
      | false =>
        have HCC := Lib.hid (show cc = false by rw [← HC.out]; simp)
        clear hcc hr0 hl
        go_wp2_with fail
        go_meet
        exact ⟨by rw [HCC.out], rfl⟩
      | true =>
        have HCC := Lib.hid (show cc = true by rw [← HC.out]; simp [hr0])
        have HLL := Lib.hid hl
        clear hcc hr0 hl
        go_wp2_with fail
        go_meet
        exact ⟨by first | rw [HCC.out, decide_eq_true HLL.out] | rw [HCC.out], rfl⟩
  case rest =>
  obtain ⟨rfl, hw⟩ := hcut
  have hw' := hw.symm
  subst hw'
  go_upto_if 33 with fail
  go_cut [33] from 34 to 36 (fun _ wx => BoxZ W0 g Q wx)
  case first =>
    cases cc with
    | false =>
      have HF := Lib.hid (show Q = sgI x d from HQN.out (of_decide_eq_false HC.out))
      go_wp2_with fail
      go_meet
      refine ⟨aq, lq, cq, ?_, ?_, HB3.out⟩
      · have e : decide (Q < 0) = o := by rw [HF.out, ← HO.out]; exact sgn_z.symm
        rw [e]; exact hG3
      · rw [HF.out, sgI_abs]; exact HQ3.out
    | true =>
      have HF := Lib.hid (show sgI o d + sgI true 1 = Q from HQS.out (of_decide_eq_true HC.out))
      go_upto_region 4 with fail
      obtain ⟨q0, q1, -⟩ := cells_two hG3
      have HQW := Lib.hid (fun W (h : Below W3.heap.size W3 W) => HQ3.out.kept h)
      have hst := dv4Pr_stays W0 o lq aq cq Q
      have hd1 : d ≤ m := HDK.out
      have hlq : lq ≤ 100000 := by
        have h1 : (lims 10 d).length ≤ (lims 10 m).length := (lims_len_le ten_ge _ _).2 (Nat.lt_of_le_of_lt hd1 ((lims_len_le ten_ge _ _).1 (Nat.le_refl _)))
        have h2 := HLQ.out
        have h3 := HLV.out
        omega
      refine wp_region_inv (Inv := fun listed x' w' => ∃ u, x' = { tmps := #[.agg #[.bool s, .slice av lv ca], .agg #[.bool t, .slice bv lu cb], .pointer (some ⟨w.heap.size, 0, none⟩), .pointer (some ⟨w.heap.size + 1, 0, none⟩), .pointer (some ⟨w.heap.size + 1 + 1, 0, none⟩), .pointer (some ⟨w.heap.size + 1 + 1 + 1, 0, none⟩), .slice aq lq cq, .slice ar lr cr, .pointer (some ⟨g, 0, none⟩), .tuple #[.slice aq lq cq, .slice ar lr cr], .pointer (some ⟨w.heap.size, 1, none⟩), .slice av lv ca, .pointer (some ⟨w.heap.size + 1, 1, none⟩), .slice bv lu cb, .tuple #[.slice aq lq cq, .slice ar lr cr], .slice aq lq cq, .slice ar lr cr, .pointer (some ⟨w.heap.size, 0, none⟩), .bool s, .pointer (some ⟨w.heap.size + 1, 0, none⟩), .bool t, .bool x, .slice aq lq cq, .agg #[.bool o, .slice aq lq cq], u24, u25, u26, u27, u28, u29, u30, u31, u32, .bool true, u 34, u 35, u 36, undef, undef, undef, undef, undef, undef, undef], defers := [] } ∧ RegInv (Below W3.heap.size W3) 3 dv4S (dv4Pr W0 o lq aq cq Q) (fun _ _ w' => BoxZ W0 g Q w') (fun i => listed.getD i false) u w') (by kernel_rfl) (ord_of (by kernel_rfl)) ?h0 ?step ?fin
      case h0 => exact ⟨fun _ => undef, rfl, RegInv.start (none_listed _) (Below.refl _ _).drew⟩
      case fin =>
        rename_i hJ hK'
        rintro listed x' w' ⟨u, rfl, F⟩ hall
        have hF := F.fin (hall 3 (by decide))
        exact hK' _ _ (Met.intro (hJ _ _ ⟨_, _, _, _, hF, rfl⟩))
      case step =>
        rintro listed x' w' i ⟨u, rfl, F⟩ hi hn hd
        have h6 : i = 0 ∨ i = 1 ∨ i = 2 ∨ i = 3 := by
          have : i < 4 := hi
          omega
        rcases h6 with rfl | rfl | rfl | rfl
        · have hI := F.inv (F.not 0 (by decide) hn)
          obtain ⟨q0, q1, -⟩ := cells_two (hG3.below hI)
          refine wpOp_by rfl rfl (fun K hK => ?_)
          go_simp
          exact hK _ _ ⟨_, by simp [upd, dv4S], F.put 0 hst (by decide) (by unfold dv4S; omega) hn (Below.refl _ _) hI rfl⟩
        · have hI := F.inv (F.not 1 (by decide) hn)
          refine wpOp_by rfl rfl (fun K hK => ?_)
          go_simp
          refine (rWhole_any (-1) (by decide) (by decide) _).mono ?_
          rintro e w1' ⟨⟨v, rfl, hv⟩, hb1⟩
          obtain ⟨a, c, rfl⟩ := hv.slice
          exact hK _ _ ⟨_, by simp [upd, dv4S], F.put 1 hst (by decide) (by unfold dv4S; omega) hn hb1 (hI.trans (hb1.mono hI.size)) ⟨a, _, c, rfl, DecIs.mono (neg_one hv) (by have := hI.size; omega)⟩⟩
        · have hI := F.inv (F.not 2 (by decide) hn)
          have e0 : u 34 = _ := F.got 0 (by decide) 2 hn (by decide) (hd _ rfl ⟨0, .data⟩ (by simp) rfl)
          obtain ⟨a1, l1, c1, e1, d1⟩ := F.got 1 (by decide) 2 hn (by decide) (hd _ rfl ⟨1, .data⟩ (by simp) rfl)
          have e1 : u 35 = _ := e1
          refine wpOp_by rfl rfl (fun K hK => ?_)
          go_simp
          refine (rPlus_any W0.heap.size W0.heap.size d 1 _ _ o true _ (HQW.out _ hI) d1 (by rw [HLQ.out]; omega) (Nat.le_trans ((lims_len_le ten_ge 1 1).2 (by decide)) (by decide))).mono ?_
          rw [HF.out]
          rintro e w1' ⟨⟨v, rfl, hv⟩, hb1⟩
          obtain ⟨a, c, rfl⟩ := hv.slice
          exact hK _ _ ⟨_, by simp [upd, dv4S, e0, e1], F.put 2 hst (by decide) (by unfold dv4S; omega) hn hb1 (hI.trans (hb1.mono hI.size)) ⟨a, _, c, rfl, DecIs.mono hv (by have := hI.size; omega)⟩⟩
        · have hI := F.inv (F.not 3 (by decide) hn)
          obtain ⟨a2, l2, c2, e2, d2⟩ := F.got 2 (by decide) 3 hn (by decide) (hd _ rfl ⟨2, .data⟩ (by simp) rfl)
          have e2 : u 36 = _ := e2
          have hRw := hG3.below hI
          obtain ⟨q0, q1, q2, q3⟩ := cells_two hRw
          have hap := d2.notNum hRw
          refine wpOp_by rfl rfl (fun K hK => ?_)
          go_simp
          refine hK _ _ ⟨u, by simp [e2], F.last hn (fun i hi => ?_) (fun _ => ⟨a2, l2, c2, hRw.put2 _ _, (d2.apart hap 0 _).apart hap 1 _, ((HB3.out.trans (hI.mono (by omega))).setCell (p := ⟨g, 0, none⟩) hz2 _).setCell (p := ⟨g, 1, none⟩) hz2 _⟩)⟩
          have : i = 0 ∨ i = 1 ∨ i = 2 := by omega
          rcases this with rfl | rfl | rfl
          · exact hd _ rfl ⟨0, .phase⟩ (by simp) rfl
          · exact hd _ rfl ⟨1, .phase⟩ (by simp) rfl
          · exact hd _ rfl ⟨2, .phase⟩ (by simp) rfl
  case rest =>
  obtain ⟨a, l, c, hG4, hQ4, hB4⟩ := hcut
  have hX4 := hX.below hB4
  have hY4 := hY.below hB4
  have hP4 := hP.below hB4
  have hR4 := hQ.below hB4
  have hA4 := Lib.hid (fun W (h : Below wc.heap.size wc W) => (hA0.kept hB4).kept h)
  have hB5 := Lib.hid (fun W (h : Below wc.heap.size wc W) => (hB0.kept hB4).kept h)
  have hQ5 := Lib.hid (fun W (h : Below wc.heap.size wc W) => hQ4.kept h)
  have hz4 := hB4.size
  have hzz : w.heap.size ≤ W0.heap.size := by omega
  have HQl := Lib.hid (show (lims 10 Q.natAbs).length ≤ 100001 from by
    have h1 : Q.natAbs ≤ m + 1 := by
      have h2 := HDK.out
      rw [HQQ.out]
      split
      · have h3 := sgI_abs x d; omega
      · have h3 := sgI_abs x d; omega
    have h4 := (lims_len_le ten_ge m lv).1 (by rw [HLV.out]; exact Nat.le_refl _)
    have h5 := (lims_len_le ten_ge Q.natAbs (lv + 1)).2 (by rw [Nat.pow_succ]; omega)
    omega)
  have HPl := Lib.hid (show (lims 10 P.natAbs).length ≤ 100001 + 100000 from by
    have h3 : P.natAbs = Q.natAbs * k := by rw [← HP0.out, Int.natAbs_mul, sgI_abs]
    rw [h3]
    exact len_mul HQl.out (show (lims 10 k).length ≤ 100000 by rw [HLU.out]; exact hlb))
  clear hX hY hP hQ x0 x1 y0 y1
  go_upto_region 5 with fail
  have hst := dv5Pr_stays W0 s t lv lu l av bv a ca cb c Q P R
  refine wp_region_inv (Inv := fun listed x' w' => ∃ u, x' = { tmps := #[.agg #[.bool s, .slice av lv ca], .agg #[.bool t, .slice bv lu cb], .pointer (some ⟨w.heap.size, 0, none⟩), .pointer (some ⟨w.heap.size + 1, 0, none⟩), .pointer (some ⟨w.heap.size + 1 + 1, 0, none⟩), .pointer (some ⟨w.heap.size + 1 + 1 + 1, 0, none⟩), .slice aq lq cq, .slice ar lr cr, .pointer (some ⟨g, 0, none⟩), .tuple #[.slice aq lq cq, .slice ar lr cr], .pointer (some ⟨w.heap.size, 1, none⟩), .slice av lv ca, .pointer (some ⟨w.heap.size + 1, 1, none⟩), .slice bv lu cb, .tuple #[.slice aq lq cq, .slice ar lr cr], .slice aq lq cq, .slice ar lr cr, .pointer (some ⟨w.heap.size, 0, none⟩), .bool s, .pointer (some ⟨w.heap.size + 1, 0, none⟩), .bool t, .bool x, .slice aq lq cq, .agg #[.bool o, .slice aq lq cq], u24, u25, u26, u27, u28, u29, u30, u31, u32, u33, u34, u35, u36, u 37, u 38, u 39, u 40, u 41, u 42, u 43], defers := [] } ∧ RegInv (Below wc.heap.size wc) 7 dv5S (dv5Pr W0 s t lv lu l av bv a ca cb c Q P R) (fun L u w' => (L 8 = false → dv5Mid w.heap.size w W0 l a c Q R u w') ∧ (L 8 = true → dv5Done w.heap.size w W0 l a c Q R w')) (fun i => listed.getD i false) u w' ∧ Cd (fun i => listed.getD i false)) (by kernel_rfl) (ord_of (by kernel_rfl)) ?h0 ?step ?fin
  case h0 => exact ⟨fun _ => undef, rfl, RegInv.start (none_listed _) (Below.refl _ _).drew, fun h => absurd ((none_listed _ _).symm.trans h) (by decide), fun h => absurd ((none_listed _ _).symm.trans h) (by decide), fun h => absurd ((none_listed _ _).symm.trans h) (by decide)⟩
  case fin =>
    rintro listed x' w' ⟨u, rfl, F, hcl⟩ hall
    obtain ⟨a6, l6, c6, d1, d2, g1, g2, hbF⟩ := (F.fin (hall 7 (by decide))).2 (hall 8 (by decide))
    obtain ⟨q0, q1, -⟩ := cells_two g1
    obtain ⟨r0, r1, -⟩ := cells_two g2
    have HD1 := Lib.hid d1
    have HD2 := Lib.hid d2
    have HBF := Lib.hid hbF
    clear F hall hcl d1 d2 hbF g1 g2
    obtain ⟨qb, hqb⟩ : ∃ qb, decide (Q < 0) = qb := ⟨_, rfl⟩
    obtain ⟨rb, hrb⟩ : ∃ rb, decide (R < 0) = rb := ⟨_, rfl⟩
    have HQB := Lib.hid hqb
    have HRB := Lib.hid hrb
    rw [hqb] at q0
    rw [hrb] at r0
    clear hqb hrb
    dsimp only
    go_wp2_with fail
    refine bodyPost_ret (v := .tuple #[.agg #[.bool qb, .slice a l c], .agg #[.bool rb, .slice a6 l6 c6]]) (by simp [results, Tryd.results72, go_sem, q0, q1, r0, r1]) rfl ⟨⟨_, _, by rw [HQB.out, HRB.out], DecIs.mono HD2.out hzz, DecIs.mono HD1.out hzz⟩, HBF.out⟩
  case step =>
    rintro listed x' w' i ⟨u, rfl, F, hcl⟩ hi hn hd
    have h6 : i = 0 ∨ i = 1 ∨ i = 2 ∨ i = 3 ∨ i = 4 ∨ i = 5 ∨ i = 6 ∨ i = 7 ∨ i = 8 := by
      have : i < 9 := hi
      omega
    rcases h6 with rfl | rfl | rfl | rfl | rfl | rfl | rfl | rfl | rfl
    · have hI := F.inv (F.not 0 (by decide) hn)
      obtain ⟨x0, x1, -⟩ := cells_two (hG4.below hI)
      refine wpOp_by rfl rfl (fun K hK => ?_)
      go_simp
      exact hK _ _ ⟨_, by simp [upd, dv5S], F.put 0 hst (by decide) (by unfold dv5S; omega) hn (Below.refl _ _) hI rfl, hcl.set 0 (fun h => absurd h (by decide)) (fun h => absurd h (by decide)) (fun h => absurd h (by decide))⟩
    · have hI := F.inv (F.not 1 (by decide) hn)
      obtain ⟨x0, x1, -⟩ := cells_two (hX4.below hI)
      refine wpOp_by rfl rfl (fun K hK => ?_)
      go_simp
      exact hK _ _ ⟨_, by simp [upd, dv5S], F.put 1 hst (by decide) (by unfold dv5S; omega) hn (Below.refl _ _) hI rfl, hcl.set 1 (fun h => absurd h (by decide)) (fun h => absurd h (by decide)) (fun h => absurd h (by decide))⟩
    · have hI := F.inv (F.not 2 (by decide) hn)
      obtain ⟨x0, x1, -⟩ := cells_two (hG4.below hI)
      refine wpOp_by rfl rfl (fun K hK => ?_)
      go_simp
      exact hK _ _ ⟨_, by simp [upd, dv5S], F.put 2 hst (by decide) (by unfold dv5S; omega) hn (Below.refl _ _) hI rfl, hcl.set 2 (fun h => absurd h (by decide)) (fun h => absurd h (by decide)) (fun h => absurd h (by decide))⟩
    · have hI := F.inv (F.not 3 (by decide) hn)
      obtain ⟨x0, x1, -⟩ := cells_two (hY4.below hI)
      refine wpOp_by rfl rfl (fun K hK => ?_)
      go_simp
      exact hK _ _ ⟨_, by simp [upd, dv5S], F.put 3 hst (by decide) (by unfold dv5S; omega) hn (Below.refl _ _) hI rfl, hcl.set 3 (fun h => absurd h (by decide)) (fun h => absurd h (by decide)) (fun h => absurd h (by decide))⟩
    · have hI := F.inv (F.not 4 (by decide) hn)
      have e2 : u 39 = _ := F.got 2 (by decide) 4 hn (by decide) (hd _ rfl ⟨2, .data⟩ (by simp) rfl)
      have e3 : u 40 = _ := F.got 3 (by decide) 4 hn (by decide) (hd _ rfl ⟨3, .data⟩ (by simp) rfl)
      refine wpOp_by rfl rfl (fun K hK => ?_)
      go_simp
      refine (rTimes_any W0.heap.size B2 Q.natAbs k _ _ (decide (Q < 0)) t _ (hQ5.out _ hI) (hB5.out _ hI) (Nat.le_trans HQl.out (by decide)) (by rw [HLU.out]; omega)).mono ?_
      rw [sgI_self, HP0.out]
      rintro e w1' ⟨⟨v, rfl, hv⟩, hb1⟩
      obtain ⟨a', c', rfl⟩ := hv.slice
      exact hK _ _ ⟨_, by simp [upd, dv5S, e2, e3], F.put 4 hst (by decide) (by unfold dv5S; omega) hn hb1 (hI.trans (hb1.mono hI.size)) ⟨a', c', rfl, DecIs.mono hv (Nat.le_trans hz4 hI.size)⟩, hcl.set 4 (fun _ => ⟨hd _ rfl ⟨2, .data⟩ (by simp) rfl, hd _ rfl ⟨3, .data⟩ (by simp) rfl⟩) (fun h => absurd h (by decide)) (fun h => absurd h (by decide))⟩
    · have hI := F.inv (F.not 5 (by decide) hn)
      obtain ⟨a4, c4, e4, d4⟩ := F.got 4 (by decide) 5 hn (by decide) (hd _ rfl ⟨4, .data⟩ (by simp) rfl)
      have e4 : u 41 = _ := e4
      refine wpOp_by rfl rfl (fun K hK => ?_)
      go_simp
      refine (rOpp_any P.natAbs c4 a4 (decide (P < 0)) _).mono ?_
      rintro e w1' ⟨rfl, hb1⟩
      exact hK _ _ ⟨_, by simp [upd, dv5S, e4], F.put 5 hst (by decide) (by unfold dv5S; omega) hn hb1 (hI.trans (hb1.mono hI.size)) ⟨a4, c4, rfl, d4.kept hb1⟩, hcl.set 5 (fun h => absurd h (by decide)) (fun _ => hd _ rfl ⟨4, .data⟩ (by simp) rfl) (fun h => absurd h (by decide))⟩
    · have hI := F.inv (F.not 6 (by decide) hn)
      have e1 : u 38 = _ := F.got 1 (by decide) 6 hn (by decide) (hd _ rfl ⟨1, .data⟩ (by simp) rfl)
      obtain ⟨a5, c5, e5, d5⟩ := F.got 5 (by decide) 6 hn (by decide) (hd _ rfl ⟨5, .data⟩ (by simp) rfl)
      have e5 : u 42 = _ := e5
      obtain ⟨bb, hbb⟩ : ∃ bb, (!decide (P < 0) && decide (0 < P.natAbs)) = bb := ⟨_, rfl⟩
      have HPL6 := Lib.hid (fun v5 (h5 : DecIs w' W0.heap.size v5 P.natAbs) => show Calls Tryd.prog 61 #[.agg #[.bool s, .slice av lv ca], .agg #[.bool bb, v5]] w' fun e w2 => ZIs w'.heap.size R w2 e ∧ Below w'.heap.size w' w2 from by
        have h := rPlus_any B1 W0.heap.size m P.natAbs _ _ s (!decide (P < 0) && decide (0 < P.natAbs)) w' (hA4.out _ hI) h5 (by rw [HLV.out]; omega) (Nat.le_trans HPl.out (by decide))
        rw [opp_z, sgI_self, ← Int.sub_eq_add_neg, HR0.out, hbb] at h
        exact h)
      rw [hbb] at e5
      clear hbb
      obtain ⟨l5, hl5⟩ : ∃ l5, (lims 10 P.natAbs).length = l5 := ⟨_, rfl⟩
      rw [hl5] at e5 d5
      have D5 := Lib.hid d5
      clear hl5 d5
      refine wpOp_by rfl rfl (fun K hK => ?_)
      go_simp
      refine (HPL6.out _ D5.out).mono ?_
      rintro e w1' ⟨⟨v, rfl, hv⟩, hb1⟩
      obtain ⟨a', c', rfl⟩ := hv.slice
      exact hK _ _ ⟨_, by simp [upd, dv5S, e1, e5], F.put 6 hst (by decide) (by unfold dv5S; omega) hn hb1 (hI.trans (hb1.mono hI.size)) ⟨a', _, c', rfl, DecIs.mono hv (Nat.le_trans hz4 hI.size)⟩, hcl.set 6 (fun h => absurd h (by decide)) (fun h => absurd h (by decide)) (fun _ => ⟨hd _ rfl ⟨1, .data⟩ (by simp) rfl, hd _ rfl ⟨5, .data⟩ (by simp) rfl⟩)⟩
    · have hI := F.inv (F.not 7 (by decide) hn)
      have e0 : u 37 = _ := F.got 0 (by decide) 7 hn (by decide) (hd _ rfl ⟨0, .data⟩ (by simp) rfl)
      have h6 := hd _ rfl ⟨6, .chain⟩ (by simp) rfl
      obtain ⟨a6, l6, c6, e6, d6⟩ := F.got 6 (by decide) 7 hn (by decide) h6
      have e6 : u 43 = _ := e6
      have hPw := hP4.below hI
      have hRw := hR4.below hI
      have hq := hQ5.out _ hI
      have hap := hq.notNum hPw
      have hap6 := d6.notNum hPw
      obtain ⟨q0, q1, q2, q3⟩ := cells_two hPw
      refine wpOp_by rfl rfl (fun K hK => ?_)
      go_simp
      refine hK _ _ ⟨u, by simp [e0, e6], F.last hn (fun i hi => ?_) (fun hno => ⟨fun _ => ⟨a6, l6, c6, e6, (d6.apart hap6 0 _).apart hap6 1 _, (hq.apart hap 0 _).apart hap 1 _, hPw.put2 _ _, hRw.far2 (by omega) _ _, (((hBB.trans (hB4.mono hzz)).trans (hI.mono (Nat.le_trans hzz hz4))).setCell (p := ⟨w.heap.size + 2, 0, none⟩) (show w.heap.size ≤ w.heap.size + 2 by omega) _).setCell (p := ⟨w.heap.size + 2, 1, none⟩) (show w.heap.size ≤ w.heap.size + 2 by omega) _⟩, fun h => absurd ((hno 8 (by decide)).symm.trans h) (by decide)⟩), hcl.set 7 (fun h => absurd h (by decide)) (fun h => absurd h (by decide)) (fun h => absurd h (by decide))⟩
      have : i = 0 ∨ i = 1 ∨ i = 2 ∨ i = 3 ∨ i = 4 ∨ i = 5 ∨ i = 6 := by omega
      rcases this with rfl | rfl | rfl | rfl | rfl | rfl | rfl
      · exact hd _ rfl ⟨0, .data⟩ (by simp) rfl
      · exact (hcl.2.2 h6).1
      · exact (hcl.1 (hcl.2.1 (hcl.2.2 h6).2)).1
      · exact (hcl.1 (hcl.2.1 (hcl.2.2 h6).2)).2
      · exact hcl.2.1 (hcl.2.2 h6).2
      · exact (hcl.2.2 h6).2
      · exact h6
    · have h7 := hd _ rfl ⟨7, .phase⟩ (by simp) rfl
      obtain ⟨a6, l6, c6, e6, d6, hq, hPw, hRw, hbw⟩ := (F.fin h7).1 (false_of hn)
      have hap := hq.notNum hRw
      have hap6 := d6.notNum hRw
      obtain ⟨q0, q1, q2, q3⟩ := cells_two hRw
      have hlt : 8 < listed.size := by
        rcases Nat.lt_or_ge 8 listed.size with h | h
        · exact h
        · simp [Array.getD, Nat.not_lt.2 h] at hn
      have hyes : (listed.setIfInBounds 8 true).getD 8 false = true := by simp [Array.getD_eq_getD_getElem?, hlt]
      refine wpOp_by rfl rfl (fun K hK => ?_)
      go_simp
      exact hK _ _ ⟨u, by simp [e6], F.post 8 (by decide) h7 ⟨fun h => absurd (hyes.symm.trans h) (by decide), fun _ => ⟨a6, l6, c6, (d6.apart hap6 0 _).apart hap6 1 _, (hq.apart hap 0 _).apart hap 1 _, hPw.far2 (by omega) _ _, hRw.put2 _ _, (hbw.setCell (p := ⟨w.heap.size + 3, 0, none⟩) (show w.heap.size ≤ w.heap.size + 3 by omega) _).setCell (p := ⟨w.heap.size + 3, 1, none⟩) (show w.heap.size ≤ w.heap.size + 3 by omega) _⟩⟩, hcl.set 8 (fun h => absurd h (by decide)) (fun h => absurd h (by decide)) (fun h => absurd h (by decide))⟩
end Go.Proofs.YtmnibfdenmeepaaDoor
/- two of the reference: a power of two. -/
namespace Go.Proofs.YtmnibfdenmeepaaDoor
open Go.RowKit Go.Shelf Big

theorem pow_len (i : Nat) (h : i ≤ 4000) : (lims 10 (2 ^ i)).length ≤ 100000000 :=
  Nat.le_trans ((lims_len_le ten_ge (2 ^ i) (i + 1)).2 (Nat.lt_of_le_of_lt (Nat.pow_le_pow_left (by decide) i) (Nat.pow_lt_pow_right (by decide) (Nat.lt_succ_self i)))) (by omega)
set_option maxRecDepth 100000 in
set_option maxHeartbeats 4000000 in
theorem rTwo_any (n : Nat) (hn : n ≤ 4000) (w : World) :
    Calls Tryd.prog 90 #[.int .i64 (n : Int)] w fun e w' => (∃ v, e = .returned (.agg #[.bool false, v]) ∧ DecIs w' w.heap.size v (2 ^ n)) ∧ Below w.heap.size w w' := by
  go_enter Tryd.func90, Tryd.ntmps90
  go_wp2_with fail
  refine (rWhole_any 1 (by decide) (by decide) _).mono ?_
  rintro e w1 ⟨⟨v, rfl, hv⟩, hb1⟩
  rw [show decide ((1 : Int) < 0) = false from rfl]
  have hv1 : DecIs w1 (w.alloc (.cells #[.bool false, .slice none 0 0] 51)).heap.size v 1 := hv
  have hW : (w.alloc (.cells #[.bool false, .slice none 0 0] 51)).heap.size = w.heap.size + 1 := by simp
  have hX1 := (Has.new w 51 #[.bool false, .slice none 0 0]).below hb1
  have hB1 := Below.behind ((Below.refl _ w).alloc (Nat.le_refl _) (.cells #[.bool false, .slice none 0 0] 51)) hb1
  have hz1 := hb1.size
  rw [hW] at hz1 hv1
  clear hv hb1 hW
  obtain ⟨a, c, rfl⟩ := hv1.slice
  generalize hl : (lims 10 1).length = l at hv1 ⊢
  obtain ⟨W1, hW1⟩ : ∃ W1, w1.alloc (.cells #[.bool false, .slice a l c] 51) = W1 := ⟨_, rfl⟩
  have hG : Has W1 w1.heap.size 51 #[.bool false, .slice a l c] := by rw [← hW1]; exact Has.new _ _ _
  have hX : Has W1 w.heap.size 51 #[.bool false, .slice none 0 0] := by rw [← hW1]; exact hX1.alloc _
  have hB : Below w.heap.size w W1 := by rw [← hW1]; exact hB1.alloc (by omega) _
  have hD : DecIs W1 w.heap.size (.slice a l c) 1 := by rw [← hW1]; exact DecIs.mono (hv1.alloc _) (by omega)
  clear hv1 hX1 hB1 hl
  go_upto_region 2 with fail
  clear hW1
  generalize w1.heap.size = g at *
  go_wp2
  go_loopg [6] n (fun gh v6 wx => ∃ (i : Nat) (a : Option Addr) (l c : Nat), v6 = .int .i64 (i : Int) ∧ i + gh = n ∧ Has wx g 51 #[.bool false, .slice a l c] ∧ DecIs wx w.heap.size (.slice a l c) (2 ^ i) ∧ Has wx w.heap.size 51 #[.bool false, .slice none 0 0] ∧ Below w.heap.size w wx)
  case atStart => exact ⟨0, a, l, c, rfl, by omega, hG, hD, hX, hB⟩
  case round =>
    obtain ⟨i, a, l, c, rfl, hi, hG, hD, hX, hB⟩ := hrel
    obtain ⟨q0, q1, q2, q3⟩ := cells_two hG
    obtain ⟨x0, x1, x2, x3⟩ := cells_two hX
    have HP := Lib.hid (pow_len i (by omega))
    cases gk with
    | zero =>
      obtain rfl : i = n := by omega
      have hap := hD.notNum hX
      have HF := Lib.hid ((hD.apart hap 0 (.bool false)).apart hap 1 (.slice a l c))
      have HB := Lib.hid (Below.two hB (Nat.le_refl _) (.bool false) (.slice a l c))
      clear hD hB hG hX
      go_wp2_with fail
      exact bodyPost_ret (v := .agg #[.bool false, .slice a l c]) (by simp [results, Tryd.results90, go_sem, World.cell?_setCell_same', x0, x1]) rfl ⟨⟨_, rfl, HF.out⟩, HB.out⟩
    | succ gh =>
      have hiI : (i : Int) < (n : Int) := by omega
      have HPl := Lib.hid (fun W (h : DecIs W w.heap.size (.slice a l c) (2 ^ i)) => rPlus_any w.heap.size w.heap.size (2 ^ i) (2 ^ i) _ _ false false W h h HP.out HP.out)
      have HD := Lib.hid hD
      have HG := Lib.hid hG
      have HX := Lib.hid hX
      have HB := Lib.hid hB
      have hz := hB.size
      have HS := Lib.hid (show sgI false (2 ^ i) + sgI false (2 ^ i) = ((2 ^ (i + 1) : Nat) : Int) by
        unfold sgI
        rw [Nat.pow_succ]
        generalize 2 ^ i = x
        simp
        omega)
      clear hD hG hX hB
      go_wp2_with fail
      refine (HPl.out _ HD.out).mono ?_
      rw [HS.out]
      rintro e w2 ⟨⟨v, rfl, hv⟩, hb2⟩
      rw [show decide (((2 ^ (i + 1) : Nat) : Int) < 0) = false from decide_eq_false (Int.not_lt.2 (Int.natCast_nonneg _))]
      have hv2 : DecIs w2 wr.heap.size v (2 ^ (i + 1)) := hv
      obtain ⟨a', c', rfl⟩ := hv2.slice
      have hG2 := HG.out.below hb2
      have hX2 := HX.out.below hb2
      have hap := hv2.notNum hG2
      obtain ⟨r0, r1, r2, r3⟩ := cells_two hG2
      have HF := Lib.hid (DecIs.mono ((hv2.apart hap 0 (.bool false)).apart hap 1 (.slice a' (lims 10 (2 ^ (i + 1))).length c')) (show w.heap.size ≤ wr.heap.size by omega))
      have HB2 := Lib.hid ((HB.out).trans (hb2.mono hz))
      have HG2 := Lib.hid hG2
      have HX2 := Lib.hid hX2
      clear hv hv2 hb2 hG2 hX2 hap
      generalize (lims 10 (2 ^ (i + 1))).length = l' at HF ⊢
      go_wp2_with fail
      go_roundg gh
      case measure => omega
      case rel => exact ⟨i + 1, a', l', c', by go_num, by omega, HG2.out.put2 _ _, HF.out, HX2.out.far2 (by omega) _ _, Below.two HB2.out (by omega) _ _⟩
end Go.Proofs.YtmnibfdenmeepaaDoor
/- The reference's quotient by a number above 0 is the floor. -/
namespace Go.Proofs.YtmnibfdenmeepaaDoor
open Go.RowKit Go.Shelf Big

theorem floor_of {a q r k : Int} (hk : 0 < k) (h : a = k * q + r) (h0 : 0 ≤ r) (h1 : r < k) : a / k = q := by
  rw [h, Int.mul_add_ediv_left _ _ (by omega), Int.ediv_eq_zero_of_lt h0 h1, Int.add_zero]
theorem divQ_is (s : Bool) (m k : Nat) (hk : 0 < k) : divQ s false m k = sgI s m / (k : Int) := by
  have h1 := Nat.div_add_mod m k
  have h2 := Nat.mod_lt m hk
  unfold divQ
  generalize hq : m / k = q at *
  generalize hr : m % k = r at *
  have hm : (m : Int) = (k : Int) * (q : Int) + (r : Int) := by rw [← h1]; simp
  cases s with
  | false =>
    rw [if_neg (by simp)]
    show (q : Int) = (m : Int) / (k : Int)
    exact (floor_of (by omega) hm (by omega) (by omega)).symm
  | true =>
    by_cases h0 : 0 < r
    · rw [if_pos ⟨rfl, h0⟩]
      show -(q : Int) + -1 = -(m : Int) / (k : Int)
      exact (floor_of (r := (k : Int) - (r : Int)) (by omega) (by rw [hm, Int.mul_add, Int.mul_neg]; omega) (by omega) (by omega)).symm
    · rw [if_neg (fun h => h0 h.2)]
      show -(q : Int) = -(m : Int) / (k : Int)
      exact (floor_of (r := 0) (by omega) (by rw [hm, Int.mul_neg]; omega) (by omega) (by omega)).symm
/-- What is left lies from 0 up to the divisor. -/
theorem divQ_rest (s : Bool) (m k : Nat) (hk : 0 < k) : sgI s m - divQ s false m k * sgI false k = sgI s m % (k : Int) := by
  rw [divQ_is s m k hk]
  show sgI s m - sgI s m / (k : Int) * (k : Int) = _
  have h := Int.mul_ediv_add_emod (sgI s m) (k : Int)
  rw [Int.mul_comm] at h
  omega
end Go.Proofs.YtmnibfdenmeepaaDoor
/- Abs of the program. -/
namespace Go.Proofs.YtmnibfdenmeepaaDoor
open Go.RowKit Go.Shelf Big

theorem numAbs_any (B n : Nat) (v : Value) (s l o : Bool) (w : World) (h : NatIs w B v n) :
    Calls Tryd.prog 85 #[.agg #[.bool s, v, .bool l, .bool o]] w fun e w' => NumIs B false n w' e ∧ Below w.heap.size w w' := by
  have hkeep : ∀ a b, NatIs ((w.alloc a).alloc b) B v n := fun a b => (h.alloc a).alloc b
  obtain ⟨av, cv, rfl⟩ := h.slice
  obtain ⟨lv, hlv⟩ : ∃ lv, (lims 4294967296 n).length = lv := ⟨_, rfl⟩
  rw [hlv] at hkeep ⊢
  have HK := Lib.hid hkeep
  clear h hlv hkeep
  go_enter Tryd.func85, Tryd.ntmps85
  go_wp2
  exact bodyPost_ret (v := .agg #[.bool false, .slice av lv cv, .bool false, .bool false]) (by simp [results, Tryd.results85, go_sem]) rfl ⟨⟨_, rfl, HK.out _ _⟩, ((Below.refl _ w).alloc (Nat.le_refl _) _).alloc (by simp) _⟩
theorem does_abs : Does1 85 (fun x => (x.natAbs : Int)) := ⟨enters_of Tryd.func85 (by kernel_rfl) rfl, fun B m va s o w ha _ => (numAbs_any B m va s false o w ha).mono fun e w' ⟨⟨v, he, hn⟩, hb⟩ => ⟨⟨false, m, v, false, B, he, hn, by unfold sgI; cases s <;> simp⟩, hb⟩⟩
theorem tame_abs : Tame1 (fun x => (x.natAbs : Int)) := fun x h => by
  rw [Int.natAbs_natCast]
  exact short_of h
theorem Abs_any (a : ByteArray) (w : World) (ha : a.size ≤ 1000) :
    Calls Tryd.prog 32 #[.string a] w fun e w' => e = retS (oneS (fun x => (x.natAbs : Int)) a.data.toList) ∧ Below w.heap.size w w' := by
  have ht := one_any _ _ does_abs tame_abs a w ha
  generalize oneS (fun x => (x.natAbs : Int)) a.data.toList = p at ht ⊢
  obtain ⟨l, c⟩ := p
  unfold retS at ht ⊢
  go_enter Tryd.func32, Tryd.ntmps32
  go_wp2_with (go_at_call 53; refine ht.mono ?_; rintro e w1 ⟨rfl, hb1⟩)
  go_ret2
  exact ⟨rfl, hb1⟩
end Go.Proofs.YtmnibfdenmeepaaDoor
/- A region that draws its order and ends in two variables made and written: one reading may come before or behind the first store. -/
namespace Go.Proofs.YtmnibfdenmeepaaDoor
open Go.RowKit Go.Shelf Big

/-- Operations before m: Pr i of the slot s i, once i has come; x alone may come behind m; p and q make two blocks; from m on: Fin. -/
structure RegTwo (I : World → Prop) (m x p q : Nat) (s : Nat → Nat) (Pr : Nat → Value → World → Prop) (Fin : (Nat → Bool) → (Nat → Value) → World → Prop) (L : Nat → Bool) (u : Nat → Value) (w' : World) : Prop where
  inv : L m = false → I w'
  each : ∀ i, i < m → L m = false → L i = true → Pr i (u (s i)) w'
  ext : L m = false → L p = true → L q = true → u (s p) ≠ u (s q)
  fin : L m = true → Fin L u w'
  all : L m = true → ∀ i, i < m → i ≠ x → L i = true
  aft : ∀ j, m < j → L j = true → L m = true
theorem RegTwo.start {I : World → Prop} {m x p q : Nat} {s : Nat → Nat} {Pr : Nat → Value → World → Prop} {Fin : (Nat → Bool) → (Nat → Value) → World → Prop} {L : Nat → Bool} {u : Nat → Value} {w : World} (h : ∀ i, L i = false) (hI : I w) : RegTwo I m x p q s Pr Fin L u w :=
  ⟨fun _ => hI, fun i _ _ h1 => (by rw [h i] at h1; cases h1), fun _ h1 => (by rw [h p] at h1; cases h1), fun h1 => (by rw [h m] at h1; cases h1), fun h1 => (by rw [h m] at h1; cases h1), fun j _ h1 => (by rw [h j] at h1; cases h1)⟩
theorem RegTwo.not {I : World → Prop} {w1 : World} {m x p q : Nat} {s : Nat → Nat} {Pr : Nat → Value → World → Prop} {Fin : (Nat → Bool) → (Nat → Value) → World → Prop} {L : Array Bool} {u : Nat → Value} (F : RegTwo I m x p q s Pr Fin (fun j => L.getD j false) u w1) (k : Nat) (hkn : k ≤ m) (hkx : k ≠ x) (hk : L.getD k true = false) : L.getD m false = false := by
  cases h1 : L.getD m false with
  | false => rfl
  | true =>
    rcases Nat.lt_or_ge k m with h2 | h2
    · have h3 := F.all h1 k h2 hkx
      have h4 := false_of hk
      rw [h4] at h3
      cases h3
    · obtain rfl : k = m := by omega
      have h4 := false_of hk
      rw [h4] at h1
      cases h1
theorem RegTwo.put {I : World → Prop} {w1 w2 : World} {m x p q : Nat} {s : Nat → Nat} {Pr : Nat → Value → World → Prop} {Fin : (Nat → Bool) → (Nat → Value) → World → Prop} {L : Array Bool} {u : Nat → Value} {v : Value} (i : Nat) (F : RegTwo I m x p q s Pr Fin (fun j => L.getD j false) u w1)
    (hst : Stays m Pr) (hi : i < m) (hs : ∀ j, j < m → j ≠ i → s j ≠ s i) (hp : p < m) (hq : q < m) (hpq : p ≠ q) (hln : L.getD m false = false) (hb : Below w1.heap.size w1 w2) (hI : I w2) (hx : Pr i v w2)
    (he : (i = p → L.getD q false = true → v ≠ u (s q)) ∧ (i = q → L.getD p false = true → u (s p) ≠ v)) :
    RegTwo I m x p q s Pr Fin (fun j => (L.setIfInBounds i true).getD j false) (upd u (s i) v) w2 := by
  have hset : ∀ j, j ≠ i → (L.setIfInBounds i true).getD j false = L.getD j false := fun j hj => by
    simp only [Array.getD_eq_getD_getElem?]
    rw [Array.getElem?_setIfInBounds_ne (by omega)]
  have hn' := (hset m (by omega)).trans hln
  refine ⟨fun _ => hI, fun j hj _ h1 => ?_, fun _ h1 h2 => ?_, fun h => ?_, fun h => ?_, fun j hj h => ?_⟩
  · by_cases e : j = i
    · subst e
      rw [upd_eq]
      exact hx
    · rw [upd_ne (hs j hj e)]
      rcases set_true h1 with h | h
      · exact absurd h e
      · exact hst j _ _ _ hj hb (F.each j hj hln h)
  · by_cases e : p = i
    · subst e
      rw [upd_eq, upd_ne (hs q hq (Ne.symm hpq))]
      exact he.1 rfl ((hset q (Ne.symm hpq)).symm.trans h2)
    · by_cases e2 : q = i
      · subst e2
        rw [upd_eq, upd_ne (hs p hp e)]
        exact he.2 rfl ((hset p e).symm.trans h1)
      · rw [upd_ne (hs p hp e), upd_ne (hs q hq e2)]
        exact F.ext hln ((hset p e).symm.trans h1) ((hset q e2).symm.trans h2)
  · rw [hn'] at h; cases h
  · rw [hn'] at h; cases h
  · rw [hset j (by omega)] at h
    have := F.aft j hj h
    rw [hln] at this
    cases this
/-- Operation m comes. -/
theorem RegTwo.last {I : World → Prop} {w1 w2 : World} {m x p q : Nat} {s : Nat → Nat} {Pr : Nat → Value → World → Prop} {Fin : (Nat → Bool) → (Nat → Value) → World → Prop} {L : Array Bool} {u u' : Nat → Value} (F : RegTwo I m x p q s Pr Fin (fun j => L.getD j false) u w1) (hxm : x < m) (hnl : L.getD m true = false)
    (hall : ∀ i, i < m → i ≠ x → L.getD i false = true) (hx : (∀ j, m < j → (L.setIfInBounds m true).getD j false = false) → ((L.setIfInBounds m true).getD x false = L.getD x false) → Fin (fun j => (L.setIfInBounds m true).getD j false) u' w2) : RegTwo I m x p q s Pr Fin (fun j => (L.setIfInBounds m true).getD j false) u' w2 := by
  have hlt : m < L.size := by
    rcases Nat.lt_or_ge m L.size with h | h
    · exact h
    · simp [Array.getD, Nat.not_lt.2 h] at hnl
  have hln := false_of hnl
  have hset : ∀ j, j ≠ m → (L.setIfInBounds m true).getD j false = L.getD j false := fun j hj => by
    simp only [Array.getD_eq_getD_getElem?]
    rw [Array.getElem?_setIfInBounds_ne (by omega)]
  have hyes : (L.setIfInBounds m true).getD m false = true := by
    simp [Array.getD_eq_getD_getElem?, hlt]
  refine ⟨fun h => ?_, fun j _ h => ?_, fun h => ?_, fun _ => hx (fun j hj => ?_) (hset x (by omega)), fun _ i hi hix => ?_, fun j _ _ => hyes⟩
  · rw [hyes] at h; cases h
  · rw [hyes] at h; cases h
  · rw [hyes] at h; cases h
  · rw [hset j (by omega)]
    cases h : L.getD j false with
    | false => rfl
    | true => have := F.aft j hj h; rw [hln] at this; cases this
  · rw [hset i (by omega)]
    exact hall i hi hix
/-- An operation behind m comes (x among them). -/
theorem RegTwo.post {I : World → Prop} {w1 w2 : World} {m x p q : Nat} {s : Nat → Nat} {Pr : Nat → Value → World → Prop} {Fin : (Nat → Bool) → (Nat → Value) → World → Prop} {L : Array Bool} {u u' : Nat → Value} (k : Nat) (F : RegTwo I m x p q s Pr Fin (fun j => L.getD j false) u w1) (hk : m < k ∨ k = x) (hxm : x < m)
    (hn : L.getD m false = true) (hx : Fin (fun j => (L.setIfInBounds k true).getD j false) u' w2) : RegTwo I m x p q s Pr Fin (fun j => (L.setIfInBounds k true).getD j false) u' w2 := by
  have hset : ∀ j, j ≠ k → (L.setIfInBounds k true).getD j false = L.getD j false := fun j hj => by
    simp only [Array.getD_eq_getD_getElem?]
    rw [Array.getElem?_setIfInBounds_ne (by omega)]
  have hn' := (hset m (by omega)).trans hn
  refine ⟨fun h => ?_, fun j _ h => ?_, fun h => ?_, fun _ => hx, fun _ i hi hix => ?_, fun j _ _ => hn'⟩
  · rw [hn'] at h; cases h
  · rw [hn'] at h; cases h
  · rw [hn'] at h; cases h
  · rw [hset i (by omega)]
    exact F.all hn i hi hix
section
variable {P : Program} {ops : Array Oper} {Q : Exit → Act → World → Prop}
theorem wpAny_inv2 {Inv : Array Bool → Act → World → Prop}
    (hord : ∀ (i : Nat) (o : Oper), ops[i]? = some o → ∀ e ∈ o.after, Region.binds .any e = true → e.on < i)
    (step : ∀ (listed : Array Bool) (a : Act) (w : World) (i : Nat), Inv listed a w → i < ops.size → listed.getD i true = false → (∀ (o : Oper), ops[i]? = some o → ∀ e ∈ o.after, Region.binds .any e = true → listed.getD e.on false = true) → wpOp P ops Q i (fun a' w' => Inv (listed.setIfInBounds i true) a' w') a w)
    (fin : ∀ listed a w, Inv listed a w → (∀ i, i < ops.size → listed.getD i false = true) → Q .normal a w) :
    ∀ (fuel : Nat) (listed : Array Bool) (a : Act) (w : World), listed.size = ops.size → unlisted listed ops.size ≤ fuel → Inv listed a w → wpAny P .any ops Q fuel listed a w := by
  have done : ∀ listed a w, listed.size = ops.size → Region.ready .any ops listed = [] → Inv listed a w → Q .normal a w := by
    intro listed a w hs hr hI
    refine fin listed a w hI ?_
    intro i
    induction i using Nat.strongRecOn with
    | _ i ih =>
      intro hi
      cases hl : listed.getD i false with
      | true => rfl
      | false =>
        exfalso
        have hd : listed.getD i true = false := by
          simp only [Array.getD_eq_getD_getElem?] at hl ⊢
          rw [Array.getElem?_eq_getElem (by omega)] at hl ⊢
          simpa using hl
        have hm : i ∈ Region.ready .any ops listed := by
          unfold Region.ready
          rw [List.mem_filter]
          refine ⟨List.mem_range.2 hi, ?_⟩
          rw [hd, Array.getElem?_eq_getElem hi]
          simp only [Bool.not_false, Bool.true_and, Option.map_some, Option.getD_some, Array.all_eq_true_iff_forall_mem, Bool.or_eq_true, Bool.not_eq_true']
          intro e he
          cases hb : Region.binds .any e with
          | false => exact .inl rfl
          | true =>
            refine .inr (ih e.on (hord i _ (Array.getElem?_eq_getElem hi) e he hb) ?_)
            have := hord i _ (Array.getElem?_eq_getElem hi) e he hb
            omega
        rw [hr] at hm
        cases hm
  intro fuel
  induction fuel with
  | zero =>
    intro listed a w hs hu hI
    have hr : Region.ready .any ops listed = [] := by
      apply List.eq_nil_iff_forall_not_mem.2
      intro i hi
      obtain ⟨h1, h2, _⟩ := ready_spec hi
      have := unlisted_set listed ops.size i h1 h2
      omega
    exact ⟨hr, done listed a w hs hr hI⟩
  | succ fuel ih =>
    intro listed a w hs hu hI
    refine ⟨fun hr => done listed a w hs hr hI, fun i hi => ?_⟩
    obtain ⟨h1, h2, h3⟩ := ready_spec hi
    refine wpOp_mono (fun a' w' hI' => ih _ a' w' (by simpa using hs) ?_ hI') (step listed a w i hI h1 h2 h3)
    have := unlisted_set listed ops.size i h1 h2
    omega
/-- Ties that bind lie ahead. -/
def ordB2 (ops : Array Oper) : Bool := ops.toList.zipIdx.all fun x => x.1.after.all fun e => !Region.binds .any e || decide (e.on < x.2)
theorem ord_of2 (h : ordB2 ops = true) : ∀ (i : Nat) (o : Oper), ops[i]? = some o → ∀ e ∈ o.after, Region.binds .any e = true → e.on < i := by
  intro i o ho e he hb
  have h1 := List.all_eq_true.1 h (o, i) (by
    rw [List.mem_zipIdx_iff_getElem?]
    simpa using ho)
  have h2 := (Array.all_eq_true_iff_forall_mem.1 h1) e he
  rw [hb] at h2
  simpa using h2
theorem wp_region_inv2 {Inv : Array Bool → Act → World → Prop} {id : Nat} {a : Act} {w : World} (hm : P.follows .mixedOrders = true)
    (hord : ∀ (i : Nat) (o : Oper), ops[i]? = some o → ∀ e ∈ o.after, Region.binds .any e = true → e.on < i) (h0 : Inv (Array.replicate ops.size false) a w.drew)
    (step : ∀ (listed : Array Bool) (a : Act) (w : World) (i : Nat), Inv listed a w → i < ops.size → listed.getD i true = false → (∀ (o : Oper), ops[i]? = some o → ∀ e ∈ o.after, Region.binds .any e = true → listed.getD e.on false = true) → wpOp P ops Q i (fun a' w' => Inv (listed.setIfInBounds i true) a' w') a w)
    (fin : ∀ listed a w, Inv listed a w → (∀ i, i < ops.size → listed.getD i false = true) → Q .normal a w) : (Code.region id ops true).wp P Q a w := by
  refine wp_region_any hm (wpAny_inv2 hord step fin ops.size _ a _ (by simp) ?_ h0)
  unfold unlisted
  have := List.countP_le_length (p := fun i => !(Array.replicate ops.size false).getD i true) (l := List.range ops.size)
  simpa using this
end
/-- A number in a block. -/
def NumAt (w : World) (B g : Nat) (Z : Int) : Prop := ∃ a l c, Has w g 51 #[.bool (decide (Z < 0)), .slice a l c] ∧ DecIs w B (.slice a l c) Z.natAbs
def NumV (w : World) (B : Nat) (v : Value) (Z : Int) : Prop := ∃ a l c, v = .agg #[.bool (decide (Z < 0)), .slice a l c] ∧ DecIs w B (.slice a l c) Z.natAbs
theorem NumV.kept {w w' : World} {B : Nat} {v : Value} {Z : Int} (h : NumV w B v Z) (hb : Below w.heap.size w w') : NumV w' B v Z := by
  obtain ⟨a, l, c, e, hd⟩ := h
  exact ⟨a, l, c, e, hd.kept hb⟩
theorem DecIs.far2 {w : World} {B n g : Nat} {v : Value} {cs : Array Value} (h : DecIs w B v n) (hg : Has w g 51 cs) (x y : Value) : DecIs ((w.setCell ⟨g, 0, none⟩ x).setCell ⟨g, 1, none⟩ y) B v n :=
  (h.apart (h.notNum hg) 0 x).apart (h.notNum hg) 1 y
/-- Two made variables after the first store: what has been read, what has been written. -/
structure TwoDone (b B : Nat) (w0 : World) (x y s6 s7 s11 s16 : Nat) (Q R : Int) (g6 g7 : Nat) (L : Nat → Bool) (u : Nat → Value) (w : World) : Prop where
  e6 : u s6 = .pointer (some ⟨g6, 0, none⟩)
  e7 : u s7 = .pointer (some ⟨g7, 0, none⟩)
  e11 : ∃ v1 v2, u s11 = .tuple #[v1, v2] ∧ NumV w B v2 R
  e16 : L x = true → NumV w B (u s16) R
  h6 : NumAt w B g6 Q
  h7 : L y = true → NumAt w B g7 R
  h7' : L y = false → Has w g7 51 #[.bool false, .slice none 0 0]
  b6 : b ≤ g6
  b7 : b ≤ g7
  ne : g6 ≠ g7
  bel : Below b w0 w
theorem two_first {b B : Nat} {w0 w : World} {x y s6 s7 s11 s16 : Nat} {Q R : Int} {g6 g7 : Nat} {L L' : Nat → Bool} {u : Nat → Value} {aq : Option Addr} {lq cq : Nat} {c6 : Array Value}
    (e6 : u s6 = .pointer (some ⟨g6, 0, none⟩)) (e7 : u s7 = .pointer (some ⟨g7, 0, none⟩)) (hne : u s6 ≠ u s7) (b6 : b ≤ g6) (b7 : b ≤ g7)
    (e11 : ∃ v1 v2, u s11 = .tuple #[v1, v2] ∧ NumV w B v2 R) (e16 : L x = true → NumV w B (u s16) R) (hq : DecIs w B (.slice aq lq cq) Q.natAbs)
    (h6 : Has w g6 51 c6) (h62 : c6 = #[.bool false, .slice none 0 0]) (h7 : Has w g7 51 #[.bool false, .slice none 0 0]) (hb : Below b w0 w) (hx : L' x = L x) (hy : L' y = false) :
    TwoDone b B w0 x y s6 s7 s11 s16 Q R g6 g7 L' u ((w.setCell ⟨g6, 0, none⟩ (.bool (decide (Q < 0)))).setCell ⟨g6, 1, none⟩ (.slice aq lq cq)) := by
  subst h62
  have hne2 : g6 ≠ g7 := fun e => hne (by rw [e6, e7, e])
  refine ⟨e6, e7, ?_, fun h => ?_, ⟨aq, lq, cq, h6.put2 _ _, hq.far2 h6 _ _⟩, fun h => ?_, fun _ => h7.far2 (Ne.symm hne2) _ _, b6, b7, hne2, (hb.setCell (p := ⟨g6, 0, none⟩) b6 _).setCell (p := ⟨g6, 1, none⟩) b6 _⟩
  · obtain ⟨v1, v2, e, a, l, c, ev, hd⟩ := e11
    exact ⟨v1, v2, e, a, l, c, ev, hd.far2 h6 _ _⟩
  · obtain ⟨a, l, c, ev, hd⟩ := e16 (hx.symm.trans h)
    exact ⟨a, l, c, ev, hd.far2 h6 _ _⟩
  · rw [hy] at h; cases h
theorem two_read {b B : Nat} {w0 w : World} {x y s6 s7 s11 s16 : Nat} {Q R : Int} {g6 g7 : Nat} {L L' : Nat → Bool} {u : Nat → Value} (T : TwoDone b B w0 x y s6 s7 s11 s16 Q R g6 g7 L u w) (h6 : s6 ≠ s16) (h7 : s7 ≠ s16) (h11 : s11 ≠ s16) (hy : L' y = L y) :
    ∃ v1 v2, u s11 = .tuple #[v1, v2] ∧ TwoDone b B w0 x y s6 s7 s11 s16 Q R g6 g7 L' (upd u s16 v2) w := by
  obtain ⟨v1, v2, e, hn⟩ := T.e11
  refine ⟨v1, v2, e, ?_, ?_, ⟨v1, v2, ?_, hn⟩, fun _ => ?_, T.h6, fun h => T.h7 (hy.symm.trans h), fun h => T.h7' (hy.symm.trans h), T.b6, T.b7, T.ne, T.bel⟩
  · rw [upd_ne h6]; exact T.e6
  · rw [upd_ne h7]; exact T.e7
  · rw [upd_ne h11]; exact e
  · rw [upd_eq]; exact hn
theorem two_second {b B : Nat} {w0 w : World} {x y s6 s7 s11 s16 : Nat} {Q R : Int} {g6 g7 : Nat} {L L' : Nat → Bool} {u : Nat → Value} (T : TwoDone b B w0 x y s6 s7 s11 s16 Q R g6 g7 L u w) (hx : L x = true) (hy : L y = false) (hy' : L' y = true) :
    ∃ a l c, u s16 = .agg #[.bool (decide (R < 0)), .slice a l c] ∧ Has w g7 51 #[.bool false, .slice none 0 0] ∧ TwoDone b B w0 x y s6 s7 s11 s16 Q R g6 g7 L' u ((w.setCell ⟨g7, 0, none⟩ (.bool (decide (R < 0)))).setCell ⟨g7, 1, none⟩ (.slice a l c)) := by
  obtain ⟨a, l, c, e, hd⟩ := T.e16 hx
  have h7 := T.h7' hy
  refine ⟨a, l, c, e, h7, T.e6, T.e7, ?_, fun _ => ⟨a, l, c, e, hd.far2 h7 _ _⟩, ?_, fun _ => ⟨a, l, c, h7.put2 _ _, hd.far2 h7 _ _⟩, fun h => ?_, T.b6, T.b7, T.ne, (T.bel.setCell (p := ⟨g7, 0, none⟩) T.b7 _).setCell (p := ⟨g7, 1, none⟩) T.b7 _⟩
  · obtain ⟨v1, v2, e, a, l, c, ev, hd⟩ := T.e11
    exact ⟨v1, v2, e, a, l, c, ev, hd.far2 h7 _ _⟩
  · obtain ⟨a, l, c, hg, hd⟩ := T.h6
    exact ⟨a, l, c, hg.far2 T.ne _ _, hd.far2 h7 _ _⟩
  · rw [hy'] at h; cases h
end Go.Proofs.YtmnibfdenmeepaaDoor
