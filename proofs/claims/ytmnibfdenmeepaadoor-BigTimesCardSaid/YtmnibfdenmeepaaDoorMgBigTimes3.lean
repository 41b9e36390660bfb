/- The texts Sub Minus, one behind the other. -/
import Derived.Test.YtmnibfdenmeepaaDoorMgBigTimes2
import Derived.Laws.BitsLemmas
import Derived.Lib.EndianBits
/- Differences of words. -/
namespace Go.Proofs.YtmnibfdenmeepaaDoor
open Go.RowKit Go.Shelf Big

/-- The highest bit of a word. -/
def hi (n : Nat) : Bool := decide (2147483648 ≤ n)
theorem msb_hi (v : BitVec 32) : hi v.toNat = v.msb := by rw [BitVec.msb_eq_decide]; rfl
theorem ofNat_msb (a : Nat) (h : a < 4294967296) : (BitVec.ofInt 32 (a : Int)).msb = hi a := by
  rw [← msb_hi, BitVec.toNat_ofInt]
  congr 1
  omega
theorem wrap_bv (v : BitVec 32) : IntKind.u32.wrap (v.toNat : Int) = (v.toNat : Int) := by
  have := v.isLt
  rw [IntKind.wrap_u32]
  omega
theorem or_hi (a b : Nat) (ha : a < 4294967296) (hb : b < 4294967296) : ∃ c : Nat, bits .or .u32 (a : Int) (b : Int) = c ∧ c < 4294967296 ∧ hi c = (hi a || hi b) :=
  ⟨(BitVec.ofInt 32 (a : Int) ||| BitVec.ofInt 32 (b : Int)).toNat, wrap_bv _, BitVec.isLt _, by rw [msb_hi, BitVec.msb_or, ofNat_msb a ha, ofNat_msb b hb]⟩
theorem and_hi (a b : Nat) (ha : a < 4294967296) (hb : b < 4294967296) : ∃ c : Nat, bits .and .u32 (a : Int) (b : Int) = c ∧ c < 4294967296 ∧ hi c = (hi a && hi b) :=
  ⟨(BitVec.ofInt 32 (a : Int) &&& BitVec.ofInt 32 (b : Int)).toNat, wrap_bv _, BitVec.isLt _, by rw [msb_hi, BitVec.msb_and, ofNat_msb a ha, ofNat_msb b hb]⟩
theorem xor_hi (a b : Nat) (ha : a < 4294967296) (hb : b < 4294967296) : ∃ c : Nat, bits .xor .u32 (a : Int) (b : Int) = c ∧ c < 4294967296 ∧ hi c = (hi a ^^ hi b) :=
  ⟨(BitVec.ofInt 32 (a : Int) ^^^ BitVec.ofInt 32 (b : Int)).toNat, wrap_bv _, BitVec.isLt _, by rw [msb_hi, BitVec.msb_xor, ofNat_msb a ha, ofNat_msb b hb]⟩
theorem max_u32 : IntKind.u32.max = ((4294967295 : Nat) : Int) := by decide

/-- What is borrowed. -/
def bor (x y c : Nat) : Nat := if x < y + c then 1 else 0
def dif (x y c : Nat) : Nat := (x + 8589934592 - y - c) % 4294967296
theorem dif_int (x y c : Nat) (hy : y < 4294967296) (hc : c ≤ 1) : ((x : Int) - y - c) % 4294967296 = (dif x y c : Int) := by
  unfold dif; omega
theorem bor_bits (x y c : Nat) (hx : x < 4294967296) (hy : y < 4294967296) (hc : c ≤ 1) :
    bits BinOp.or IntKind.u32 (bits BinOp.and IntKind.u32 (bits BinOp.xor IntKind.u32 IntKind.u32.max (x : Int)) (y : Int))
      (bits BinOp.and IntKind.u32 (bits BinOp.xor IntKind.u32 IntKind.u32.max (bits BinOp.xor IntKind.u32 (x : Int) (y : Int))) (((x : Int) - y - c) % 4294967296)) / 2147483648 = (bor x y c : Int) := by
  rw [dif_int x y c hy hc, max_u32]
  have hd : dif x y c < 4294967296 := Nat.mod_lt _ (by decide)
  obtain ⟨a1, e1, l1, h1⟩ := xor_hi 4294967295 x (by decide) hx
  obtain ⟨a2, e2, l2, h2⟩ := and_hi a1 y l1 hy
  obtain ⟨a3, e3, l3, h3⟩ := xor_hi x y hx hy
  obtain ⟨a4, e4, l4, h4⟩ := xor_hi 4294967295 a3 (by decide) l3
  obtain ⟨a5, e5, l5, h5⟩ := and_hi a4 (dif x y c) l4 hd
  obtain ⟨a6, e6, l6, h6⟩ := or_hi a2 a5 l2 l5
  rw [e1, e2, e3, e4, e5, e6]
  rw [h2, h1, h5, h4, h3] at h6
  have ht : hi 4294967295 = true := rfl
  rw [ht] at h6
  have hD : dif x y c = (x + 8589934592 - y - c) % 4294967296 := rfl
  generalize dif x y c = d at h6 hd hD
  unfold bor
  unfold hi at h6
  by_cases g1 : 2147483648 ≤ x <;> by_cases g2 : 2147483648 ≤ y <;> by_cases g3 : 2147483648 ≤ d
  all_goals
    simp only [g1, g2, g3, decide_true, decide_false, Bool.xor_true, Bool.xor_false, Bool.not_true, Bool.not_false, Bool.and_true, Bool.and_false, Bool.or_true, Bool.or_false, decide_eq_true_eq, decide_eq_false_iff_not] at h6
    split <;> omega

theorem sub32_any (x y c : Nat) (w : World) (hx : x < 4294967296) (hy : y < 4294967296) (hc : c ≤ 1) :
    Calls Tryd.prog 129 #[.int .u32 (x : Int), .int .u32 (y : Int), .int .u32 (c : Int)] w fun e w' => e = .returned (.tuple #[.int .u32 (dif x y c : Int), .int .u32 (bor x y c : Int)]) ∧ w = w' := by
  have HB := Lib.hid (bor_bits x y c hx hy hc)
  have HD := Lib.hid (dif_int x y c hy hc)
  have hsg : IntKind.u32.signed = false := rfl
  obtain ⟨D, hD⟩ : ∃ D, dif x y c = D := ⟨_, rfl⟩
  obtain ⟨R, hR⟩ : ∃ R, bor x y c = R := ⟨_, rfl⟩
  rw [hD, hR]
  rw [hD] at HD
  rw [hR] at HB
  clear hD hR
  go_enter Tryd.func129, Tryd.ntmps129
  go_wp2
  go_ret2
  refine ⟨?_, rfl⟩
  show Ending.returned (.tuple #[.int .u32 ((((x : Int) - y) % 4294967296 - c) % 4294967296), .int .u32 (bits BinOp.or IntKind.u32 (bits BinOp.and IntKind.u32 (bits BinOp.xor IntKind.u32 IntKind.u32.max (x : Int)) (y : Int))
      (bits BinOp.and IntKind.u32 (bits BinOp.xor IntKind.u32 IntKind.u32.max (bits BinOp.xor IntKind.u32 (x : Int) (y : Int))) (((x : Int) - y - c) % 4294967296)) / 2147483648)]) = _
  rw [HB.out, show (((x : Int) - y) % 4294967296 - c) % 4294967296 = D by rw [← HD.out]; omega]
end Go.Proofs.YtmnibfdenmeepaaDoor
/- The difference of two numbers in words. -/
namespace Go.Proofs.YtmnibfdenmeepaaDoor
open Go.RowKit Go.Shelf Big

attribute [local go_sem] Oper.semAt_some

/-- What a round leaves of the difference. -/
def MinI (g B1 B2 C : Nat) (w : World) (pre : List Pr) (W : World) : Prop :=
  ∃ (out : List Nat) (c : Nat), (∃ v, Boxed W B1 44 v ∧ W.ownsRow w.heap.size 75 1 v out.length (out.map u32v) ∧ v = .slice (some ⟨g, 0, none⟩) out.length C) ∧ Boxed W B2 75 (.int .u32 (c : Int)) ∧
    (out.length = pre.length ∧ c ≤ 1 ∧ Small out ∧ ev 4294967296 out + ev 4294967296 (snds pre) = ev 4294967296 (fsts pre) + 4294967296 ^ out.length * c) ∧ Below w.heap.size w W
theorem minI_own (g B1 B2 C : Nat) (w : World) (B : Nat) (hB : w.heap.size ≤ B) : OwnFrom B (MinI g B1 B2 C w) := by
  rintro s X Y row ⟨out, c, h1, h2, h3, h4⟩ hg hr
  refine ⟨out, c, ?_, ?_, h3, ownFrom_below (β := List Pr) (Nat.le_refl _) hB s X Y row h4 hg hr⟩
  · exact (Own.from (holdsRow_own (β := List Pr) w.heap.size B1 44 75 1 (fun _ => out.length) (fun _ => out.map u32v) (fun _ v => v = .slice (some ⟨g, 0, none⟩) out.length C)) B) s X Y row h1 hg hr
  · exact (Own.from (boxed_own (β := List Pr) B2 75 (fun _ => .int .u32 (c : Int))) B) s X Y row h2 hg hr

theorem dif_bor (x y c : Nat) (hx : x < 4294967296) (hy : y < 4294967296) (hc : c ≤ 1) : dif x y c + (y + c) = x + 4294967296 * bor x y c ∧ bor x y c ≤ 1 ∧ dif x y c < 4294967296 := by
  unfold dif bor
  split <;> omega
theorem minus_step (out : List Nat) (pre : List Pr) (x : Pr) (c : Nat) (hl : out.length = pre.length) (hc : c ≤ 1) (hs : Small out)
    (he : ev 4294967296 out + ev 4294967296 (snds pre) = ev 4294967296 (fsts pre) + 4294967296 ^ out.length * c) :
    (out ++ [dif x.1.1 x.1.2 c]).length = (pre ++ [x]).length ∧ bor x.1.1 x.1.2 c ≤ 1 ∧ Small (out ++ [dif x.1.1 x.1.2 c]) ∧
    ev 4294967296 (out ++ [dif x.1.1 x.1.2 c]) + ev 4294967296 (snds (pre ++ [x])) = ev 4294967296 (fsts (pre ++ [x])) + 4294967296 ^ (out ++ [dif x.1.1 x.1.2 c]).length * bor x.1.1 x.1.2 c := by
  obtain ⟨h1, h2, h3⟩ := dif_bor x.1.1 x.1.2 c x.2.1 x.2.2 hc
  refine ⟨by simp [hl], h2, ?_, ?_⟩
  · intro d hd
    rcases List.mem_append.1 hd with hd | hd
    · exact hs d hd
    · simp at hd; omega
  · rw [fsts_snoc, snds_snoc, ev_snoc, ev_snoc, ev_snoc, fsts_length, snds_length, List.length_append, List.length_singleton, ← hl, Nat.pow_succ, Nat.mul_assoc]
    have e2 : 4294967296 ^ out.length * (dif x.1.1 x.1.2 c + (x.1.2 + c)) = 4294967296 ^ out.length * (x.1.1 + 4294967296 * bor x.1.1 x.1.2 c) := by rw [h1]
    rw [Nat.mul_add, Nat.mul_add, Nat.mul_add] at e2
    omega
theorem lims_len_mono {m k : Nat} (h : k ≤ m) : (lims 4294967296 k).length ≤ (lims 4294967296 m).length := by
  rw [lims_len_le w32_ge]
  have := (lims_len_le w32_ge m _).1 (Nat.le_refl _)
  omega

set_option maxRecDepth 100000 in
set_option maxHeartbeats 4000000 in
theorem minus_any (B1 B2 m k : Nat) (va vb : Value) (w : World) (ha : NatIs w B1 va m) (hb : NatIs w B2 vb k) (hla : (lims 4294967296 m).length ≤ 100000) (hkm : k ≤ m) :
    Calls Tryd.prog 108 #[va, vb] w fun e w' => (∃ v, e = .returned v ∧ NatIs w' w.heap.size v (m - k)) ∧ Below w.heap.size w w' := by
  obtain ⟨i0, hi, hz0, hz1, hz2⟩ := info_parts Tryd.info75
  have hlb : (lims 4294967296 k).length ≤ 100000 := Nat.le_trans (lims_len_mono hkm) hla
  obtain ⟨ao, ca, rfl, ra⟩ := ha.reads hla
  obtain ⟨bo, cb, rfl, rb⟩ := hb.reads hlb
  have HC : Hid (ev 4294967296 (fsts (upto m k (max (lims 4294967296 m).length (lims 4294967296 k).length))) = m ∧ ev 4294967296 (snds (upto m k (max (lims 4294967296 m).length (lims 4294967296 k).length))) = k) := Lib.hid (by
    rw [ev_fsts_upto, ev_snds_upto, mod_max_l (Nat.le_max_left _ _), mod_max_l (Nat.le_max_right _ _)]
    exact ⟨rfl, rfl⟩)
  have hba := lims_len_mono hkm
  have HM := Lib.hid hkm
  revert ra rb HC hla hlb hba
  generalize (lims 4294967296 m).length = la
  generalize (lims 4294967296 k).length = lb
  intro hla hlb ra rb HC hba
  clear ha hb hkm
  refine (callsIn_wide (n := 5)).1 ?_
  refine callsIn_of_wp_marks Tryd.func108 rfl trivial ?_ rfl
  simp only [Tryd.ntmps108, List.size_toArray, List.length_cons, List.length_nil, Nat.reduceAdd, Nat.reduceSub, Array.replicate_succ, Array.replicate_zero, List.push_toArray, List.append_toArray, List.nil_append, List.cons_append]
  obtain ⟨C, hC1, hC2, hC3⟩ : ∃ C, max la lb ≤ C ∧ C ≤ 100000 ∧ C ≤ la := ⟨la, by omega, by omega, by omega⟩
  have hmk : ∀ W, (Instr.makeSlice 44 (.int .i64 0) (.int .i64 (la : Int))).run Tryd.prog W = .ok (.slice (some ⟨W.heap.size, 0, none⟩) 0 C) (W.alloc (.cells (noughts C) 75)) := make_any _ _ 0 C rfl (by omega) (by omega) (by omega)
  gi_wp2_with (refine ⟨trivial, ?_⟩; gi_at_call 114; refine (digitPairs_in Fence.wide _ trivial rfl _ _ _ _ _ _ _).mono ?_; rintro e w' ⟨rfl, rfl⟩)
  obtain ⟨W0, hW0⟩ : ∃ W0, w.alloc (.cells (noughts C) 75) = W0 := ⟨_, rfl⟩
  rw [hW0]
  have hs0 : W0.heap.size = w.heap.size + 1 := by rw [← hW0, World.size_alloc]
  have hb0 : Below w.heap.size w W0 := by rw [← hW0]; exact (Below.refl _ w).alloc (Nat.le_refl _) _
  have ho0 : W0.ownsRow w.heap.size 75 1 (.slice (some ⟨w.heap.size, 0, none⟩) 0 C) 0 [] := by
    rw [← hW0]
    exact World.ownsRow_made w _ C (Nat.le_refl _) (by unfold maxLen; omega) (by rw [noughts_size]; omega)
  clear hW0 hmk
  have bO : Boxed (W0.alloc (.cells #[.slice (some ⟨w.heap.size, 0, none⟩) 0 C] 44)) (w.heap.size + 1) 44 (.slice (some ⟨w.heap.size, 0, none⟩) 0 C) := Boxed.new' hs0 _ _
  have bC : Boxed ((W0.alloc (.cells #[.slice (some ⟨w.heap.size, 0, none⟩) 0 C] 44)).alloc (.cells #[.int .u32 0] 75)) (w.heap.size + 1 + 1) 75 (.int .u32 0) := Boxed.new' (by rw [World.size_alloc, hs0]) _ _
  have bA : Boxed (((W0.alloc (.cells #[.slice (some ⟨w.heap.size, 0, none⟩) 0 C] 44)).alloc (.cells #[.int .u32 0] 75)).alloc (.cells #[.slice ao la ca] 44)) (w.heap.size + 1 + 1 + 1) 44 (.slice ao la ca) := Boxed.new' (by rw [World.size_alloc, World.size_alloc, hs0]) _ _
  have bB : Boxed ((((W0.alloc (.cells #[.slice (some ⟨w.heap.size, 0, none⟩) 0 C] 44)).alloc (.cells #[.int .u32 0] 75)).alloc (.cells #[.slice ao la ca] 44)).alloc (.cells #[.slice bo lb cb] 44)) (w.heap.size + 1 + 1 + 1 + 1) 44 (.slice bo lb cb) := Boxed.new' (by rw [World.size_alloc, World.size_alloc, World.size_alloc, hs0]) _ _
  have bO4 := ((bO.alloc (.cells #[.int .u32 0] 75)).alloc (.cells #[.slice ao la ca] 44)).alloc (.cells #[.slice bo lb cb] 44)
  have bC4 := (bC.alloc (.cells #[.slice ao la ca] 44)).alloc (.cells #[.slice bo lb cb] 44)
  have bA4 := bA.alloc (.cells #[.slice bo lb cb] 44)
  have ho4 := (((ho0.alloc (.cells #[.slice (some ⟨w.heap.size, 0, none⟩) 0 C] 44)).alloc (.cells #[.int .u32 0] 75)).alloc (.cells #[.slice ao la ca] 44)).alloc (.cells #[.slice bo lb cb] 44)
  have hb4 := (((hb0.alloc (by omega) (.cells #[.slice (some ⟨w.heap.size, 0, none⟩) 0 C] 44)).alloc (by simp; omega) (.cells #[.int .u32 0] 75)).alloc (by simp; omega) (.cells #[.slice ao la ca] 44)).alloc (by simp; omega) (.cells #[.slice bo lb cb] 44)
  have hs4 : ((((W0.alloc (.cells #[.slice (some ⟨w.heap.size, 0, none⟩) 0 C] 44)).alloc (.cells #[.int .u32 0] 75)).alloc (.cells #[.slice ao la ca] 44)).alloc (.cells #[.slice bo lb cb] 44)).heap.size = w.heap.size + 5 := by simp; omega
  clear bO bC bA ho0 hb0 hs0
  revert bO4 bC4 bA4 bB ho4 hb4 hs4
  generalize ((((W0.alloc (.cells #[.slice (some ⟨w.heap.size, 0, none⟩) 0 C] 44)).alloc (.cells #[.int .u32 0] 75)).alloc (.cells #[.slice ao la ca] 44)).alloc (.cells #[.slice bo lb cb] 44)) = W4
  intro bB bO4 bC4 bA4 ho4 hb4 hs4
  have ra4 := ra.below hb4
  have rb4 := rb.below hb4
  refine wpIn_rangeFunc_ownG (w := W4) rfl (by omega) (gf := 132) (lb := #[.pointer (some ⟨w.heap.size + 1 + 1 + 1, 0, none⟩), .pointer (some ⟨w.heap.size + 1 + 1 + 1 + 1, 0, none⟩)]) rfl trivial (enters_of Tryd.func132 (by kernel_rfl) rfl)
    (pairs_stops Fence.wide _ trivial rfl (by omega) (w.heap.size + 1 + 1 + 1) (w.heap.size + 1 + 1 + 1 + 1) w.heap.size ao bo la ca lb cb m k _ (by omega) (by omega) (by omega) bA4.cell bB.cell ra4 rb4) KpP.trans (KpP.put (by omega) (by omega) (by omega)) (Below.refl _ _) (fun _ => rfl)
    (MinI w.heap.size (w.heap.size + 1) (w.heap.size + 1 + 1) C w)
    (fun _ _ _ => False)
    (minI_own _ _ _ _ _ _ (by omega))
    (fun _ _ _ _ _ hs _ _ => hs)
    ⟨[], 0, ⟨_, bO4, ho4, rfl⟩, bC4, ⟨rfl, by omega, small_nil, rfl⟩, hb4⟩
    ?_ ?_ ?_ ?_ ?_
  rotate_left
  · intro l x W K hK
    gi_wp2
    exact hK
  · rintro l pre ⟨⟨x, y⟩, hx, hy⟩ W ⟨out, c, ⟨v, hv, hrow, rfl⟩, hvc, ⟨f1, f2, f3, f4⟩, hB⟩ hlt
    have HS := Lib.hid (minus_step out pre ⟨(x, y), hx, hy⟩ c f1 f2 f3 f4)
    have hol : out.length + 1 ≤ C := by omega
    have h4 := hv.cell
    have h5 := hv.frozen
    have h6 := hvc.cell
    have h7 := hvc.frozen
    have hz := hB.size
    dsimp only at hx hy HS ⊢
    clear f1 f3 f4
    obtain ⟨s, hs⟩ : ∃ s, dif x y c = s := ⟨_, rfl⟩
    obtain ⟨c', hc'⟩ : ∃ c', bor x y c = c' := ⟨_, rfl⟩
    have add := sub32_any x y c W hx hy f2
    rw [hs, hc'] at add HS
    clear hs hc'
    have hrow2 := hrow.kept (grownBy_setCell' W (w.heap.size + 1 + 1) (.int .u32 (c' : Int))) (.inr (by simp [Value.ownBlock]; omega))
    have hv2 := hv.other (B' := w.heap.size + 1 + 1) (by omega) (.int .u32 (c' : Int))
    have hvc2 := hvc.set (.int .u32 (c' : Int))
    gi_wp2_with (first
      | (refine ⟨trivial, ?_⟩; gi_at_call 129; refine (CallsIn.inRound l (callsIn_wide.2 add)).mono ?_; rintro e w' ⟨rfl, rfl⟩)
      | (gi_at_builtin; refine wpListIn_append_fits _ rfl _ _ 44 rfl w.heap.size 75 i0 1 Tryd.underlying44 hi hz1 w.heap.size out.length C _ rfl (hrow2.alloc _) ⟨W.heap.size, 0, none⟩ 1 1 [.int .u32 (s : Int)] rfl rfl (cell_one_new' (by simp)) (by simp [Value.oneCell']) (by omega) ?_; intro w1 hown' hgrow; have hv3 := (hv2.alloc (.cells #[.int .u32 (s : Int)] 75)).kept hgrow (by simp); have hc3 := hv3.cell; have hf3 := hv3.frozen))
    have hrow3 := hown'.kept (grownBy_setCell' w1 (w.heap.size + 1) (.slice (some ⟨w.heap.size, 0, none⟩) (out.length + 1) C)) (.inr (by simp [Value.ownBlock]))
    have hvc3 := ((hvc2.alloc (.cells #[.int .u32 (s : Int)] 75)).kept hgrow (by simp; omega)).other (B' := w.heap.size + 1) (by omega) (.slice (some ⟨w.heap.size, 0, none⟩) (out.length + 1) C)
    refine ⟨((((KeepsOthers.setCell W _ _).trans (KeepsOthers.alloc _ _)).from _).trans (KeepsFrom.of_grownBy hgrow (fun j e => by cases e; omega))).trans ((KeepsOthers.setCell _ _ _).from _),
      ((((KpP.refl _ _ _ W).setCell (by omega) _).alloc _).grown hgrow (fun j e => by cases e; omega)).setCell (by omega) _, out ++ [s], c', ⟨_, hv3.set _, ?_, ?_⟩, hvc3, HS.out, ?_⟩
    · simpa [u32v] using hrow3
    · simp
    · exact (((hB.setCell (p := ⟨w.heap.size + 1 + 1, 0, none⟩) (by simp; omega) _).alloc (by simp; omega) _).grown hgrow (by simp; omega) (fun j e => by cases e; omega)).setCell (p := ⟨w.heap.size + 1, 0, none⟩) (by simp) _
  · rintro D ys W hD rfl ⟨out, c, ⟨v, hv, hrow, rfl⟩, hvc, ⟨f1, f2, f3, f4⟩, hB⟩ hK
    have h4 := hv.cell
    have h5 := hv.frozen
    have hz := hB.size
    have hol : out.length ≤ C := by rw [f1, upto_length]; omega
    rw [HC.out.1, HC.out.2] at f4
    have HV := Lib.hid (show ev 4294967296 out = m - k by
      have h1 := ev_lt f3
      have hkm := HM.out
      rcases Nat.lt_or_ge 0 c with hc | hc
      · have : c = 1 := by omega
        subst this
        omega
      · have : c = 0 := by omega
        subst this
        omega)
    clear f1 f4
    have hDl := (Array.getElem?_eq_some_iff.1 hK).1
    gi_wp2_with (refine ⟨trivial, ?_⟩; gi_at_call 91; refine (callsIn_wide.2 (cut_any w.heap.size _ out W hrow f3 (by omega))).mono ?_; rintro e w2 ⟨⟨v', rfl, hnat⟩, rfl⟩; rw [HV.out] at hnat; obtain ⟨ao', c1, rfl⟩ := hnat.slice)
    refine ⟨by simp, .inl ⟨_, _, rfl, run_takeDeferred hK, ?_⟩⟩
    exact ⟨_, results_tmp rfl _ _ _, ⟨_, rfl, hnat.putObj _ hK rfl⟩, hB.trans (belowK_b (w := w) (Nat.le_refl _) W D _ _ (by omega) hK rfl rfl)⟩
  · rintro D c pre W _ _ h _
    exact h.elim
end Go.Proofs.YtmnibfdenmeepaaDoor
