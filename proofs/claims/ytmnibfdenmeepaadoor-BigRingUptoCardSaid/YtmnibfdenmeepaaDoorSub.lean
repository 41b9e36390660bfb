/- Differences of words. -/
import Derived.Laws.BitsLemmas
import Derived.Lib.EndianBits
import Derived.Test.YtmnibfdenmeepaaDoorPlus
namespace Go.Proofs.YtmnibfdenmeepaaDoor
open Go.RowKit Go.Shelf Big

/-- The highest bit of a word. -/
def hi (n : Nat) : Bool := decide (2147483648 ≤ n)
theorem msb_hi (v : BitVec 32) : hi v.toNat = v.msb := by rw [BitVec.msb_eq_decide]; rfl
theorem ofNat_msb (a : Nat) (h : a < 4294967296) : (BitVec.ofInt 32 (a : Int)).msb = hi a := by
  rw [← msb_hi, BitVec.toNat_ofInt]
  congr 1
  omega
theorem wrap_bv (v : BitVec 32) : IntKind.u32.wrap (v.toNat : Int) = (v.toNat : Int) := by
  have := v.isLt
  rw [IntKind.wrap_u32]
  omega
theorem or_hi (a b : Nat) (ha : a < 4294967296) (hb : b < 4294967296) : ∃ c : Nat, bits .or .u32 (a : Int) (b : Int) = c ∧ c < 4294967296 ∧ hi c = (hi a || hi b) :=
  ⟨(BitVec.ofInt 32 (a : Int) ||| BitVec.ofInt 32 (b : Int)).toNat, wrap_bv _, BitVec.isLt _, by rw [msb_hi, BitVec.msb_or, ofNat_msb a ha, ofNat_msb b hb]⟩
theorem and_hi (a b : Nat) (ha : a < 4294967296) (hb : b < 4294967296) : ∃ c : Nat, bits .and .u32 (a : Int) (b : Int) = c ∧ c < 4294967296 ∧ hi c = (hi a && hi b) :=
  ⟨(BitVec.ofInt 32 (a : Int) &&& BitVec.ofInt 32 (b : Int)).toNat, wrap_bv _, BitVec.isLt _, by rw [msb_hi, BitVec.msb_and, ofNat_msb a ha, ofNat_msb b hb]⟩
theorem xor_hi (a b : Nat) (ha : a < 4294967296) (hb : b < 4294967296) : ∃ c : Nat, bits .xor .u32 (a : Int) (b : Int) = c ∧ c < 4294967296 ∧ hi c = (hi a ^^ hi b) :=
  ⟨(BitVec.ofInt 32 (a : Int) ^^^ BitVec.ofInt 32 (b : Int)).toNat, wrap_bv _, BitVec.isLt _, by rw [msb_hi, BitVec.msb_xor, ofNat_msb a ha, ofNat_msb b hb]⟩
theorem max_u32 : IntKind.u32.max = ((4294967295 : Nat) : Int) := by decide

/-- What is borrowed. -/
def bor (x y c : Nat) : Nat := if x < y + c then 1 else 0
def dif (x y c : Nat) : Nat := (x + 8589934592 - y - c) % 4294967296
theorem dif_int (x y c : Nat) (hy : y < 4294967296) (hc : c ≤ 1) : ((x : Int) - y - c) % 4294967296 = (dif x y c : Int) := by
  unfold dif; omega
theorem bor_bits (x y c : Nat) (hx : x < 4294967296) (hy : y < 4294967296) (hc : c ≤ 1) :
    bits BinOp.or IntKind.u32 (bits BinOp.and IntKind.u32 (bits BinOp.xor IntKind.u32 IntKind.u32.max (x : Int)) (y : Int))
      (bits BinOp.and IntKind.u32 (bits BinOp.xor IntKind.u32 IntKind.u32.max (bits BinOp.xor IntKind.u32 (x : Int) (y : Int))) (((x : Int) - y - c) % 4294967296)) / 2147483648 = (bor x y c : Int) := by
  rw [dif_int x y c hy hc, max_u32]
  have hd : dif x y c < 4294967296 := Nat.mod_lt _ (by decide)
  obtain ⟨a1, e1, l1, h1⟩ := xor_hi 4294967295 x (by decide) hx
  obtain ⟨a2, e2, l2, h2⟩ := and_hi a1 y l1 hy
  obtain ⟨a3, e3, l3, h3⟩ := xor_hi x y hx hy
  obtain ⟨a4, e4, l4, h4⟩ := xor_hi 4294967295 a3 (by decide) l3
  obtain ⟨a5, e5, l5, h5⟩ := and_hi a4 (dif x y c) l4 hd
  obtain ⟨a6, e6, l6, h6⟩ := or_hi a2 a5 l2 l5
  rw [e1, e2, e3, e4, e5, e6]
  rw [h2, h1, h5, h4, h3] at h6
  have ht : hi 4294967295 = true := rfl
  rw [ht] at h6
  have hD : dif x y c = (x + 8589934592 - y - c) % 4294967296 := rfl
  generalize dif x y c = d at h6 hd hD
  unfold bor
  unfold hi at h6
  by_cases g1 : 2147483648 ≤ x <;> by_cases g2 : 2147483648 ≤ y <;> by_cases g3 : 2147483648 ≤ d
  all_goals
    simp only [g1, g2, g3, decide_true, decide_false, Bool.xor_true, Bool.xor_false, Bool.not_true, Bool.not_false, Bool.and_true, Bool.and_false, Bool.or_true, Bool.or_false, decide_eq_true_eq, decide_eq_false_iff_not] at h6
    split <;> omega

theorem sub32_any (x y c : Nat) (w : World) (hx : x < 4294967296) (hy : y < 4294967296) (hc : c ≤ 1) :
    Calls Tryd.prog 129 #[.int .u32 (x : Int), .int .u32 (y : Int), .int .u32 (c : Int)] w fun e w' => e = .returned (.tuple #[.int .u32 (dif x y c : Int), .int .u32 (bor x y c : Int)]) ∧ w = w' := by
  have HB := Lib.hid (bor_bits x y c hx hy hc)
  have HD := Lib.hid (dif_int x y c hy hc)
  have hsg : IntKind.u32.signed = false := rfl
  obtain ⟨D, hD⟩ : ∃ D, dif x y c = D := ⟨_, rfl⟩
  obtain ⟨R, hR⟩ : ∃ R, bor x y c = R := ⟨_, rfl⟩
  rw [hD, hR]
  rw [hD] at HD
  rw [hR] at HB
  clear hD hR
  go_enter Tryd.func129, Tryd.ntmps129
  go_wp2
  go_ret2
  refine ⟨?_, rfl⟩
  show Ending.returned (.tuple #[.int .u32 ((((x : Int) - y) % 4294967296 - c) % 4294967296), .int .u32 (bits BinOp.or IntKind.u32 (bits BinOp.and IntKind.u32 (bits BinOp.xor IntKind.u32 IntKind.u32.max (x : Int)) (y : Int))
      (bits BinOp.and IntKind.u32 (bits BinOp.xor IntKind.u32 IntKind.u32.max (bits BinOp.xor IntKind.u32 (x : Int) (y : Int))) (((x : Int) - y - c) % 4294967296)) / 2147483648)]) = _
  rw [HB.out, show (((x : Int) - y) % 4294967296 - c) % 4294967296 = D by rw [← HD.out]; omega]
end Go.Proofs.YtmnibfdenmeepaaDoor
