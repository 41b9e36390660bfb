/- Base of the program; the sanity check. -/
import Derived.Test.YtmnibfdenmeepaaDoorDiv
namespace Go.Proofs.YtmnibfdenmeepaaDoor
open Go.RowKit Go.Shelf Big

set_option maxRecDepth 100000 in
set_option maxHeartbeats 2000000 in
theorem Base_of (a : ByteArray) (b : Nat) (w : World) (ha : a.size ≤ 1000) (hb : 2 ≤ b) (hb2 : b ≤ 36) (z : Int) (h1 : numOf a.data.toList = some z) (ht1 : tooL z.natAbs = false) (hp : 0 ≤ z) (hN : (lims b z.natAbs).length ≤ 4000000) :
    Calls Tryd.prog 44 #[.string a, .int .i64 (b : Int)] w fun e w' => e = .returned (.tuple #[.string ⟨(digs b z.natAbs).toArray⟩, .int .i64 0]) ∧ Below w.heap.size w w' := by
  have H1 := Lib.hid h1
  have HT1 := Lib.hid ht1
  have HP := Lib.hid hp
  have HN := Lib.hid hN
  clear h1 ht1 hp hN
  have hi1 : decide ((b : Int) < 2) = false := by rw [decide_eq_false_iff_not]; omega
  have hi2 : decide ((36 : Int) < (b : Int)) = false := by rw [decide_eq_false_iff_not]; omega
  have hi3 : decide (b < 2) = false := by rw [decide_eq_false_iff_not]; omega
  have hi4 : decide (36 < b) = false := by rw [decide_eq_false_iff_not]; omega
  go_enter Tryd.func44, Tryd.ntmps44
  go_wp2_with fail
  refine (parse_any a w ha).mono ?_
  rintro e w1 ⟨hp1, hb1⟩
  obtain ⟨s1, a1, n1, c1, g1, o1, t1, rfl, hf1⟩ := hp1.form
  have hz1 := hb1.size
  have HBE := Lib.hid (fun x => hb1.alloc hz1 x)
  rcases hf1 with ⟨rfl, z1', hz1', hs1, hg1, hn1⟩ | ⟨rfl, hz1'⟩
  case inr => rw [H1.out] at hz1'; cases hz1'
  rw [H1.out] at hz1'
  injection hz1' with hz1'
  subst hz1'
  rw [HT1.out] at hg1
  rw [decide_eq_false (Int.not_lt.2 HP.out)] at hs1
  subst hg1 hs1
  have HN1 := Lib.hid (fun x => hn1.alloc x)
  clear hn1 hp1 hb1
  have hl1 := short_of HT1.out
  go_wp2_with fail
  refine (digits_any w.heap.size _ b z.natAbs _ (HN1.out _) hb hb2 hl1 HN.out).mono ?_
  rintro e w2 ⟨rfl, hb2⟩
  have HB2 := Lib.hid ((HBE.out _).trans (hb2.mono (by simp; omega)))
  clear hb2
  go_wp2
  go_ret2
  exact ⟨rfl, HB2.out⟩

theorem num_m7 : numOf (⟨#[45, 55]⟩ : ByteArray).data.toList = some (-7) := by decide
theorem num_2 : numOf (⟨#[50]⟩ : ByteArray).data.toList = some 2 := by decide
theorem num_255 : numOf (⟨#[50, 53, 53]⟩ : ByteArray).data.toList = some 255 := by decide
theorem tool_small {n : Nat} (h : n < 1000) : tooL n = false := by
  unfold tooL
  rw [decide_eq_false_iff_not]
  have h1 := p1
  have h2 : 2 ^ 10 ≤ 2 ^ k1987 := Nat.pow_le_pow_right (by omega) (by unfold k1987; omega)
  omega
end Go.Proofs.YtmnibfdenmeepaaDoor
