/- text of a number; the sum, the opposite, the difference of numbers. -/
import Derived.Test.YtmnibfdenmeepaaDoorParse
import Derived.Deep.RegionWith
namespace Go.Proofs.YtmnibfdenmeepaaDoor
open Go.RowKit Go.Shelf Big

/-- The text of a sign and a size. -/
def txtS (s : Bool) (n : Nat) : List UInt8 := if s && decide (0 < n) then 45 :: digs 10 n else digs 10 n
theorem txtS_sg (s : Bool) (n : Nat) : txtS s n = txt (sgI s n) := by
  unfold txtS txt sgI
  cases s
  · simp
  · by_cases h : 0 < n
    · simp [h]
    · have : n = 0 := by omega
      subst this
      simp
def TextIs (l s : Bool) (n : Nat) (e : Ending) : Prop :=
  ((l || tooL n) = true ∧ e = .returned (.tuple #[.string ⟨#[]⟩, .int .i64 4])) ∨ ((l || tooL n) = false ∧ e = .returned (.tuple #[.string ⟨(txtS s n).toArray⟩, .int .i64 0]))

theorem digits_any (B : Nat) (va : Value) (b n : Nat) (w : World) (ha : NatIs w B va n) (hb : 2 ≤ b) (hb2 : b ≤ 36) (hla : (lims 4294967296 n).length ≤ 100000) (hN : (lims b n).length ≤ 4000000) :
    Calls Tryd.prog 93 #[va, .int .i64 (b : Int)] w fun e w' => e = .returned (.string ⟨(digs b n).toArray⟩) ∧ Below w.heap.size w w' := by
  rcases Nat.eq_zero_or_pos n with rfl | hn
  · exact digits_zero B va b w ha
  · exact digits_pos B va b n w ha hn hb hb2 hla hN
theorem digs_len {b n k : Nat} (h : (lims b n).length ≤ k) : (digs b n).length ≤ k + 1 := by
  unfold digs
  split
  · simp
  · simp; omega
theorem lims10_short {n : Nat} (h : tooL n = false) : (lims 10 n).length ≤ 4000000 := by
  unfold tooL lim600 at h
  have h1 := of_decide_eq_false h
  have := (lims_len_le (B := 10) (by omega) n k600).2 (Nat.lt_of_not_le h1)
  have h2 : k600 = 600 := rfl
  omega

set_option maxRecDepth 100000 in
set_option maxHeartbeats 4000000 in
theorem text_any (B n : Nat) (v : Value) (s l o : Bool) (w : World) (h : NatIs w B v n) (hl : (lims 4294967296 n).length ≤ 100000) :
    Calls Tryd.prog 71 #[.agg #[.bool s, v, .bool l, .bool o]] w fun e w' => TextIs l s n e ∧ Below w.heap.size w w' := by
  have hkeep : ∀ o, NatIs (w.alloc o) B v n := fun o => World.ownsRow.alloc h o
  have hpos : (0 < n ∧ 0 < (lims 4294967296 n).length) ∨ (n = 0 ∧ (lims 4294967296 n).length = 0) := by
    have : (lims 4294967296 n).length = 0 ↔ n = 0 := by rw [List.length_eq_zero_iff, lims_nil w32_ge]
    omega
  obtain ⟨av, cv, rfl⟩ := h.slice
  obtain ⟨lv, hlv⟩ : ∃ lv, (lims 4294967296 n).length = lv := ⟨_, rfl⟩
  rw [hlv] at hkeep hpos hl ⊢
  have HLV := Lib.hid hlv
  clear h hlv
  have HK := Lib.hid hkeep
  clear hkeep
  have hb0 : ∀ o, Below w.heap.size w (w.alloc o) := fun o => (Below.refl _ w).alloc (Nat.le_refl _) o
  have HB := Lib.hid hb0
  clear hb0
  cases l with
  | true =>
    go_enter Tryd.func71, Tryd.ntmps71
    go_wp2
    go_ret2
    exact ⟨.inl ⟨rfl, rfl⟩, HB.out _⟩
  | false =>
    cases ht : tooL n with
    | true =>
      have HT := Lib.hid ht
      go_enter Tryd.func71, Tryd.ntmps71
      go_wp2_with (go_at_call 113; refine (tooLong_any _ _ _ _ (HK.out _) (by rw [HLV.out]; exact hl)).mono ?_; rintro e w1 ⟨rfl, hb1⟩; have hz1 := hb1.size; rw [HT.out])
      go_ret2
      exact ⟨.inl ⟨by rw [HT.out]; rfl, rfl⟩, (HB.out _).trans (hb1.mono (by simp))⟩
    | false =>
      have HT := Lib.hid ht
      have HD := Lib.hid (lims10_short ht)
      clear ht
      have hdl : (digs 10 n).length ≤ 4000001 := digs_len HD.out
      have hcase : (s = true ∧ 0 < n ∧ 0 < lv) ∨ (s = false) ∨ (s = true ∧ n = 0 ∧ lv = 0) := by
        cases s
        · exact .inr (.inl rfl)
        · rcases hpos with ⟨a, b⟩ | ⟨a, b⟩
          · exact .inl ⟨rfl, a, b⟩
          · exact .inr (.inr ⟨rfl, a, b⟩)
      clear hpos
      rcases hcase with ⟨rfl, hn, hl0⟩ | rfl | ⟨rfl, hn, hl1⟩
      case' inl =>
        have HX := Lib.hid (show (⟨#[45]⟩ : ByteArray) ++ ⟨(digs 10 n).toArray⟩ = ⟨(txtS true n).toArray⟩ by
          apply ByteArray.ext
          unfold txtS
          simp [hn])
      case' inr.inl =>
        have HX := Lib.hid (show (⟨(digs 10 n).toArray⟩ : ByteArray) = ⟨(txtS false n).toArray⟩ by unfold txtS; simp)
      case' inr.inr =>
        have hl0 : decide (0 < lv) = false := by simp; omega
        have hl2 : decide ((0 : Int) < (lv : Int)) = false := by simp; omega
        have HX := Lib.hid (show (⟨(digs 10 n).toArray⟩ : ByteArray) = ⟨(txtS true n).toArray⟩ by unfold txtS; simp [hn])
        clear hn hl1
      all_goals
        go_enter Tryd.func71, Tryd.ntmps71
        go_wp2_with (first
          | (go_at_call 113; refine (tooLong_any _ _ _ _ (HK.out _) (by rw [HLV.out]; exact hl)).mono ?_; rintro e w1 ⟨rfl, hb1⟩; have hz1 := hb1.size; rw [HT.out]; have hk1 := NatIs.kept (HK.out _) hb1; obtain ⟨q0, q1, q2, q3, q4, q5, q6, q7⟩ := ((Has.new w 46 _).below hb1).four)
          | (go_at_call 93; refine (digits_any _ _ 10 n _ hk1 (by omega) (by omega) (by rw [HLV.out]; exact hl) HD.out).mono ?_; rintro e w2 ⟨rfl, hb2⟩))
        go_ret2
        refine ⟨.inr ⟨by rw [HT.out]; rfl, ?_⟩, (HB.out _).trans ((hb1.trans (hb2.mono hz1)).mono (by simp))⟩
        rw [← HX.out]
        rfl
end Go.Proofs.YtmnibfdenmeepaaDoor
