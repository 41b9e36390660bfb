/- The texts BitsLaw, one behind the other. -/
import Derived.Test.YtmnibfdenmeepaaGreatDoorMgBigBits15
/- BigBits answers true. -/
namespace Go.Proofs.YtmnibfdenmeepaaGreatDoor
open Go.RowKit Go.Shelf Big

theorem longB_le {m : Nat} {L : List ByteArray} (h : longB m L = false) : ∀ s ∈ L, s.size ≤ m := by
  unfold longB at h
  rw [List.any_eq_false] at h
  intro s hs
  have := h s hs
  simpa using this
theorem bit_same (kd : Int) {g : Nat → Nat → Nat} (hb : ∀ x y, x < 2 ^ 32 → y < 2 ^ 32 → bitN (kG kd) 32 x y = g x y) (hg : ∀ x y, x < 4294967296 → y < 4294967296 → hi (g x y) = kG kd (hi x) (hi y)) : opR kd = bitF g := by
  funext x y
  unfold opR
  exact (bitF_is (kG kd) hb hg (Nat.le_max_left _ _) (Nat.le_max_right _ _)).symm
theorem kG_and : kG 0 = fun s t => s && t := by funext s t; simp [kG]
theorem kG_or : kG 1 = fun s t => s || t := by funext s t; simp [kG]
theorem kG_xor : kG 2 = fun s t => s ^^ t := by funext s t; simp [kG]
theorem same_and : opR 0 = bitF gA := bit_same 0 (by rw [kG_and]; exact op_and) (fun x y hx hy => by rw [kG_and]; exact (gA_hi x y hx hy).2)
theorem same_or : opR 1 = bitF gO := bit_same 1 (by rw [kG_or]; exact op_or) (fun x y hx hy => by rw [kG_or]; exact (gO_hi x y hx hy).2)
theorem same_xor : opR 2 = bitF gX := bit_same 2 (by rw [kG_xor]; exact op_xor) (fun x y hx hy => by rw [kG_xor]; exact (gX_hi x y hx hy).2)
theorem rAnd_any (a b : ByteArray) (w : World) (ha : a.size ≤ k900) (hb : b.size ≤ k900) :
    Calls Tryz.prog 9 #[.string a, .string b] w fun e w' => e = retS (opS (bitF gA) a.data.toList b.data.toList) ∧ Below w.heap.size w w' := by
  have ht := rBitwise_any 0 (.inl rfl) a b w ha hb
  rw [same_and] at ht
  generalize opS (bitF gA) a.data.toList b.data.toList = p at ht ⊢
  obtain ⟨l, c⟩ := p
  unfold retS at ht ⊢
  go_enter Tryz.func9, Tryz.ntmps9
  go_wp2_with (go_at_call 30; refine ht.mono ?_; rintro e w1 ⟨rfl, hb1⟩)
  go_ret2
  exact ⟨rfl, hb1⟩
theorem rOr_any (a b : ByteArray) (w : World) (ha : a.size ≤ k900) (hb : b.size ≤ k900) :
    Calls Tryz.prog 11 #[.string a, .string b] w fun e w' => e = retS (opS (bitF gO) a.data.toList b.data.toList) ∧ Below w.heap.size w w' := by
  have ht := rBitwise_any 1 (.inr (.inl rfl)) a b w ha hb
  rw [same_or] at ht
  generalize opS (bitF gO) a.data.toList b.data.toList = p at ht ⊢
  obtain ⟨l, c⟩ := p
  unfold retS at ht ⊢
  go_enter Tryz.func11, Tryz.ntmps11
  go_wp2_with (go_at_call 30; refine ht.mono ?_; rintro e w1 ⟨rfl, hb1⟩)
  go_ret2
  exact ⟨rfl, hb1⟩
theorem rXor_any (a b : ByteArray) (w : World) (ha : a.size ≤ k900) (hb : b.size ≤ k900) :
    Calls Tryz.prog 13 #[.string a, .string b] w fun e w' => e = retS (opS (bitF gX) a.data.toList b.data.toList) ∧ Below w.heap.size w w' := by
  have ht := rBitwise_any 2 (.inr (.inr rfl)) a b w ha hb
  rw [same_xor] at ht
  generalize opS (bitF gX) a.data.toList b.data.toList = p at ht ⊢
  obtain ⟨l, c⟩ := p
  unfold retS at ht ⊢
  go_enter Tryz.func13, Tryz.ntmps13
  go_wp2_with (go_at_call 30; refine ht.mono ?_; rintro e w1 ⟨rfl, hb1⟩)
  go_ret2
  exact ⟨rfl, hb1⟩
set_option maxRecDepth 100000 in
set_option maxHeartbeats 4000000 in
theorem bitsLaw_any (a b : ByteArray) (n : Int) (w : World) : Calls Tryz.prog 3 #[.string a, .string b, .int .i64 n] w fun e w' => e = .returned (.bool true) ∧ Below w.heap.size w w' := by
  have HAW := Lib.hid awake_any
  have hcell : ∀ i s, [a, b][i]? = some s → (w.alloc (.cells #[.string a, .string b] 9)).cell? ⟨w.heap.size, i, none⟩ = some (.string s) := by
    intro i s h
    rw [Has.cell (Has.new w _ _)]
    match i, h with
    | 0, h => cases h; rfl
    | 1, h => cases h; rfl
  have HLo := Lib.hid (long_any 60 w.heap.size 2 [a, b] _ (by omega) (by simp) hcell)
  have HB0 := Lib.hid ((Below.refl _ w).alloc (Nat.le_refl _) (.cells #[.string a, .string b] 9))
  clear hcell
  cases hlo : longB 60 [a, b] with
  | true =>
    rw [hlo] at HLo
    clear hlo
    go_enter Tryz.func3, Tryz.ntmps3
    go_wp2_with fail
    refine HLo.out.mono ?_
    rintro e w1 ⟨rfl, rfl⟩
    go_wp2_with fail
    refine (HAW.out _).mono ?_
    rintro e w2 ⟨rfl, hb2⟩
    have HB2 := Lib.hid (Below.behind HB0.out hb2)
    clear hb2
    go_wp2
    go_ret
    exact ⟨rfl, HB2.out⟩
  | false =>
    rw [hlo] at HLo
    have hs := longB_le hlo
    have ha : a.size ≤ 60 := hs a (by simp)
    have hb : b.size ≤ 60 := hs b (by simp)
    have ha1 : a.size ≤ 1000 := Nat.le_trans ha (by decide)
    have hb1 : b.size ≤ 1000 := Nat.le_trans hb (by decide)
    have ha2 : a.size ≤ k900 := Nat.le_trans ha (by decide)
    have hb2 : b.size ≤ k900 := Nat.le_trans hb (by decide)
    have c1 := fun W => Shift_any a n W ha1
    have c2 := fun W => rShift_any a n W ha2
    have a1 := fun W => And_any a b W ha1 hb1
    have a2 := fun W => rAnd_any a b W ha2 hb2
    have o1 := fun W => Or_any a b W ha1 hb1
    have o2 := fun W => rOr_any a b W ha2 hb2
    have x1 := fun W => Xor_any a b W ha1 hb1
    have x2 := fun W => rXor_any a b W ha2 hb2
    clear hlo hs ha hb ha1 hb1 ha2 hb2
    revert c1 c2 a1 a2 o1 o2 x1 x2
    generalize shiftS a.data.toList n = p1
    generalize opS (bitF gA) a.data.toList b.data.toList = p2
    generalize opS (bitF gO) a.data.toList b.data.toList = p3
    generalize opS (bitF gX) a.data.toList b.data.toList = p4
    obtain ⟨l1, e1⟩ := p1
    obtain ⟨l2, e2⟩ := p2
    obtain ⟨l3, e3⟩ := p3
    obtain ⟨l4, e4⟩ := p4
    unfold retS
    simp only []
    generalize (⟨l1.toArray⟩ : ByteArray) = t1
    generalize (⟨l2.toArray⟩ : ByteArray) = t2
    generalize (⟨l3.toArray⟩ : ByteArray) = t3
    generalize (⟨l4.toArray⟩ : ByteArray) = t4
    intro c1 c2 a1 a2 o1 o2 x1 x2
    have C1 := Lib.hid c1
    have C2 := Lib.hid c2
    have A1 := Lib.hid a1
    have A2 := Lib.hid a2
    have O1 := Lib.hid o1
    have O2 := Lib.hid o2
    have X1 := Lib.hid x1
    have X2 := Lib.hid x2
    clear c1 c2 a1 a2 o1 o2 x1 x2
    go_enter Tryz.func3, Tryz.ntmps3
    go_wp2_with fail
    refine HLo.out.mono ?_
    rintro e w1 ⟨rfl, rfl⟩
    go_wp2_with fail
    refine (C1.out _).mono ?_
    rintro e w2 ⟨rfl, hb2⟩
    have HB2 := Lib.hid (Below.behind HB0.out hb2)
    clear hb2
    go_wp2_with fail
    refine (C2.out _).mono ?_
    rintro e w3 ⟨rfl, hb3⟩
    have HB3 := Lib.hid (Below.behind HB2.out hb3)
    clear hb3
    go_wp2_with fail
    refine (A1.out _).mono ?_
    rintro e w4 ⟨rfl, hb4⟩
    have HB4 := Lib.hid (Below.behind HB3.out hb4)
    clear hb4
    go_wp2_with fail
    refine (A2.out _).mono ?_
    rintro e w5 ⟨rfl, hb5⟩
    have HB5 := Lib.hid (Below.behind HB4.out hb5)
    clear hb5
    go_wp2_with fail
    refine (O1.out _).mono ?_
    rintro e w6 ⟨rfl, hb6⟩
    have HB6 := Lib.hid (Below.behind HB5.out hb6)
    clear hb6
    go_wp2_with fail
    refine (O2.out _).mono ?_
    rintro e w7 ⟨rfl, hb7⟩
    have HB7 := Lib.hid (Below.behind HB6.out hb7)
    clear hb7
    go_wp2_with fail
    refine (X1.out _).mono ?_
    rintro e w8 ⟨rfl, hb8⟩
    have HB8 := Lib.hid (Below.behind HB7.out hb8)
    clear hb8
    go_wp2_with fail
    refine (X2.out _).mono ?_
    rintro e w9 ⟨rfl, hb9⟩
    have HB9 := Lib.hid (Below.behind HB8.out hb9)
    clear hb9
    go_wp2_with fail
    refine (HAW.out _).mono ?_
    rintro e w12 ⟨rfl, hb12⟩
    have HB12 := Lib.hid (Below.behind HB9.out hb12)
    clear hb12
    go_wp2
    go_ret
    exact ⟨rfl, HB12.out⟩
end Go.Proofs.YtmnibfdenmeepaaGreatDoor
