/- BigRing answers true. -/
import Derived.Test.YtmnibfdenmeepaaDoorRing
namespace Go.Proofs.YtmnibfdenmeepaaDoor
open Go.RowKit Go.Shelf Big

theorem add_is (a b : ByteArray) (x y : Int) (w : World) (ha : a.size ≤ 1000) (hb : b.size ≤ 1000) (hx : numOf a.data.toList = some x) (hy : numOf b.data.toList = some y) (h1 : tooL x.natAbs = false) (h2 : tooL y.natAbs = false) (h3 : tooL (x + y).natAbs = false) :
    Calls Tryd.prog 16 #[.string a, .string b] w fun e w' => e = .returned (.tuple #[.string (txb (x + y)), .int .i64 0]) ∧ Below w.heap.size w w' :=
  (Add_any a b w ha hb).mono fun _e _w' ⟨h, hb⟩ => ⟨h.trans (ret_op (f := fun x y => x + y) hx hy h1 h2 h3), hb⟩
theorem sub_is (a b : ByteArray) (x y : Int) (w : World) (ha : a.size ≤ 1000) (hb : b.size ≤ 1000) (hx : numOf a.data.toList = some x) (hy : numOf b.data.toList = some y) (h1 : tooL x.natAbs = false) (h2 : tooL y.natAbs = false) (h3 : tooL (x - y).natAbs = false) :
    Calls Tryd.prog 18 #[.string a, .string b] w fun e w' => e = .returned (.tuple #[.string (txb (x - y)), .int .i64 0]) ∧ Below w.heap.size w w' :=
  (Sub_any a b w ha hb).mono fun _e _w' ⟨h, hb⟩ => ⟨h.trans (ret_op (f := fun x y => x - y) hx hy h1 h2 h3), hb⟩
theorem mul_is (a b : ByteArray) (x y : Int) (w : World) (ha : a.size ≤ 1000) (hb : b.size ≤ 1000) (hx : numOf a.data.toList = some x) (hy : numOf b.data.toList = some y) (h1 : tooL x.natAbs = false) (h2 : tooL y.natAbs = false) (h3 : tooL (x * y).natAbs = false) :
    Calls Tryd.prog 22 #[.string a, .string b] w fun e w' => e = .returned (.tuple #[.string (txb (x * y)), .int .i64 0]) ∧ Below w.heap.size w w' :=
  (Mul_any a b w ha hb).mono fun _e _w' ⟨h, hb⟩ => ⟨h.trans (ret_op (f := fun x y => x * y) hx hy h1 h2 h3), hb⟩
theorem can_is (a : ByteArray) (x : Int) (w : World) (ha : a.size ≤ 1000) (hx : numOf a.data.toList = some x) (h1 : tooL x.natAbs = false) :
    Calls Tryd.prog 12 #[.string a] w fun e w' => e = .returned (.tuple #[.string (txb x), .int .i64 0]) ∧ Below w.heap.size w w' :=
  (Canonical_any a w ha).mono fun _e _w' ⟨h, hb⟩ => ⟨h.trans (ret_one (f := fun x => x) hx h1 h1), hb⟩

def k60 : Nat := 16 ^ 60
theorem tool_60 {n : Nat} (h : n < k60 * k60 * 4) : tooL n = false := by
  have : k60 * k60 * 4 ≤ 16 ^ 240 := by decide +kernel
  exact tool_lt (Nat.lt_of_lt_of_le h this)
theorem k60_le : k60 * 4 ≤ k60 * k60 * 4 := by decide +kernel

set_option maxRecDepth 100000 in
set_option maxHeartbeats 4000000 in
theorem ringLaw_any (a b c : ByteArray) (w : World) (ha : a.size ≤ 1000000000000) (hb : b.size ≤ 1000000000000) (hc : c.size ≤ 1000000000000) :
    Calls Tryd.prog 7 #[.string a, .string b, .string c] w fun e w' => e = .returned (.bool true) ∧ Below w.heap.size w w' := by
  have HAW := Lib.hid awake_any
  have hcell : ∀ i s, [a, b, c][i]? = some s → (w.alloc (.cells #[.string a, .string b, .string c] 9)).cell? ⟨w.heap.size, i, none⟩ = some (.string s) := by
    intro i s h
    rw [Has.cell (Has.new w _ _)]
    match i, h with
    | 0, h => cases h; rfl
    | 1, h => cases h; rfl
    | 2, h => cases h; rfl
  have HR := Lib.hid (right_any w.heap.size 3 [a, b, c] _ (by simp) (by intro s hs; simp at hs; rcases hs with rfl | rfl | rfl <;> assumption) (by simp) hcell)
  have HB0 := Lib.hid ((Below.refl _ w).alloc (Nat.le_refl _) (.cells #[.string a, .string b, .string c] 9))
  clear hcell
  cases hall : [a, b, c].all rightB with
  | false =>
    rw [hall] at HR
    clear hall
    go_enter Tryd.func7, Tryd.ntmps7
    go_wp2_with fail
    refine HR.out.mono ?_
    rintro e w1 ⟨rfl, hb1⟩
    have HB1 := Lib.hid (Below.behind HB0.out hb1)
    clear hb1
    go_wp2_with fail
    refine (HAW.out _).mono ?_
    rintro e w2 ⟨rfl, hb2⟩
    have HB2 := Lib.hid (Below.behind HB1.out hb2)
    clear hb2
    go_wp2
    go_ret
    exact ⟨rfl, HB2.out⟩
  | true =>
    rw [hall] at HR
    simp only [List.all_cons, List.all_nil, Bool.and_true, Bool.and_eq_true] at hall
    obtain ⟨x, hx, hx60, ha60⟩ := right_num hall.1
    obtain ⟨y, hy, hy60, hb60⟩ := right_num hall.2.1
    obtain ⟨z, hz, hz60, hc60⟩ := right_num hall.2.2
    have e60 : (16 : Nat) ^ 60 = k60 := rfl
    rw [e60] at hx60 hy60 hz60
    have hk := k60_le
    have txy := abs_add x y hx60 hy60
    have tyz := abs_add y z hy60 hz60
    have txyz := abs_add (x + y) z txy hz60
    have tmxy := abs_mul x y hx60 hy60
    have tmxz := abs_mul x z hx60 hz60
    have tmx := abs_mul x (y + z) hx60 tyz
    rw [Nat.mul_add] at tmx
    have t1 : tooL x.natAbs = false := tool_60 (by omega)
    have t2 : tooL y.natAbs = false := tool_60 (by omega)
    have t3 : tooL z.natAbs = false := tool_60 (by omega)
    have t4 : tooL (x + y).natAbs = false := tool_60 (by omega)
    have t5 : tooL (y + z).natAbs = false := tool_60 (by omega)
    have t6 : tooL (x + y + z).natAbs = false := tool_60 (by omega)
    have t7 : tooL (x * y).natAbs = false := tool_60 (by omega)
    have t8 : tooL (x * z).natAbs = false := tool_60 (by omega)
    have t9 : tooL (x * (y + z)).natAbs = false := tool_60 (by omega)
    have ha' : a.size ≤ 1000 := by omega
    have hb' : b.size ≤ 1000 := by omega
    have hc' : c.size ≤ 1000 := by omega
    have C1 := Lib.hid (fun W => add_is a b x y W ha' hb' hx hy t1 t2 t4)
    have C2 := Lib.hid (fun W => add_is b a y x W hb' ha' hy hx t2 t1 (by rw [Int.add_comm]; exact t4))
    rw [Int.add_comm y x] at C2
    have C3 := Lib.hid (fun W => add_is b c y z W hb' hc' hy hz t2 t3 t5)
    have C4 := Lib.hid (fun W => add_is (txb (x + y)) c _ z W (txb_len t4) hc' (num_txb _) hz t4 t3 t6)
    have C5 := Lib.hid (fun W => add_is a (txb (y + z)) x _ W ha' (txb_len t5) hx (num_txb _) t1 t5 (by rw [← Int.add_assoc]; exact t6))
    rw [← Int.add_assoc] at C5
    have e6 : x + y - y = x := by omega
    have C6 := Lib.hid (fun W => sub_is (txb (x + y)) b _ y W (txb_len t4) hb' (num_txb _) hy t4 t2 (by rw [e6]; exact t1))
    rw [e6] at C6
    have C7 := Lib.hid (fun W => can_is a x W ha' hx t1)
    have C8 := Lib.hid (fun W => mul_is a b x y W ha' hb' hx hy t1 t2 t7)
    have C9 := Lib.hid (fun W => mul_is b a y x W hb' ha' hy hx t2 t1 (by rw [Int.mul_comm]; exact t7))
    rw [Int.mul_comm y x] at C9
    have C10 := Lib.hid (fun W => mul_is a c x z W ha' hc' hx hz t1 t3 t8)
    have C11 := Lib.hid (fun W => mul_is a (txb (y + z)) x _ W ha' (txb_len t5) hx (num_txb _) t1 t5 t9)
    have C12 := Lib.hid (fun W => add_is (txb (x * y)) (txb (x * z)) _ _ W (txb_len t7) (txb_len t8) (num_txb _) (num_txb _) t7 t8 (by rw [← Int.mul_add]; exact t9))
    rw [← Int.mul_add] at C12
    clear e6 hx hy hz hx60 hy60 hz60 hk txy tyz txyz tmxy tmxz tmx t1 t2 t3 t4 t5 t6 t7 t8 t9 e60 ha60 hb60 hc60 ha' hb' hc' hall ha hb hc
    revert C1 C2 C3 C4 C5 C6 C7 C8 C9 C10 C11 C12
    generalize txb (x + y + z) = XYZ
    generalize txb (x + y) = XY
    generalize txb (x * (y + z)) = MXYZ
    generalize txb (y + z) = YZ
    generalize txb (x * y) = MXY
    generalize txb (x * z) = MXZ
    generalize txb x = X
    intro C1 C2 C3 C4 C5 C6 C7 C8 C9 C10 C11 C12
    go_enter Tryd.func7, Tryd.ntmps7
    go_wp2_with fail
    refine HR.out.mono ?_
    rintro e w1 ⟨rfl, hb1⟩
    have HB1 := Lib.hid (Below.behind HB0.out hb1)
    clear hb1
    go_wp2_with fail
    refine (C1.out _).mono ?_
    rintro e w2 ⟨rfl, hb2⟩
    have HB2 := Lib.hid (Below.behind HB1.out hb2)
    clear hb2
    go_wp2_with fail
    refine (C2.out _).mono ?_
    rintro e w3 ⟨rfl, hb3⟩
    have HB3 := Lib.hid (Below.behind HB2.out hb3)
    clear hb3
    go_wp2_with fail
    refine (C3.out _).mono ?_
    rintro e w4 ⟨rfl, hb4⟩
    have HB4 := Lib.hid (Below.behind HB3.out hb4)
    clear hb4
    go_wp2_with fail
    refine (C4.out _).mono ?_
    rintro e w5 ⟨rfl, hb5⟩
    have HB5 := Lib.hid (Below.behind HB4.out hb5)
    clear hb5
    go_wp2_with fail
    refine (C5.out _).mono ?_
    rintro e w6 ⟨rfl, hb6⟩
    have HB6 := Lib.hid (Below.behind HB5.out hb6)
    clear hb6
    go_wp2_with fail
    refine (C6.out _).mono ?_
    rintro e w7 ⟨rfl, hb7⟩
    have HB7 := Lib.hid (Below.behind HB6.out hb7)
    clear hb7
    go_wp2_with fail
    refine (C7.out _).mono ?_
    rintro e w8 ⟨rfl, hb8⟩
    have HB8 := Lib.hid (Below.behind HB7.out hb8)
    clear hb8
    go_wp2_with fail
    refine (C8.out _).mono ?_
    rintro e w9 ⟨rfl, hb9⟩
    have HB9 := Lib.hid (Below.behind HB8.out hb9)
    clear hb9
    go_wp2_with fail
    refine (C9.out _).mono ?_
    rintro e w10 ⟨rfl, hb10⟩
    have HB10 := Lib.hid (Below.behind HB9.out hb10)
    clear hb10
    go_wp2_with fail
    refine (C10.out _).mono ?_
    rintro e w11 ⟨rfl, hb11⟩
    have HB11 := Lib.hid (Below.behind HB10.out hb11)
    clear hb11
    go_wp2_with fail
    refine (C11.out _).mono ?_
    rintro e w12 ⟨rfl, hb12⟩
    have HB12 := Lib.hid (Below.behind HB11.out hb12)
    clear hb12
    go_wp2_with fail
    refine (C12.out _).mono ?_
    rintro e w13 ⟨rfl, hb13⟩
    have HB13 := Lib.hid (Below.behind HB12.out hb13)
    clear hb13
    go_wp2_with fail
    refine (HAW.out _).mono ?_
    rintro e w14 ⟨rfl, hb14⟩
    have HB14 := Lib.hid (Below.behind HB13.out hb14)
    clear hb14
    go_wp2
    go_ret
    exact ⟨rfl, HB14.out⟩
end Go.Proofs.YtmnibfdenmeepaaDoor
