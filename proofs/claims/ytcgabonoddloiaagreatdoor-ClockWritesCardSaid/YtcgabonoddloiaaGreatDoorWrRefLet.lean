/- letter of the reference. -/
import Derived.Test.YtcgabonoddloiaaGreatDoorWrRef
namespace Go.Proofs.YtcgabonoddloiaaGreatDoor.Wr
open Go.RowKit Clk

theorem take3 (l : List UInt8) (h : 3 ≤ l.length) : (⟨l.toArray⟩ : ByteArray).extract 0 3 = ⟨(l.take 3).toArray⟩ ∧ 3 ≤ (⟨l.toArray⟩ : ByteArray).size := by
  refine ⟨?_, by simpa [ByteArray.size] using h⟩
  apply ByteArray.ext
  simp
theorem mName_len (j : Nat) (h : j < 12) : 3 ≤ (mNames.getD j []).length := by
  have : ∀ l ∈ mNames, 3 ≤ l.length := by decide
  exact this _ (getD_mem _ _ h)
theorem wName_len (j : Nat) (h : j < 7) : 3 ≤ (wNames.getD j []).length := by
  have : ∀ l ∈ wNames, 3 ≤ l.length := by decide
  exact this _ (getD_mem _ _ h)

set_option maxRecDepth 100000 in
set_option maxHeartbeats 3200000 in
theorem refL_89 (t : Int) (B : Nat) (w : World) (ht : isT t = true) (hP : Pow B w) (hB : B ≤ w.heap.size) :
    Calls Tryz.prog 68 #[.int .i64 t, .int .u8 89] w fun e w' => e = .returned (.tuple #[.string ⟨(letText t 89).toArray⟩, .bool true]) ∧ Below w.heap.size w w' := by
  obtain ⟨t1, t2⟩ := isT_iff.1 ht
  obtain ⟨Y, M, D, h, i, s, A, ⟨y1, y2⟩, ⟨m1, m2⟩, ⟨d1, d2⟩, ⟨h1, h2⟩, ⟨i1, i2⟩, s1, s2⟩ := at_parts t ht
  have HV : Hid (letText t 89 = padB Y 4) := Lib.hid (by simp [letText, A.y])
  have HA := Lib.hid A
  have HP := Lib.hid hP
  clear A hP
  go_enter Tryz.func68, Tryz.ntmps68
  go_wp2_with fail
  refine (refDate_any t Y M D h i s _ HA.out t1 (by omega)).mono ?_
  rintro e w1 ⟨rfl, hb1⟩
  have hz1 := hb1.size
  have HB1 := Lib.hid (hb1.alloc hz1 (.cells #[.int .i64 Y, .int .i64 M, .int .i64 D, .int .i64 h, .int .i64 i, .int .i64 s] 23))
  have HP1 := Lib.hid (HP.out.to (HB1.out.mono hB))
  have hz2 : B ≤ (w1.alloc (.cells #[.int .i64 Y, .int .i64 M, .int .i64 D, .int .i64 h, .int .i64 i, .int .i64 s] 23)).heap.size := by simp; omega
  have hz3 : w.heap.size ≤ (w1.alloc (.cells #[.int .i64 Y, .int .i64 M, .int .i64 D, .int .i64 h, .int .i64 i, .int .i64 s] 23)).heap.size := by simp; omega
  go_wp2_with fail
  refine (digits_any _ _ B _ (by omega) (by omega) (by decide) HP1.out hz2).mono ?_
  rintro e w2 ⟨rfl, hb2⟩
  go_wp2
  go_ret2
  exact ⟨by rw [HV.out]; rfl, HB1.out.trans (hb2.mono hz3)⟩

set_option maxRecDepth 100000 in
set_option maxHeartbeats 3200000 in
theorem refL_121 (t : Int) (B : Nat) (w : World) (ht : isT t = true) (hP : Pow B w) (hB : B ≤ w.heap.size) :
    Calls Tryz.prog 68 #[.int .i64 t, .int .u8 121] w fun e w' => e = .returned (.tuple #[.string ⟨(letText t 121).toArray⟩, .bool true]) ∧ Below w.heap.size w w' := by
  obtain ⟨t1, t2⟩ := isT_iff.1 ht
  obtain ⟨Y, M, D, h, i, s, A, ⟨y1, y2⟩, ⟨m1, m2⟩, ⟨d1, d2⟩, ⟨h1, h2⟩, ⟨i1, i2⟩, s1, s2⟩ := at_parts t ht
  have HV : Hid (letText t 121 = padB (Y % 100) 2) := Lib.hid (by simp [letText, A.y])
  have HA := Lib.hid A
  have HP := Lib.hid hP
  clear A hP
  go_enter Tryz.func68, Tryz.ntmps68
  go_wp2_with fail
  refine (refDate_any t Y M D h i s _ HA.out t1 (by omega)).mono ?_
  rintro e w1 ⟨rfl, hb1⟩
  have hz1 := hb1.size
  have HB1 := Lib.hid (hb1.alloc hz1 (.cells #[.int .i64 Y, .int .i64 M, .int .i64 D, .int .i64 h, .int .i64 i, .int .i64 s] 23))
  have HP1 := Lib.hid (HP.out.to (HB1.out.mono hB))
  have hz2 : B ≤ (w1.alloc (.cells #[.int .i64 Y, .int .i64 M, .int .i64 D, .int .i64 h, .int .i64 i, .int .i64 s] 23)).heap.size := by simp; omega
  have hz3 : w.heap.size ≤ (w1.alloc (.cells #[.int .i64 Y, .int .i64 M, .int .i64 D, .int .i64 h, .int .i64 i, .int .i64 s] 23)).heap.size := by simp; omega
  go_wp2_with fail
  refine (digits_any _ _ B _ (by omega) (by omega) (by decide) HP1.out hz2).mono ?_
  rintro e w2 ⟨rfl, hb2⟩
  go_wp2
  go_ret2
  exact ⟨by rw [HV.out]; rfl, HB1.out.trans (hb2.mono hz3)⟩

set_option maxRecDepth 100000 in
set_option maxHeartbeats 3200000 in
theorem refL_109 (t : Int) (B : Nat) (w : World) (ht : isT t = true) (hP : Pow B w) (hB : B ≤ w.heap.size) :
    Calls Tryz.prog 68 #[.int .i64 t, .int .u8 109] w fun e w' => e = .returned (.tuple #[.string ⟨(letText t 109).toArray⟩, .bool true]) ∧ Below w.heap.size w w' := by
  obtain ⟨t1, t2⟩ := isT_iff.1 ht
  obtain ⟨Y, M, D, h, i, s, A, ⟨y1, y2⟩, ⟨m1, m2⟩, ⟨d1, d2⟩, ⟨h1, h2⟩, ⟨i1, i2⟩, s1, s2⟩ := at_parts t ht
  have HV : Hid (letText t 109 = padB M 2) := Lib.hid (by simp [letText, A.m])
  have HA := Lib.hid A
  have HP := Lib.hid hP
  clear A hP
  go_enter Tryz.func68, Tryz.ntmps68
  go_wp2_with fail
  refine (refDate_any t Y M D h i s _ HA.out t1 (by omega)).mono ?_
  rintro e w1 ⟨rfl, hb1⟩
  have hz1 := hb1.size
  have HB1 := Lib.hid (hb1.alloc hz1 (.cells #[.int .i64 Y, .int .i64 M, .int .i64 D, .int .i64 h, .int .i64 i, .int .i64 s] 23))
  have HP1 := Lib.hid (HP.out.to (HB1.out.mono hB))
  have hz2 : B ≤ (w1.alloc (.cells #[.int .i64 Y, .int .i64 M, .int .i64 D, .int .i64 h, .int .i64 i, .int .i64 s] 23)).heap.size := by simp; omega
  have hz3 : w.heap.size ≤ (w1.alloc (.cells #[.int .i64 Y, .int .i64 M, .int .i64 D, .int .i64 h, .int .i64 i, .int .i64 s] 23)).heap.size := by simp; omega
  go_wp2_with fail
  refine (digits_any _ _ B _ (by omega) (by omega) (by decide) HP1.out hz2).mono ?_
  rintro e w2 ⟨rfl, hb2⟩
  go_wp2
  go_ret2
  exact ⟨by rw [HV.out]; rfl, HB1.out.trans (hb2.mono hz3)⟩

set_option maxRecDepth 100000 in
set_option maxHeartbeats 3200000 in
theorem refL_100 (t : Int) (B : Nat) (w : World) (ht : isT t = true) (hP : Pow B w) (hB : B ≤ w.heap.size) :
    Calls Tryz.prog 68 #[.int .i64 t, .int .u8 100] w fun e w' => e = .returned (.tuple #[.string ⟨(letText t 100).toArray⟩, .bool true]) ∧ Below w.heap.size w w' := by
  obtain ⟨t1, t2⟩ := isT_iff.1 ht
  obtain ⟨Y, M, D, h, i, s, A, ⟨y1, y2⟩, ⟨m1, m2⟩, ⟨d1, d2⟩, ⟨h1, h2⟩, ⟨i1, i2⟩, s1, s2⟩ := at_parts t ht
  have HV : Hid (letText t 100 = padB D 2) := Lib.hid (by simp [letText, A.d])
  have HA := Lib.hid A
  have HP := Lib.hid hP
  clear A hP
  go_enter Tryz.func68, Tryz.ntmps68
  go_wp2_with fail
  refine (refDate_any t Y M D h i s _ HA.out t1 (by omega)).mono ?_
  rintro e w1 ⟨rfl, hb1⟩
  have hz1 := hb1.size
  have HB1 := Lib.hid (hb1.alloc hz1 (.cells #[.int .i64 Y, .int .i64 M, .int .i64 D, .int .i64 h, .int .i64 i, .int .i64 s] 23))
  have HP1 := Lib.hid (HP.out.to (HB1.out.mono hB))
  have hz2 : B ≤ (w1.alloc (.cells #[.int .i64 Y, .int .i64 M, .int .i64 D, .int .i64 h, .int .i64 i, .int .i64 s] 23)).heap.size := by simp; omega
  have hz3 : w.heap.size ≤ (w1.alloc (.cells #[.int .i64 Y, .int .i64 M, .int .i64 D, .int .i64 h, .int .i64 i, .int .i64 s] 23)).heap.size := by simp; omega
  go_wp2_with fail
  refine (digits_any _ _ B _ (by omega) (by omega) (by decide) HP1.out hz2).mono ?_
  rintro e w2 ⟨rfl, hb2⟩
  go_wp2
  go_ret2
  exact ⟨by rw [HV.out]; rfl, HB1.out.trans (hb2.mono hz3)⟩

set_option maxRecDepth 100000 in
set_option maxHeartbeats 3200000 in
theorem refL_72 (t : Int) (B : Nat) (w : World) (ht : isT t = true) (hP : Pow B w) (hB : B ≤ w.heap.size) :
    Calls Tryz.prog 68 #[.int .i64 t, .int .u8 72] w fun e w' => e = .returned (.tuple #[.string ⟨(letText t 72).toArray⟩, .bool true]) ∧ Below w.heap.size w w' := by
  obtain ⟨t1, t2⟩ := isT_iff.1 ht
  obtain ⟨Y, M, D, h, i, s, A, ⟨y1, y2⟩, ⟨m1, m2⟩, ⟨d1, d2⟩, ⟨h1, h2⟩, ⟨i1, i2⟩, s1, s2⟩ := at_parts t ht
  have HV : Hid (letText t 72 = padB h 2) := Lib.hid (by simp [letText, A.h])
  have HA := Lib.hid A
  have HP := Lib.hid hP
  clear A hP
  go_enter Tryz.func68, Tryz.ntmps68
  go_wp2_with fail
  refine (refDate_any t Y M D h i s _ HA.out t1 (by omega)).mono ?_
  rintro e w1 ⟨rfl, hb1⟩
  have hz1 := hb1.size
  have HB1 := Lib.hid (hb1.alloc hz1 (.cells #[.int .i64 Y, .int .i64 M, .int .i64 D, .int .i64 h, .int .i64 i, .int .i64 s] 23))
  have HP1 := Lib.hid (HP.out.to (HB1.out.mono hB))
  have hz2 : B ≤ (w1.alloc (.cells #[.int .i64 Y, .int .i64 M, .int .i64 D, .int .i64 h, .int .i64 i, .int .i64 s] 23)).heap.size := by simp; omega
  have hz3 : w.heap.size ≤ (w1.alloc (.cells #[.int .i64 Y, .int .i64 M, .int .i64 D, .int .i64 h, .int .i64 i, .int .i64 s] 23)).heap.size := by simp; omega
  go_wp2_with fail
  refine (digits_any _ _ B _ (by omega) (by omega) (by decide) HP1.out hz2).mono ?_
  rintro e w2 ⟨rfl, hb2⟩
  go_wp2
  go_ret2
  exact ⟨by rw [HV.out]; rfl, HB1.out.trans (hb2.mono hz3)⟩

set_option maxRecDepth 100000 in
set_option maxHeartbeats 3200000 in
theorem refL_77 (t : Int) (B : Nat) (w : World) (ht : isT t = true) (hP : Pow B w) (hB : B ≤ w.heap.size) :
    Calls Tryz.prog 68 #[.int .i64 t, .int .u8 77] w fun e w' => e = .returned (.tuple #[.string ⟨(letText t 77).toArray⟩, .bool true]) ∧ Below w.heap.size w w' := by
  obtain ⟨t1, t2⟩ := isT_iff.1 ht
  obtain ⟨Y, M, D, h, i, s, A, ⟨y1, y2⟩, ⟨m1, m2⟩, ⟨d1, d2⟩, ⟨h1, h2⟩, ⟨i1, i2⟩, s1, s2⟩ := at_parts t ht
  have HV : Hid (letText t 77 = padB i 2) := Lib.hid (by simp [letText, A.i])
  have HA := Lib.hid A
  have HP := Lib.hid hP
  clear A hP
  go_enter Tryz.func68, Tryz.ntmps68
  go_wp2_with fail
  refine (refDate_any t Y M D h i s _ HA.out t1 (by omega)).mono ?_
  rintro e w1 ⟨rfl, hb1⟩
  have hz1 := hb1.size
  have HB1 := Lib.hid (hb1.alloc hz1 (.cells #[.int .i64 Y, .int .i64 M, .int .i64 D, .int .i64 h, .int .i64 i, .int .i64 s] 23))
  have HP1 := Lib.hid (HP.out.to (HB1.out.mono hB))
  have hz2 : B ≤ (w1.alloc (.cells #[.int .i64 Y, .int .i64 M, .int .i64 D, .int .i64 h, .int .i64 i, .int .i64 s] 23)).heap.size := by simp; omega
  have hz3 : w.heap.size ≤ (w1.alloc (.cells #[.int .i64 Y, .int .i64 M, .int .i64 D, .int .i64 h, .int .i64 i, .int .i64 s] 23)).heap.size := by simp; omega
  go_wp2_with fail
  refine (digits_any _ _ B _ (by omega) (by omega) (by decide) HP1.out hz2).mono ?_
  rintro e w2 ⟨rfl, hb2⟩
  go_wp2
  go_ret2
  exact ⟨by rw [HV.out]; rfl, HB1.out.trans (hb2.mono hz3)⟩

set_option maxRecDepth 100000 in
set_option maxHeartbeats 3200000 in
theorem refL_83 (t : Int) (B : Nat) (w : World) (ht : isT t = true) (hP : Pow B w) (hB : B ≤ w.heap.size) :
    Calls Tryz.prog 68 #[.int .i64 t, .int .u8 83] w fun e w' => e = .returned (.tuple #[.string ⟨(letText t 83).toArray⟩, .bool true]) ∧ Below w.heap.size w w' := by
  obtain ⟨t1, t2⟩ := isT_iff.1 ht
  obtain ⟨Y, M, D, h, i, s, A, ⟨y1, y2⟩, ⟨m1, m2⟩, ⟨d1, d2⟩, ⟨h1, h2⟩, ⟨i1, i2⟩, s1, s2⟩ := at_parts t ht
  have HV : Hid (letText t 83 = padB s 2) := Lib.hid (by simp [letText, A.s])
  have HA := Lib.hid A
  have HP := Lib.hid hP
  clear A hP
  go_enter Tryz.func68, Tryz.ntmps68
  go_wp2_with fail
  refine (refDate_any t Y M D h i s _ HA.out t1 (by omega)).mono ?_
  rintro e w1 ⟨rfl, hb1⟩
  have hz1 := hb1.size
  have HB1 := Lib.hid (hb1.alloc hz1 (.cells #[.int .i64 Y, .int .i64 M, .int .i64 D, .int .i64 h, .int .i64 i, .int .i64 s] 23))
  have HP1 := Lib.hid (HP.out.to (HB1.out.mono hB))
  have hz2 : B ≤ (w1.alloc (.cells #[.int .i64 Y, .int .i64 M, .int .i64 D, .int .i64 h, .int .i64 i, .int .i64 s] 23)).heap.size := by simp; omega
  have hz3 : w.heap.size ≤ (w1.alloc (.cells #[.int .i64 Y, .int .i64 M, .int .i64 D, .int .i64 h, .int .i64 i, .int .i64 s] 23)).heap.size := by simp; omega
  go_wp2_with fail
  refine (digits_any _ _ B _ (by omega) (by omega) (by decide) HP1.out hz2).mono ?_
  rintro e w2 ⟨rfl, hb2⟩
  go_wp2
  go_ret2
  exact ⟨by rw [HV.out]; rfl, HB1.out.trans (hb2.mono hz3)⟩

set_option maxRecDepth 100000 in
set_option maxHeartbeats 3200000 in
theorem refL_73 (t : Int) (B : Nat) (w : World) (ht : isT t = true) (hP : Pow B w) (hB : B ≤ w.heap.size) :
    Calls Tryz.prog 68 #[.int .i64 t, .int .u8 73] w fun e w' => e = .returned (.tuple #[.string ⟨(letText t 73).toArray⟩, .bool true]) ∧ Below w.heap.size w w' := by
  obtain ⟨t1, t2⟩ := isT_iff.1 ht
  obtain ⟨Y, M, D, h, i, s, A, ⟨y1, y2⟩, ⟨m1, m2⟩, ⟨d1, d2⟩, ⟨h1, h2⟩, ⟨i1, i2⟩, s1, s2⟩ := at_parts t ht
  have HV : Hid (letText t 73 = padB ((h + 11) % 12 + 1) 2) := Lib.hid (by simp [letText, A.h])
  have HA := Lib.hid A
  have HP := Lib.hid hP
  clear A hP
  go_enter Tryz.func68, Tryz.ntmps68
  go_wp2_with fail
  refine (refDate_any t Y M D h i s _ HA.out t1 (by omega)).mono ?_
  rintro e w1 ⟨rfl, hb1⟩
  have hz1 := hb1.size
  have HB1 := Lib.hid (hb1.alloc hz1 (.cells #[.int .i64 Y, .int .i64 M, .int .i64 D, .int .i64 h, .int .i64 i, .int .i64 s] 23))
  have HP1 := Lib.hid (HP.out.to (HB1.out.mono hB))
  have hz2 : B ≤ (w1.alloc (.cells #[.int .i64 Y, .int .i64 M, .int .i64 D, .int .i64 h, .int .i64 i, .int .i64 s] 23)).heap.size := by simp; omega
  have hz3 : w.heap.size ≤ (w1.alloc (.cells #[.int .i64 Y, .int .i64 M, .int .i64 D, .int .i64 h, .int .i64 i, .int .i64 s] 23)).heap.size := by simp; omega
  go_wp2_with fail
  refine (digits_any _ _ B _ (by omega) (by omega) (by decide) HP1.out hz2).mono ?_
  rintro e w2 ⟨rfl, hb2⟩
  go_wp2
  go_ret2
  exact ⟨by rw [HV.out]; rfl, HB1.out.trans (hb2.mono hz3)⟩

theorem pad1 (n : Int) (h0 : 0 ≤ n) : padB n 1 = Lib.itoa n := by
  have h : 1 ≤ (Lib.itoa n).length := by
    unfold Lib.itoa
    rw [if_neg (by omega), Lib.decDigits]
    split <;> simp
  unfold padB
  rw [show 1 - (Lib.itoa n).length = 0 by omega]
  rfl
set_option maxRecDepth 100000 in
set_option maxHeartbeats 3200000 in
theorem refL_101 (t : Int) (B : Nat) (w : World) (ht : isT t = true) (hP : Pow B w) (hB : B ≤ w.heap.size) :
    Calls Tryz.prog 68 #[.int .i64 t, .int .u8 101] w fun e w' => e = .returned (.tuple #[.string ⟨(letText t 101).toArray⟩, .bool true]) ∧ Below w.heap.size w w' := by
  obtain ⟨t1, t2⟩ := isT_iff.1 ht
  obtain ⟨Y, M, D, h, i, s, A, ⟨y1, y2⟩, ⟨m1, m2⟩, ⟨d1, d2⟩, ⟨h1, h2⟩, ⟨i1, i2⟩, s1, s2⟩ := at_parts t ht
  have HV : Hid (letText t 101 = padB D 1) := Lib.hid (by simp [letText, A.d, pad1 D (by omega)])
  have HA := Lib.hid A
  have HP := Lib.hid hP
  clear A hP
  go_enter Tryz.func68, Tryz.ntmps68
  go_wp2_with fail
  refine (refDate_any t Y M D h i s _ HA.out t1 (by omega)).mono ?_
  rintro e w1 ⟨rfl, hb1⟩
  have hz1 := hb1.size
  have HB1 := Lib.hid (hb1.alloc hz1 (.cells #[.int .i64 Y, .int .i64 M, .int .i64 D, .int .i64 h, .int .i64 i, .int .i64 s] 23))
  have HP1 := Lib.hid (HP.out.to (HB1.out.mono hB))
  have hz2 : B ≤ (w1.alloc (.cells #[.int .i64 Y, .int .i64 M, .int .i64 D, .int .i64 h, .int .i64 i, .int .i64 s] 23)).heap.size := by simp; omega
  have hz3 : w.heap.size ≤ (w1.alloc (.cells #[.int .i64 Y, .int .i64 M, .int .i64 D, .int .i64 h, .int .i64 i, .int .i64 s] 23)).heap.size := by simp; omega
  go_wp2_with fail
  refine (digits_any _ _ B _ (by omega) (by omega) (by decide) HP1.out hz2).mono ?_
  rintro e w2 ⟨rfl, hb2⟩
  go_wp2
  go_ret2
  exact ⟨by rw [HV.out]; rfl, HB1.out.trans (hb2.mono hz3)⟩

set_option maxRecDepth 100000 in
set_option maxHeartbeats 3200000 in
theorem refL_106 (t : Int) (B : Nat) (w : World) (ht : isT t = true) (hP : Pow B w) (hB : B ≤ w.heap.size) :
    Calls Tryz.prog 68 #[.int .i64 t, .int .u8 106] w fun e w' => e = .returned (.tuple #[.string ⟨(letText t 106).toArray⟩, .bool true]) ∧ Below w.heap.size w w' := by
  obtain ⟨t1, t2⟩ := isT_iff.1 ht
  obtain ⟨Y, M, D, h, i, s, A, ⟨y1, y2⟩, ⟨m1, m2⟩, ⟨d1, d2⟩, ⟨h1, h2⟩, ⟨i1, i2⟩, s1, s2⟩ := at_parts t ht
  have HV : Hid (letText t 106 = padB (yday (t / 86400)) 3) := Lib.hid (by simp [letText])
  have HA := Lib.hid A
  have HP := Lib.hid hP
  have hyb := yday_bd (t / 86400) (by omega)
  obtain ⟨q, hq⟩ : ∃ q, yday (t / 86400) = q := ⟨_, rfl⟩
  rw [hq] at hyb HV
  have HQ := Lib.hid hq
  clear hq
  clear A hP
  go_enter Tryz.func68, Tryz.ntmps68
  go_wp2_with fail
  refine (refDate_any t Y M D h i s _ HA.out t1 (by omega)).mono ?_
  rintro e w1 ⟨rfl, hb1⟩
  have hz1 := hb1.size
  have HB1 := Lib.hid (hb1.alloc hz1 (.cells #[.int .i64 Y, .int .i64 M, .int .i64 D, .int .i64 h, .int .i64 i, .int .i64 s] 23))
  have HP1 := Lib.hid (HP.out.to (HB1.out.mono hB))
  have hz2 : B ≤ (w1.alloc (.cells #[.int .i64 Y, .int .i64 M, .int .i64 D, .int .i64 h, .int .i64 i, .int .i64 s] 23)).heap.size := by simp; omega
  have hz3 : w.heap.size ≤ (w1.alloc (.cells #[.int .i64 Y, .int .i64 M, .int .i64 D, .int .i64 h, .int .i64 i, .int .i64 s] 23)).heap.size := by simp; omega
  go_wp2_with fail
  refine (refYearday_any t _ t1 (by omega)).mono ?_
  rintro e w2 ⟨rfl, hb2⟩
  rw [HQ.out]
  go_wp2_with fail
  refine (digits_any _ _ B _ (by omega) (by omega) (by decide) (HP1.out.to (hb2.mono hz2)) (Nat.le_trans hz2 hb2.size)).mono ?_
  rintro e w3 ⟨rfl, hb3⟩
  go_wp2
  go_ret2
  exact ⟨by rw [HV.out]; rfl, (HB1.out.trans (hb2.mono hz3)).trans (hb3.mono (Nat.le_trans hz3 hb2.size))⟩

set_option maxRecDepth 100000 in
set_option maxHeartbeats 3200000 in
theorem refL_117 (t : Int) (B : Nat) (w : World) (ht : isT t = true) (hP : Pow B w) (hB : B ≤ w.heap.size) :
    Calls Tryz.prog 68 #[.int .i64 t, .int .u8 117] w fun e w' => e = .returned (.tuple #[.string ⟨(letText t 117).toArray⟩, .bool true]) ∧ Below w.heap.size w w' := by
  obtain ⟨t1, t2⟩ := isT_iff.1 ht
  obtain ⟨Y, M, D, h, i, s, A, ⟨y1, y2⟩, ⟨m1, m2⟩, ⟨d1, d2⟩, ⟨h1, h2⟩, ⟨i1, i2⟩, s1, s2⟩ := at_parts t ht
  have HV : Hid (letText t 117 = padB ((t / 86400 + 3) % 7 + 1) 1) := Lib.hid (by simp [letText])
  have HA := Lib.hid A
  have HP := Lib.hid hP
  have HW := Lib.hid (wd_of t)
  clear A hP
  go_enter Tryz.func68, Tryz.ntmps68
  go_wp2_with fail
  refine (refDate_any t Y M D h i s _ HA.out t1 (by omega)).mono ?_
  rintro e w1 ⟨rfl, hb1⟩
  have hz1 := hb1.size
  have HB1 := Lib.hid (hb1.alloc hz1 (.cells #[.int .i64 Y, .int .i64 M, .int .i64 D, .int .i64 h, .int .i64 i, .int .i64 s] 23))
  have HP1 := Lib.hid (HP.out.to (HB1.out.mono hB))
  have hz2 : B ≤ (w1.alloc (.cells #[.int .i64 Y, .int .i64 M, .int .i64 D, .int .i64 h, .int .i64 i, .int .i64 s] 23)).heap.size := by simp; omega
  have hz3 : w.heap.size ≤ (w1.alloc (.cells #[.int .i64 Y, .int .i64 M, .int .i64 D, .int .i64 h, .int .i64 i, .int .i64 s] 23)).heap.size := by simp; omega
  go_wp2_with fail
  refine (refWeekday_any t _ t1 (by omega)).mono ?_
  rintro e w' ⟨rfl, rfl⟩
  rw [HW.out]
  go_wp2_with fail
  refine (digits_any _ _ B _ (by omega) (by omega) (by decide) HP1.out hz2).mono ?_
  rintro e w2 ⟨rfl, hb2⟩
  go_wp2
  go_ret2
  exact ⟨by rw [HV.out]; rfl, HB1.out.trans (hb2.mono hz3)⟩

set_option maxRecDepth 100000 in
set_option maxHeartbeats 3200000 in
theorem refL_71 (t : Int) (B : Nat) (w : World) (ht : isT t = true) (hP : Pow B w) (hB : B ≤ w.heap.size) :
    Calls Tryz.prog 68 #[.int .i64 t, .int .u8 71] w fun e w' => e = .returned (.tuple #[.string ⟨(letText t 71).toArray⟩, .bool true]) ∧ Below w.heap.size w w' := by
  obtain ⟨t1, t2⟩ := isT_iff.1 ht
  obtain ⟨Y, M, D, h, i, s, A, ⟨y1, y2⟩, ⟨m1, m2⟩, ⟨d1, d2⟩, ⟨h1, h2⟩, ⟨i1, i2⟩, s1, s2⟩ := at_parts t ht
  have HV : Hid (letText t 71 = padB (wkY (t / 86400)) 4) := Lib.hid (by simp [letText])
  have HA := Lib.hid A
  have HP := Lib.hid hP
  have hyb := wkY_bd (t / 86400) (by omega) (by omega)
  have HK := Lib.hid (fun w => refWeek_any t w t1 (by omega))
  obtain ⟨q, hq⟩ : ∃ q, wkY (t / 86400) = q := ⟨_, rfl⟩
  rw [hq] at hyb HV HK
  clear hq
  clear A hP
  go_enter Tryz.func68, Tryz.ntmps68
  go_wp2_with fail
  refine (refDate_any t Y M D h i s _ HA.out t1 (by omega)).mono ?_
  rintro e w1 ⟨rfl, hb1⟩
  have hz1 := hb1.size
  have HB1 := Lib.hid (hb1.alloc hz1 (.cells #[.int .i64 Y, .int .i64 M, .int .i64 D, .int .i64 h, .int .i64 i, .int .i64 s] 23))
  have HP1 := Lib.hid (HP.out.to (HB1.out.mono hB))
  have hz2 : B ≤ (w1.alloc (.cells #[.int .i64 Y, .int .i64 M, .int .i64 D, .int .i64 h, .int .i64 i, .int .i64 s] 23)).heap.size := by simp; omega
  have hz3 : w.heap.size ≤ (w1.alloc (.cells #[.int .i64 Y, .int .i64 M, .int .i64 D, .int .i64 h, .int .i64 i, .int .i64 s] 23)).heap.size := by simp; omega
  go_wp2_with fail
  refine (HK.out _).mono ?_
  rintro e w2 ⟨rfl, hb2⟩
  go_wp2_with fail
  refine (digits_any _ _ B _ (by omega) (by omega) (by decide) (HP1.out.to (hb2.mono hz2)) (Nat.le_trans hz2 hb2.size)).mono ?_
  rintro e w3 ⟨rfl, hb3⟩
  go_wp2
  go_ret2
  exact ⟨by rw [HV.out]; rfl, (HB1.out.trans (hb2.mono hz3)).trans (hb3.mono (Nat.le_trans hz3 hb2.size))⟩

set_option maxRecDepth 100000 in
set_option maxHeartbeats 3200000 in
theorem refL_86 (t : Int) (B : Nat) (w : World) (ht : isT t = true) (hP : Pow B w) (hB : B ≤ w.heap.size) :
    Calls Tryz.prog 68 #[.int .i64 t, .int .u8 86] w fun e w' => e = .returned (.tuple #[.string ⟨(letText t 86).toArray⟩, .bool true]) ∧ Below w.heap.size w w' := by
  obtain ⟨t1, t2⟩ := isT_iff.1 ht
  obtain ⟨Y, M, D, h, i, s, A, ⟨y1, y2⟩, ⟨m1, m2⟩, ⟨d1, d2⟩, ⟨h1, h2⟩, ⟨i1, i2⟩, s1, s2⟩ := at_parts t ht
  have HV : Hid (letText t 86 = padB (wkN (t / 86400)) 2) := Lib.hid (by simp [letText])
  have HA := Lib.hid A
  have HP := Lib.hid hP
  have hyb := wkN_bd (t / 86400) (by omega)
  have HK := Lib.hid (fun w => refWeek_any t w t1 (by omega))
  obtain ⟨q, hq⟩ : ∃ q, wkN (t / 86400) = q := ⟨_, rfl⟩
  rw [hq] at hyb HV HK
  clear hq
  clear A hP
  go_enter Tryz.func68, Tryz.ntmps68
  go_wp2_with fail
  refine (refDate_any t Y M D h i s _ HA.out t1 (by omega)).mono ?_
  rintro e w1 ⟨rfl, hb1⟩
  have hz1 := hb1.size
  have HB1 := Lib.hid (hb1.alloc hz1 (.cells #[.int .i64 Y, .int .i64 M, .int .i64 D, .int .i64 h, .int .i64 i, .int .i64 s] 23))
  have HP1 := Lib.hid (HP.out.to (HB1.out.mono hB))
  have hz2 : B ≤ (w1.alloc (.cells #[.int .i64 Y, .int .i64 M, .int .i64 D, .int .i64 h, .int .i64 i, .int .i64 s] 23)).heap.size := by simp; omega
  have hz3 : w.heap.size ≤ (w1.alloc (.cells #[.int .i64 Y, .int .i64 M, .int .i64 D, .int .i64 h, .int .i64 i, .int .i64 s] 23)).heap.size := by simp; omega
  go_wp2_with fail
  refine (HK.out _).mono ?_
  rintro e w2 ⟨rfl, hb2⟩
  go_wp2_with fail
  refine (digits_any _ _ B _ (by omega) (by omega) (by decide) (HP1.out.to (hb2.mono hz2)) (Nat.le_trans hz2 hb2.size)).mono ?_
  rintro e w3 ⟨rfl, hb3⟩
  go_wp2
  go_ret2
  exact ⟨by rw [HV.out]; rfl, (HB1.out.trans (hb2.mono hz3)).trans (hb3.mono (Nat.le_trans hz3 hb2.size))⟩

set_option maxRecDepth 100000 in
set_option maxHeartbeats 3200000 in
theorem refL_115 (t : Int) (B : Nat) (w : World) (ht : isT t = true) (hP : Pow B w) (hB : B ≤ w.heap.size) :
    Calls Tryz.prog 68 #[.int .i64 t, .int .u8 115] w fun e w' => e = .returned (.tuple #[.string ⟨(letText t 115).toArray⟩, .bool true]) ∧ Below w.heap.size w w' := by
  obtain ⟨t1, t2⟩ := isT_iff.1 ht
  obtain ⟨Y, M, D, h, i, s, A, ⟨y1, y2⟩, ⟨m1, m2⟩, ⟨d1, d2⟩, ⟨h1, h2⟩, ⟨i1, i2⟩, s1, s2⟩ := at_parts t ht
  have HV : Hid (letText t 115 = Lib.itoa t) := Lib.hid (by simp [letText])
  have HA := Lib.hid A
  have HP := Lib.hid hP
  clear A hP
  go_enter Tryz.func68, Tryz.ntmps68
  go_wp2_with fail
  refine (refDate_any t Y M D h i s _ HA.out t1 (by omega)).mono ?_
  rintro e w1 ⟨rfl, hb1⟩
  have hz1 := hb1.size
  have HB1 := Lib.hid (hb1.alloc hz1 (.cells #[.int .i64 Y, .int .i64 M, .int .i64 D, .int .i64 h, .int .i64 i, .int .i64 s] 23))
  have HP1 := Lib.hid (HP.out.to (HB1.out.mono hB))
  have hz2 : B ≤ (w1.alloc (.cells #[.int .i64 Y, .int .i64 M, .int .i64 D, .int .i64 h, .int .i64 i, .int .i64 s] 23)).heap.size := by simp; omega
  have hz3 : w.heap.size ≤ (w1.alloc (.cells #[.int .i64 Y, .int .i64 M, .int .i64 D, .int .i64 h, .int .i64 i, .int .i64 s] 23)).heap.size := by simp; omega
  go_wp2_with fail
  refine (itoa_any t B _ (by omega) (by omega) HP1.out).mono ?_
  rintro e w2 ⟨rfl, hb2⟩
  go_wp2
  go_ret2
  exact ⟨by rw [HV.out]; rfl, HB1.out.trans (hb2.mono hz3)⟩

set_option maxRecDepth 100000 in
set_option maxHeartbeats 3200000 in
theorem refL_112 (t : Int) (B : Nat) (w : World) (ht : isT t = true) (hP : Pow B w) (hB : B ≤ w.heap.size) :
    Calls Tryz.prog 68 #[.int .i64 t, .int .u8 112] w fun e w' => e = .returned (.tuple #[.string ⟨(letText t 112).toArray⟩, .bool true]) ∧ Below w.heap.size w w' := by
  obtain ⟨t1, t2⟩ := isT_iff.1 ht
  obtain ⟨Y, M, D, h, i, s, A, ⟨y1, y2⟩, ⟨m1, m2⟩, ⟨d1, d2⟩, ⟨h1, h2⟩, ⟨i1, i2⟩, s1, s2⟩ := at_parts t ht
  have HV : Hid (letText t 112 = pNames.getD (h / 12).toNat []) := Lib.hid (by simp [letText, A.h])
  have HA := Lib.hid A
  have HP := Lib.hid hP
  clear A hP
  go_enter Tryz.func68, Tryz.ntmps68
  go_wp2_with fail
  refine (refDate_any t Y M D h i s _ HA.out t1 (by omega)).mono ?_
  rintro e w1 ⟨rfl, hb1⟩
  have hz1 := hb1.size
  have HB1 := Lib.hid (hb1.alloc hz1 (.cells #[.int .i64 Y, .int .i64 M, .int .i64 D, .int .i64 h, .int .i64 i, .int .i64 s] 23))
  have HP1 := Lib.hid (HP.out.to (HB1.out.mono hB))
  have hz2 : B ≤ (w1.alloc (.cells #[.int .i64 Y, .int .i64 M, .int .i64 D, .int .i64 h, .int .i64 i, .int .i64 s] 23)).heap.size := by simp; omega
  have hz3 : w.heap.size ≤ (w1.alloc (.cells #[.int .i64 Y, .int .i64 M, .int .i64 D, .int .i64 h, .int .i64 i, .int .i64 s] 23)).heap.size := by simp; omega
  by_cases hp : h < 12
  · have hn : (h / 12).toNat = 0 := by omega
    have HN := Lib.hid hn
    clear hn
    go_wp2
    go_ret2
    exact ⟨by rw [HV.out, HN.out]; rfl, HB1.out⟩
  · have hn : (h / 12).toNat = 1 := by omega
    have HN := Lib.hid hn
    clear hn
    go_wp2
    go_ret2
    exact ⟨by rw [HV.out, HN.out]; rfl, HB1.out⟩

end Go.Proofs.YtcgabonoddloiaaGreatDoor.Wr
