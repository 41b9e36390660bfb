/- letter of the reference: names, the percent sign, and what is none. -/
import Derived.Test.YtcgabonoddloiaaGreatDoorWrRefLet
import Derived.Deep.RegionHeld3
namespace Go.Proofs.YtcgabonoddloiaaGreatDoor.Wr
open Go.RowKit Clk

set_option maxRecDepth 100000 in
set_option maxHeartbeats 3200000 in
theorem refL_66 (t : Int) (w : World) (ht : isT t = true) :
    Calls Tryz.prog 68 #[.int .i64 t, .int .u8 66] w fun e w' => e = .returned (.tuple #[.string ⟨(letText t 66).toArray⟩, .bool true]) ∧ Below w.heap.size w w' := by
  obtain ⟨t1, t2⟩ := isT_iff.1 ht
  obtain ⟨Y, M, D, h, i, s, A, ⟨y1, y2⟩, ⟨m1, m2⟩, ⟨d1, d2⟩, ⟨h1, h2⟩, ⟨i1, i2⟩, s1, s2⟩ := at_parts t ht
  have hv : letText t 66 = mNames.getD (M - 1).toNat [] := by simp [letText, A.m]
  have HA := Lib.hid A
  obtain ⟨j, hj⟩ : ∃ j : Nat, (M - 1).toNat = j := ⟨_, rfl⟩
  have hjM : M - 1 = (j : Int) := by omega
  have hj12 : j < 12 := by omega
  have hji : (j : Int) < 12 := by omega
  rw [hj] at hv
  have hl3 := mName_len j hj12
  have ht3 := take3 _ hl3
  obtain ⟨X, hX⟩ : ∃ X : ByteArray, (⟨(mNames.getD j []).toArray⟩ : ByteArray) = X := ⟨_, rfl⟩
  have hMn := fun w => (months_any w).mono fun e w' ⟨a, b, c, d⟩ => And.intro a (And.intro b (And.intro c ((d j hj12).trans (by rw [hX]))))
  rw [hX] at ht3
  obtain ⟨hx1, hx2⟩ := ht3
  have hx2i : (3 : Int) ≤ (X.size : Int) := by omega
  have HM := Lib.hid hMn
  have HX := Lib.hid hX
  have HV := Lib.hid hv
  have HX1 := Lib.hid hx1
  have hw1 : IntKind.i64.wrap (M - 1) = (j : Int) := (IntWalk.i64_in _ (by omega)).trans hjM
  clear hMn hX hv hx1 hj hl3 hjM
  clear A
  go_enter Tryz.func68, Tryz.ntmps68
  go_wp2_with fail
  refine (refDate_any t Y M D h i s _ HA.out t1 (by omega)).mono ?_
  rintro e w1 ⟨rfl, hb1⟩
  have hz1 := hb1.size
  have HB1 := Lib.hid (hb1.alloc hz1 (.cells #[.int .i64 Y, .int .i64 M, .int .i64 D, .int .i64 h, .int .i64 i, .int .i64 s] 23))
  have hs := Has.new w1 23 #[.int .i64 Y, .int .i64 M, .int .i64 D, .int .i64 h, .int .i64 i, .int .i64 s]
  have hz3 : w.heap.size ≤ (w1.alloc (.cells #[.int .i64 Y, .int .i64 M, .int .i64 D, .int .i64 h, .int .i64 i, .int .i64 s] 23)).heap.size := by simp; omega
  have hgl : w1.heap.size < (w1.alloc (.cells #[.int .i64 Y, .int .i64 M, .int .i64 D, .int .i64 h, .int .i64 i, .int .i64 s] 23)).heap.size := by simp
  go_wp2_with fail
  generalize hW : (w1.alloc (.cells #[.int .i64 Y, .int .i64 M, .int .i64 D, .int .i64 h, .int .i64 i, .int .i64 s] 23)) = W2 at *
  generalize w1.heap.size = g at *
  have c1 : W2.cell? ⟨g, 1, none⟩ = some (.int .i64 M) := hs.cell 1
  clear hs hb1 hW
  go_region_law ((go_simp; go_at_call 75; refine (HM.out _).mono ?_; rintro e w2 ⟨rfl, hb2, hz2, hc2⟩; obtain ⟨hcc2, hff2⟩ := bcell (show Below W2.heap.size W2 w2 from Below.drewIn hb2); have hc2' : w2.cell? ⟨W2.heap.size, j, none⟩ = some (.string X) := hc2; clear hc2 hff2))
  all_goals
    go_wp2
    go_ret2
    exact ⟨by rw [HV.out, HX.out]; rfl, HB1.out.trans ((Below.drewIn hb2).mono hz3)⟩

set_option maxRecDepth 100000 in
set_option maxHeartbeats 3200000 in
theorem refL_98 (t : Int) (w : World) (ht : isT t = true) :
    Calls Tryz.prog 68 #[.int .i64 t, .int .u8 98] w fun e w' => e = .returned (.tuple #[.string ⟨(letText t 98).toArray⟩, .bool true]) ∧ Below w.heap.size w w' := by
  obtain ⟨t1, t2⟩ := isT_iff.1 ht
  obtain ⟨Y, M, D, h, i, s, A, ⟨y1, y2⟩, ⟨m1, m2⟩, ⟨d1, d2⟩, ⟨h1, h2⟩, ⟨i1, i2⟩, s1, s2⟩ := at_parts t ht
  have hv : letText t 98 = (mNames.getD (M - 1).toNat []).take 3 := by simp [letText, A.m]
  have HA := Lib.hid A
  obtain ⟨j, hj⟩ : ∃ j : Nat, (M - 1).toNat = j := ⟨_, rfl⟩
  have hjM : M - 1 = (j : Int) := by omega
  have hj12 : j < 12 := by omega
  have hji : (j : Int) < 12 := by omega
  rw [hj] at hv
  have hl3 := mName_len j hj12
  have ht3 := take3 _ hl3
  obtain ⟨X, hX⟩ : ∃ X : ByteArray, (⟨(mNames.getD j []).toArray⟩ : ByteArray) = X := ⟨_, rfl⟩
  have hMn := fun w => (months_any w).mono fun e w' ⟨a, b, c, d⟩ => And.intro a (And.intro b (And.intro c ((d j hj12).trans (by rw [hX]))))
  rw [hX] at ht3
  obtain ⟨hx1, hx2⟩ := ht3
  have hx2i : (3 : Int) ≤ (X.size : Int) := by omega
  have HM := Lib.hid hMn
  have HX := Lib.hid hX
  have HV := Lib.hid hv
  have HX1 := Lib.hid hx1
  have hw1 : IntKind.i64.wrap (M - 1) = (j : Int) := (IntWalk.i64_in _ (by omega)).trans hjM
  clear hMn hX hv hx1 hj hl3 hjM
  clear A
  go_enter Tryz.func68, Tryz.ntmps68
  go_wp2_with fail
  refine (refDate_any t Y M D h i s _ HA.out t1 (by omega)).mono ?_
  rintro e w1 ⟨rfl, hb1⟩
  have hz1 := hb1.size
  have HB1 := Lib.hid (hb1.alloc hz1 (.cells #[.int .i64 Y, .int .i64 M, .int .i64 D, .int .i64 h, .int .i64 i, .int .i64 s] 23))
  have hs := Has.new w1 23 #[.int .i64 Y, .int .i64 M, .int .i64 D, .int .i64 h, .int .i64 i, .int .i64 s]
  have hz3 : w.heap.size ≤ (w1.alloc (.cells #[.int .i64 Y, .int .i64 M, .int .i64 D, .int .i64 h, .int .i64 i, .int .i64 s] 23)).heap.size := by simp; omega
  have hgl : w1.heap.size < (w1.alloc (.cells #[.int .i64 Y, .int .i64 M, .int .i64 D, .int .i64 h, .int .i64 i, .int .i64 s] 23)).heap.size := by simp
  go_wp2_with fail
  generalize hW : (w1.alloc (.cells #[.int .i64 Y, .int .i64 M, .int .i64 D, .int .i64 h, .int .i64 i, .int .i64 s] 23)) = W2 at *
  generalize w1.heap.size = g at *
  have c1 : W2.cell? ⟨g, 1, none⟩ = some (.int .i64 M) := hs.cell 1
  clear hs hb1 hW
  go_region_law ((go_simp; go_at_call 75; refine (HM.out _).mono ?_; rintro e w2 ⟨rfl, hb2, hz2, hc2⟩; obtain ⟨hcc2, hff2⟩ := bcell (show Below W2.heap.size W2 w2 from Below.drewIn hb2); have hc2' : w2.cell? ⟨W2.heap.size, j, none⟩ = some (.string X) := hc2; clear hc2 hff2))
  all_goals
    go_wp2
    go_ret2
    exact ⟨by rw [HV.out, ← HX1.out]; rfl, HB1.out.trans ((Below.drewIn hb2).mono hz3)⟩

set_option maxRecDepth 100000 in
set_option maxHeartbeats 3200000 in
theorem refL_65 (t : Int) (w : World) (ht : isT t = true) :
    Calls Tryz.prog 68 #[.int .i64 t, .int .u8 65] w fun e w' => e = .returned (.tuple #[.string ⟨(letText t 65).toArray⟩, .bool true]) ∧ Below w.heap.size w w' := by
  obtain ⟨t1, t2⟩ := isT_iff.1 ht
  obtain ⟨Y, M, D, h, i, s, A, ⟨y1, y2⟩, ⟨m1, m2⟩, ⟨d1, d2⟩, ⟨h1, h2⟩, ⟨i1, i2⟩, s1, s2⟩ := at_parts t ht
  have hv : letText t 65 = wNames.getD ((t / 86400 + 3) % 7).toNat [] := by simp [letText]
  have HA := Lib.hid A
  obtain ⟨j, hj⟩ : ∃ j : Nat, ((t / 86400 + 3) % 7).toNat = j := ⟨_, rfl⟩
  have hjM : (t / 86400 + 3) % 7 = (j : Int) := by omega
  have hj12 : j < 7 := by omega
  have hji : (j : Int) < 7 := by omega
  rw [hj] at hv
  have hl3 := wName_len j hj12
  have ht3 := take3 _ hl3
  obtain ⟨X, hX⟩ : ∃ X : ByteArray, (⟨(wNames.getD j []).toArray⟩ : ByteArray) = X := ⟨_, rfl⟩
  have hMn := fun w => (weekdays_any w).mono fun e w' ⟨a, b, c, d⟩ => And.intro a (And.intro b (And.intro c ((d j hj12).trans (by rw [hX]))))
  rw [hX] at ht3
  obtain ⟨hx1, hx2⟩ := ht3
  have hx2i : (3 : Int) ≤ (X.size : Int) := by omega
  have HM := Lib.hid hMn
  have HX := Lib.hid hX
  have HV := Lib.hid hv
  have HX1 := Lib.hid hx1
  have HW := Lib.hid (show (t + 62135596800) / 86400 % 7 + 1 = (j : Int) + 1 by omega)
  clear hMn hX hv hx1 hj hl3 hjM
  clear A
  go_enter Tryz.func68, Tryz.ntmps68
  go_wp2_with fail
  refine (refDate_any t Y M D h i s _ HA.out t1 (by omega)).mono ?_
  rintro e w1 ⟨rfl, hb1⟩
  have hz1 := hb1.size
  have HB1 := Lib.hid (hb1.alloc hz1 (.cells #[.int .i64 Y, .int .i64 M, .int .i64 D, .int .i64 h, .int .i64 i, .int .i64 s] 23))
  have hz3 : w.heap.size ≤ (w1.alloc (.cells #[.int .i64 Y, .int .i64 M, .int .i64 D, .int .i64 h, .int .i64 i, .int .i64 s] 23)).heap.size := by simp; omega
  clear hb1
  go_wp2_with fail
  generalize hW : (w1.alloc (.cells #[.int .i64 Y, .int .i64 M, .int .i64 D, .int .i64 h, .int .i64 i, .int .i64 s] 23)) = W2 at *
  clear hW
  refine (HM.out _).mono ?_
  rintro e w2 ⟨rfl, hb2, hz2, hc2⟩
  go_wp2_with fail
  refine (refWeekday_any t _ t1 (by omega)).mono ?_
  rintro e w' ⟨rfl, rfl⟩
  rw [HW.out]
  go_wp2
  go_ret2
  exact ⟨by rw [HV.out, HX.out]; rfl, HB1.out.trans (hb2.mono hz3)⟩

set_option maxRecDepth 100000 in
set_option maxHeartbeats 3200000 in
theorem refL_97 (t : Int) (w : World) (ht : isT t = true) :
    Calls Tryz.prog 68 #[.int .i64 t, .int .u8 97] w fun e w' => e = .returned (.tuple #[.string ⟨(letText t 97).toArray⟩, .bool true]) ∧ Below w.heap.size w w' := by
  obtain ⟨t1, t2⟩ := isT_iff.1 ht
  obtain ⟨Y, M, D, h, i, s, A, ⟨y1, y2⟩, ⟨m1, m2⟩, ⟨d1, d2⟩, ⟨h1, h2⟩, ⟨i1, i2⟩, s1, s2⟩ := at_parts t ht
  have hv : letText t 97 = (wNames.getD ((t / 86400 + 3) % 7).toNat []).take 3 := by simp [letText]
  have HA := Lib.hid A
  obtain ⟨j, hj⟩ : ∃ j : Nat, ((t / 86400 + 3) % 7).toNat = j := ⟨_, rfl⟩
  have hjM : (t / 86400 + 3) % 7 = (j : Int) := by omega
  have hj12 : j < 7 := by omega
  have hji : (j : Int) < 7 := by omega
  rw [hj] at hv
  have hl3 := wName_len j hj12
  have ht3 := take3 _ hl3
  obtain ⟨X, hX⟩ : ∃ X : ByteArray, (⟨(wNames.getD j []).toArray⟩ : ByteArray) = X := ⟨_, rfl⟩
  have hMn := fun w => (weekdays_any w).mono fun e w' ⟨a, b, c, d⟩ => And.intro a (And.intro b (And.intro c ((d j hj12).trans (by rw [hX]))))
  rw [hX] at ht3
  obtain ⟨hx1, hx2⟩ := ht3
  have hx2i : (3 : Int) ≤ (X.size : Int) := by omega
  have HM := Lib.hid hMn
  have HX := Lib.hid hX
  have HV := Lib.hid hv
  have HX1 := Lib.hid hx1
  have HW := Lib.hid (show (t + 62135596800) / 86400 % 7 + 1 = (j : Int) + 1 by omega)
  clear hMn hX hv hx1 hj hl3 hjM
  clear A
  go_enter Tryz.func68, Tryz.ntmps68
  go_wp2_with fail
  refine (refDate_any t Y M D h i s _ HA.out t1 (by omega)).mono ?_
  rintro e w1 ⟨rfl, hb1⟩
  have hz1 := hb1.size
  have HB1 := Lib.hid (hb1.alloc hz1 (.cells #[.int .i64 Y, .int .i64 M, .int .i64 D, .int .i64 h, .int .i64 i, .int .i64 s] 23))
  have hz3 : w.heap.size ≤ (w1.alloc (.cells #[.int .i64 Y, .int .i64 M, .int .i64 D, .int .i64 h, .int .i64 i, .int .i64 s] 23)).heap.size := by simp; omega
  clear hb1
  go_wp2_with fail
  generalize hW : (w1.alloc (.cells #[.int .i64 Y, .int .i64 M, .int .i64 D, .int .i64 h, .int .i64 i, .int .i64 s] 23)) = W2 at *
  clear hW
  refine (HM.out _).mono ?_
  rintro e w2 ⟨rfl, hb2, hz2, hc2⟩
  go_wp2_with fail
  refine (refWeekday_any t _ t1 (by omega)).mono ?_
  rintro e w' ⟨rfl, rfl⟩
  rw [HW.out]
  go_wp2
  go_ret2
  exact ⟨by rw [HV.out, ← HX1.out]; rfl, HB1.out.trans (hb2.mono hz3)⟩

set_option maxRecDepth 100000 in
set_option maxHeartbeats 3200000 in
theorem refL_37 (t : Int) (w : World) (ht : isT t = true) :
    Calls Tryz.prog 68 #[.int .i64 t, .int .u8 37] w fun e w' => e = .returned (.tuple #[.string ⟨#[37]⟩, .bool true]) ∧ Below w.heap.size w w' := by
  obtain ⟨t1, t2⟩ := isT_iff.1 ht
  obtain ⟨Y, M, D, h, i, s, A⟩ := atIs t
  have HA := Lib.hid A
  clear A
  go_enter Tryz.func68, Tryz.ntmps68
  go_wp2_with fail
  refine (refDate_any t Y M D h i s _ HA.out t1 (by omega)).mono ?_
  rintro e w1 ⟨rfl, hb1⟩
  go_wp2
  go_ret2
  exact ⟨rfl, hb1.alloc hb1.size _⟩

set_option maxRecDepth 100000 in
set_option maxHeartbeats 3200000 in
theorem refL_no (t c : Int) (w : World) (ht : isT t = true) (hp : (c == 37) = false) (hc : ∀ x ∈ parts, x.2.2 ≠ c) :
    Calls Tryz.prog 68 #[.int .i64 t, .int .u8 c] w fun e w' => e = .returned (.tuple #[.string ⟨#[]⟩, .bool false]) ∧ Below w.heap.size w w' := by
  obtain ⟨t1, t2⟩ := isT_iff.1 ht
  obtain ⟨Y, M, D, h, i, s, A⟩ := atIs t
  have HA := Lib.hid A
  clear A
  have q : ∀ k : Int, (∃ x ∈ parts, x.2.2 = k) → (c == k) = false := fun k ⟨x, hx, e⟩ => by simpa using fun e2 : c = k => hc x hx (e.trans e2.symm)
  have q89 := q 89 (by decide)
  have q121 := q 121 (by decide)
  have q109 := q 109 (by decide)
  have q100 := q 100 (by decide)
  have q72 := q 72 (by decide)
  have q77 := q 77 (by decide)
  have q83 := q 83 (by decide)
  have q101 := q 101 (by decide)
  have q73 := q 73 (by decide)
  have q112 := q 112 (by decide)
  have q106 := q 106 (by decide)
  have q117 := q 117 (by decide)
  have q71 := q 71 (by decide)
  have q86 := q 86 (by decide)
  have q66 := q 66 (by decide)
  have q98 := q 98 (by decide)
  have q65 := q 65 (by decide)
  have q97 := q 97 (by decide)
  have q115 := q 115 (by decide)
  clear q hc
  go_enter Tryz.func68, Tryz.ntmps68
  go_wp2_with fail
  refine (refDate_any t Y M D h i s _ HA.out t1 (by omega)).mono ?_
  rintro e w1 ⟨rfl, hb1⟩
  go_wp2
  go_ret2
  exact ⟨rfl, hb1.alloc hb1.size _⟩

/-- A letter of the reference. -/
theorem refL_any (t : Int) (c : UInt8) (B : Nat) (w : World) (ht : isT t = true) (hc : isLet c = true) (hP : Pow B w) (hB : B ≤ w.heap.size) :
    Calls Tryz.prog 68 #[.int .i64 t, .int .u8 c.toNat] w fun e w' => e = .returned (.tuple #[.string ⟨(letText t c.toNat).toArray⟩, .bool true]) ∧ Below w.heap.size w w' := by
  obtain ⟨x, hx, e⟩ := isLet_yes hc
  rw [← e]
  simp only [parts, List.mem_cons, List.mem_nil_iff, or_false] at hx
  rcases hx with rfl | rfl | rfl | rfl | rfl | rfl | rfl | rfl | rfl | rfl | rfl | rfl | rfl | rfl | rfl | rfl | rfl | rfl | rfl
  · exact refL_89 t B w ht hP hB
  · exact refL_121 t B w ht hP hB
  · exact refL_109 t B w ht hP hB
  · exact refL_100 t B w ht hP hB
  · exact refL_72 t B w ht hP hB
  · exact refL_77 t B w ht hP hB
  · exact refL_83 t B w ht hP hB
  · exact refL_73 t B w ht hP hB
  · exact refL_106 t B w ht hP hB
  · exact refL_117 t B w ht hP hB
  · exact refL_71 t B w ht hP hB
  · exact refL_86 t B w ht hP hB
  · exact refL_101 t B w ht hP hB
  · exact refL_115 t B w ht hP hB
  · exact refL_112 t B w ht hP hB
  · exact refL_66 t w ht
  · exact refL_98 t w ht
  · exact refL_65 t w ht
  · exact refL_97 t w ht
end Go.Proofs.YtcgabonoddloiaaGreatDoor.Wr
