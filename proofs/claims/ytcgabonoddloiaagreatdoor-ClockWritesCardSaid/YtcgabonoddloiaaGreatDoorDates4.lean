/- Valid and Time of the reference. -/
import Derived.Test.YtcgabonoddloiaaGreatDoorDates3
namespace Go.Proofs.YtcgabonoddloiaaGreatDoor
open Go.RowKit Clk

/-- 'in' with a known answer. -/
theorem in_is (n lo hi : Int) (b : Bool) (w : World) (hb : (decide (lo ≤ n) && decide (n ≤ hi)) = b) :
    Calls Tryz.prog 42 #[.int .i64 n, .int .i64 lo, .int .i64 hi] w fun e w' => e = .returned (.bool b) ∧ w' = w :=
  (in_any n lo hi w).mono fun _ _ h => ⟨by rw [← hb]; exact h.1, h.2.symm⟩

set_option maxRecDepth 100000 in
set_option maxHeartbeats 8000000 in
theorem refValid_any (y m d h i s : Int) (w : World) :
    Calls Tryz.prog 16 #[.agg #[.int .i64 y, .int .i64 m, .int .i64 d, .int .i64 h, .int .i64 i, .int .i64 s]] w fun e w' => e = .returned (.bool (vB y m d h i s)) ∧ Below w.heap.size w w' := by
  obtain ⟨V, hV⟩ : ∃ V, vB y m d h i s = V := ⟨_, rfl⟩
  have hVB : V = ((decide (1 ≤ y) && decide (y ≤ 9999)) && ((decide (1 ≤ m) && decide (m ≤ 12)) && ((decide (1 ≤ d) && decide (d ≤ dim y m)) && ((decide (0 ≤ h) && decide (h ≤ 23)) && ((decide (0 ≤ i) && decide (i ≤ 59)) && (decide (0 ≤ s) && decide (s ≤ 59))))))) := by
    rw [← hV, Bool.eq_iff_iff, vB_iff]
    simp only [Bool.and_eq_true, decide_eq_true_eq]
    omega
  rw [hV]
  clear hV
  cases c0 : (decide (1 ≤ y) && decide (y ≤ 9999))
  · have HV := Lib.hid (show V = false by rw [hVB, c0]; rfl)
    have HC0 := Lib.hid c0
    clear hVB c0
    go_enter Tryz.func16, Tryz.ntmps16
    go_wp2_with fail
    go_quiet ((first | (go_at_call 42; first | with_reducible exact Calls.quiet_of_same (in_is y 1 9999 _ _ (HC0.out)))))
    go_wp2
    go_ret
    exact ⟨by rw [HV.out]; rfl, Below.drewN' ((Below.refl _ _).alloc (Nat.le_refl _) _) _⟩
  · skip
    cases c1 : (decide (1 ≤ m) && decide (m ≤ 12))
    · have HV := Lib.hid (show V = false by rw [hVB, c0, c1]; rfl)
      have HC0 := Lib.hid c0
      have HC1 := Lib.hid c1
      clear hVB c0 c1
      go_enter Tryz.func16, Tryz.ntmps16
      go_wp2_with fail
      go_quiet ((first | (go_at_call 42; first | with_reducible exact Calls.quiet_of_same (in_is y 1 9999 _ _ (HC0.out)) | with_reducible exact Calls.quiet_of_same (in_is m 1 12 _ _ (HC1.out)))))
      go_wp2
      go_ret
      exact ⟨by rw [HV.out]; rfl, Below.drewN' ((Below.refl _ _).alloc (Nat.le_refl _) _) _⟩
    · skip
      cases c2 : (decide (1 ≤ d) && decide (d ≤ dim y m))
      · have HV := Lib.hid (show V = false by rw [hVB, c0, c1, c2]; rfl)
        have HC0 := Lib.hid c0
        have HC1 := Lib.hid c1
        have HC2 := Lib.hid c2
        have hy : 0 ≤ y ∧ y ≤ 100000 := by simp at c0; omega
        have HLn := Lib.hid (fun w => refLength_any y m w hy.1 hy.2)
        clear hVB c0 c1 c2
        go_enter Tryz.func16, Tryz.ntmps16
        go_wp2_with fail
        go_quiet ((first | (go_at_call 42; first | with_reducible exact Calls.quiet_of_same (in_is y 1 9999 _ _ (HC0.out)) | with_reducible exact Calls.quiet_of_same (in_is m 1 12 _ _ (HC1.out)) | with_reducible exact Calls.quiet_of_same (in_is d 1 (dim y m) _ _ (HC2.out))) | (go_at_call 45; exact Calls.quiet_of_same ((HLn.out _).mono fun _ _ h => ⟨h.1, h.2.symm⟩))))
        go_wp2
        go_ret
        exact ⟨by rw [HV.out]; rfl, Below.drewN' ((Below.refl _ _).alloc (Nat.le_refl _) _) _⟩
      · skip
        cases c3 : (decide (0 ≤ h) && decide (h ≤ 23))
        · have HV := Lib.hid (show V = false by rw [hVB, c0, c1, c2, c3]; rfl)
          have HC0 := Lib.hid c0
          have HC1 := Lib.hid c1
          have HC2 := Lib.hid c2
          have HC3 := Lib.hid c3
          have hy : 0 ≤ y ∧ y ≤ 100000 := by simp at c0; omega
          have HLn := Lib.hid (fun w => refLength_any y m w hy.1 hy.2)
          clear hVB c0 c1 c2 c3
          go_enter Tryz.func16, Tryz.ntmps16
          go_wp2_with fail
          go_quiet ((first | (go_at_call 42; first | with_reducible exact Calls.quiet_of_same (in_is y 1 9999 _ _ (HC0.out)) | with_reducible exact Calls.quiet_of_same (in_is m 1 12 _ _ (HC1.out)) | with_reducible exact Calls.quiet_of_same (in_is d 1 (dim y m) _ _ (HC2.out)) | with_reducible exact Calls.quiet_of_same (in_is h 0 23 _ _ (HC3.out))) | (go_at_call 45; exact Calls.quiet_of_same ((HLn.out _).mono fun _ _ h => ⟨h.1, h.2.symm⟩))))
          go_wp2
          go_ret
          exact ⟨by rw [HV.out]; rfl, Below.drewN' ((Below.refl _ _).alloc (Nat.le_refl _) _) _⟩
        · skip
          cases c4 : (decide (0 ≤ i) && decide (i ≤ 59))
          · have HV := Lib.hid (show V = false by rw [hVB, c0, c1, c2, c3, c4]; rfl)
            have HC0 := Lib.hid c0
            have HC1 := Lib.hid c1
            have HC2 := Lib.hid c2
            have HC3 := Lib.hid c3
            have HC4 := Lib.hid c4
            have hy : 0 ≤ y ∧ y ≤ 100000 := by simp at c0; omega
            have HLn := Lib.hid (fun w => refLength_any y m w hy.1 hy.2)
            clear hVB c0 c1 c2 c3 c4
            go_enter Tryz.func16, Tryz.ntmps16
            go_wp2_with fail
            go_quiet ((first | (go_at_call 42; first | with_reducible exact Calls.quiet_of_same (in_is y 1 9999 _ _ (HC0.out)) | with_reducible exact Calls.quiet_of_same (in_is m 1 12 _ _ (HC1.out)) | with_reducible exact Calls.quiet_of_same (in_is d 1 (dim y m) _ _ (HC2.out)) | with_reducible exact Calls.quiet_of_same (in_is h 0 23 _ _ (HC3.out)) | with_reducible exact Calls.quiet_of_same (in_is i 0 59 _ _ (HC4.out))) | (go_at_call 45; exact Calls.quiet_of_same ((HLn.out _).mono fun _ _ h => ⟨h.1, h.2.symm⟩))))
            go_wp2
            go_ret
            exact ⟨by rw [HV.out]; rfl, Below.drewN' ((Below.refl _ _).alloc (Nat.le_refl _) _) _⟩
          · skip
            cases c5 : (decide (0 ≤ s) && decide (s ≤ 59))
            · have HV := Lib.hid (show V = false by rw [hVB, c0, c1, c2, c3, c4, c5]; rfl)
              have HC0 := Lib.hid c0
              have HC1 := Lib.hid c1
              have HC2 := Lib.hid c2
              have HC3 := Lib.hid c3
              have HC4 := Lib.hid c4
              have HC5 := Lib.hid c5
              have hy : 0 ≤ y ∧ y ≤ 100000 := by simp at c0; omega
              have HLn := Lib.hid (fun w => refLength_any y m w hy.1 hy.2)
              clear hVB c0 c1 c2 c3 c4 c5
              go_enter Tryz.func16, Tryz.ntmps16
              go_wp2_with fail
              go_quiet ((first | (go_at_call 42; first | with_reducible exact Calls.quiet_of_same (in_is y 1 9999 _ _ (HC0.out)) | with_reducible exact Calls.quiet_of_same (in_is m 1 12 _ _ (HC1.out)) | with_reducible exact Calls.quiet_of_same (in_is d 1 (dim y m) _ _ (HC2.out)) | with_reducible exact Calls.quiet_of_same (in_is h 0 23 _ _ (HC3.out)) | with_reducible exact Calls.quiet_of_same (in_is i 0 59 _ _ (HC4.out)) | with_reducible exact Calls.quiet_of_same (in_is s 0 59 _ _ (HC5.out))) | (go_at_call 45; exact Calls.quiet_of_same ((HLn.out _).mono fun _ _ h => ⟨h.1, h.2.symm⟩))))
              go_wp2
              go_ret
              exact ⟨by rw [HV.out]; rfl, Below.drewN' ((Below.refl _ _).alloc (Nat.le_refl _) _) _⟩
            · skip
              have HV := Lib.hid (show V = true by rw [hVB, c0, c1, c2, c3, c4, c5]; rfl)
              have HC0 := Lib.hid c0
              have HC1 := Lib.hid c1
              have HC2 := Lib.hid c2
              have HC3 := Lib.hid c3
              have HC4 := Lib.hid c4
              have HC5 := Lib.hid c5
              have hy : 0 ≤ y ∧ y ≤ 100000 := by simp at c0; omega
              have HLn := Lib.hid (fun w => refLength_any y m w hy.1 hy.2)
              clear hVB c0 c1 c2 c3 c4 c5
              go_enter Tryz.func16, Tryz.ntmps16
              go_wp2_with fail
              go_quiet ((first | (go_at_call 42; first | with_reducible exact Calls.quiet_of_same (in_is y 1 9999 _ _ (HC0.out)) | with_reducible exact Calls.quiet_of_same (in_is m 1 12 _ _ (HC1.out)) | with_reducible exact Calls.quiet_of_same (in_is d 1 (dim y m) _ _ (HC2.out)) | with_reducible exact Calls.quiet_of_same (in_is h 0 23 _ _ (HC3.out)) | with_reducible exact Calls.quiet_of_same (in_is i 0 59 _ _ (HC4.out)) | with_reducible exact Calls.quiet_of_same (in_is s 0 59 _ _ (HC5.out))) | (go_at_call 45; exact Calls.quiet_of_same ((HLn.out _).mono fun _ _ h => ⟨h.1, h.2.symm⟩))))
              go_wp2
              go_ret
              exact ⟨by rw [HV.out]; rfl, Below.drewN' ((Below.refl _ _).alloc (Nat.le_refl _) _) _⟩
end Go.Proofs.YtcgabonoddloiaaGreatDoor
