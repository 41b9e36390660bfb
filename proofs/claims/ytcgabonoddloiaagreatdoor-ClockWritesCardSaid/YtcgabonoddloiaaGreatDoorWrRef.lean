/- digits, months, weekdays of the reference. -/
import Derived.Test.YtcgabonoddloiaaGreatDoorWrWrite
import Derived.Test.YtcgabonoddloiaaGreatDoorRefWeeks
namespace Go.Proofs.YtcgabonoddloiaaGreatDoor.Wr
open Go.RowKit Clk

theorem zeros_succ (j : Nat) : Lib.repeatL [48] (j + 1) = 48 :: Lib.repeatL [48] j := by
  simp [Lib.repeatL]

set_option maxRecDepth 100000 in
set_option maxHeartbeats 1600000 in
theorem digits_any (n : Int) (k : Nat) (B : Nat) (w : World) (hn : 0 ≤ n) (hn2 : n ≤ 9999) (hk : k ≤ 4) (hP : Pow B w) (_hB : B ≤ w.heap.size) :
    Calls Tryz.prog 74 #[.int .i64 n, .int .i64 k] w fun e w' => e = .returned (.string ⟨(padB n k).toArray⟩) ∧ Below w.heap.size w w' := by
  have hl := itoa_len n hn hn2
  have HP : Hid (padB n k = Lib.repeatL [48] (k - (Lib.itoa n).length) ++ Lib.itoa n) := Lib.hid rfl
  go_enter Tryz.func74, Tryz.ntmps74
  go_wp2_with fail
  refine (itoa_any n B _ (by omega) (by omega) hP).mono ?_
  rintro e w1 ⟨rfl, hb⟩
  obtain ⟨l, hl'⟩ : ∃ l, Lib.itoa n = l := ⟨_, rfl⟩
  rw [hl'] at hl
  rw [hl']
  have HL := Lib.hid hl'
  have HB := Lib.hid hb
  clear hl' hb
  go_wp2_with fail
  go_loop [5] (fun v5 => ∃ (j : Nat) (X : ByteArray), v5 = .string X ∧ j ≤ k - l.length ∧ X.size = j + l.length ∧ X.data.toList = Lib.repeatL [48] j ++ l) (fun v5 => match v5 with | .string X => 10 - X.size | _ => 0)
  case atStart => exact ⟨0, _, rfl, Nat.zero_le _, by simp [ByteArray.size], by simp [Lib.repeatL]⟩
  case round =>
    obtain ⟨j, X, rfl, hj, hsz, hX⟩ := hrel
    have HX := Lib.hid hX
    clear hX
    by_cases hlt : X.size < k
    · go_wp2
      go_round
      case rel => exact ⟨j + 1, _, rfl, by omega, by rw [ByteArray.size_append, show (⟨#[48]⟩ : ByteArray).size = 1 from rfl]; omega, by rw [zeros_succ]; simp [HX.out]⟩
      case measure =>
        show 10 - ((⟨#[48]⟩ : ByteArray) ++ X).size < 10 - X.size
        rw [ByteArray.size_append, show (⟨#[48]⟩ : ByteArray).size = 1 from rfl]
        omega
    · have hj' : j = k - l.length := by omega
      subst hj'
      go_wp2
      go_ret
      refine ⟨?_, HB.out⟩
      rw [HP.out, HL.out, ← HX.out]
      show Ending.returned (.string X) = _
      rw [Array.toArray_toList]

theorem months_any (w : World) : Calls Tryz.prog 75 #[] w fun e w' => e = .returned (.slice (some ⟨w.heap.size, 0, none⟩) 12 12) ∧ Below w.heap.size w w' ∧ w.heap.size < w'.heap.size ∧ ∀ j, j < 12 → w'.cell? ⟨w.heap.size, j, none⟩ = some (.string ⟨(mNames.getD j []).toArray⟩) := by
  go_enter Tryz.func75, Tryz.ntmps75
  go_wp2
  go_ret
  exact ⟨rfl, (Below.refl _ _).alloc (Nat.le_refl _) _, by simp, fun j hj => ((Has.new w 9 (cellsOf mNames)).cell j).trans (cellsOf_at mNames j hj)⟩
theorem weekdays_any (w : World) : Calls Tryz.prog 76 #[] w fun e w' => e = .returned (.slice (some ⟨w.heap.size, 0, none⟩) 7 7) ∧ Below w.heap.size w w' ∧ w.heap.size < w'.heap.size ∧ ∀ j, j < 7 → w'.cell? ⟨w.heap.size, j, none⟩ = some (.string ⟨(wNames.getD j []).toArray⟩) := by
  go_enter Tryz.func76, Tryz.ntmps76
  go_wp2
  go_ret
  exact ⟨rfl, (Below.refl _ _).alloc (Nat.le_refl _) _, by simp, fun j hj => ((Has.new w 9 (cellsOf wNames)).cell j).trans (cellsOf_at wNames j hj)⟩
end Go.Proofs.YtcgabonoddloiaaGreatDoor.Wr
