/- Replace of the reference. -/
import Derived.Test.YtneklmalkmeohaaReplace
import Derived.Test.YtneklmalkmeohaaRepeats1
import Derived.Deep.RegionHeld3
namespace Go.Proofs.Ytneklmalkmeohaa
open Go.RowKit Go.Lib

theorem long_short (S : ByteArray) (w : World) (h : S.size ≤ 65536) :
    Calls Try.prog 68 #[.string S] w fun e w' => e = .returned (.tuple #[.string S, .int .i64 0]) ∧ w = w' := by
  have hz : S.data.toList.length = S.size := (Lib.size_eq S).symm
  refine (long_any S w).mono ?_
  rintro e w' ⟨rfl, rfl⟩
  refine ⟨?_, rfl⟩
  have h1 : longText S.data.toList = S.data.toList := by unfold longText; rw [hz, if_neg (by omega)]
  have h2 : longErr S.data.toList = 0 := by unfold longErr; rw [hz, if_neg (by omega)]
  rw [h1, h2]

set_option maxHeartbeats 800000 in
set_option maxRecDepth 100000 in
theorem refReplace_any (s x : ByteArray) (f t : Int) (w : World) (hs : s.size ≤ 400) (hx : x.size ≤ 400) :
    Calls Try.prog 42 #[.string s, .int .i64 f, .int .i64 t, .string x] w fun e w' => e = .returned (.tuple #[.string ⟨(replaced s.data.toList f t x.data.toList).toArray⟩, .int .i64 0]) ∧ Below w.heap.size w w' := by
  by_cases hle : max f 0 ≤ min t ((s.size : Int) - 1)
  · have H := Lib.hid (show replaced s.data.toList f t x.data.toList = s.data.toList.take (max f 0).toNat ++ x.data.toList ++ s.data.toList.drop (min t ((s.size : Int) - 1) + 1).toNat by
      unfold replaced
      rw [show ((s.data.toList.length : Nat) : Int) = (s.size : Int) by rw [← Lib.size_eq], if_pos hle])
    obtain ⟨F, hF⟩ : ∃ F : Nat, max f 0 = F := ⟨(max f 0).toNat, by omega⟩
    obtain ⟨T, hT⟩ : ∃ T : Nat, min t ((s.size : Int) - 1) = T := ⟨(min t ((s.size : Int) - 1)).toNat, by omega⟩
    have g1 : ¬ (F : Int) > (T : Int) := by omega
    have g2 : (T : Int) + 1 ≤ (s.size : Int) := by omega
    have g3 : (0 : Int) ≤ (F : Int) := by omega
    have g4 : (F : Int) ≤ (s.size : Int) := by omega
    have g5 : (0 : Int) ≤ (T : Int) + 1 := by omega
    have hw : IntKind.i64.wrap ((T : Int) + 1) = (T : Int) + 1 := by rw [IntKind.wrap_i64]; omega
    have q1 : ¬ 9223372036854775807 < min F s.size + x.size := by omega
    have q2 : ¬ 9223372036854775807 < min F s.size + x.size + (s.size - (T + 1)) := by omega
    have hS : s.extract 0 F ++ x ++ s.extract (T + 1) s.size = ⟨(replaced s.data.toList f t x.data.toList).toArray⟩ := by
      rw [H.out, hF, hT]
      apply ByteArray.ext
      apply Array.toList_inj.1
      simp only [ByteArray.data_append, Array.toList_append, Lib.extract_data]
      rw [show ((T : Int) + 1).toNat = T + 1 by omega, Int.toNat_natCast, List.drop_zero, Nat.sub_zero, show s.size - (T + 1) = (s.data.toList.drop (T + 1)).length by rw [List.length_drop, ← Lib.size_eq], List.take_length]
    have q3 := Lib.hid (show (s.extract 0 F ++ x ++ s.extract (T + 1) s.size).size ≤ 65536 by simp; omega)
    have HS := Lib.hid hS
    clear hS H
    go_enter Try.func42, Try.ntmps42
    go_wp2
    clear hle hF hT
    have hb0 : Below w.heap.size w w := Below.refl _ w
    go_region_held3 (fun w' => Below w.heap.size w w') ((first | assumption | (exact Below.drew (by assumption)))) ((go_at_call 68; refine (long_short _ _ q3.out).mono ?_; rintro e w' ⟨rfl, rfl⟩))
    rw [HS.out]
    go_wp2
    go_ret2
    exact ⟨rfl, by assumption⟩
  · have H := Lib.hid (show replaced s.data.toList f t x.data.toList = s.data.toList by
      unfold replaced
      rw [show ((s.data.toList.length : Nat) : Int) = (s.size : Int) by rw [← Lib.size_eq], if_neg hle])
    have q3 : s.size ≤ 65536 := by omega
    have hgt : max f 0 > min t ((s.size : Int) - 1) := by omega
    go_enter Try.func42, Try.ntmps42
    go_wp2_with (go_at_call 68; refine (long_short _ _ q3).mono ?_; rintro e w' ⟨rfl, rfl⟩)
    go_ret2
    exact ⟨by rw [H.out]; rfl, Below.refl _ w⟩
end Go.Proofs.Ytneklmalkmeohaa
