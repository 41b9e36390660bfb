/- Replace, of the program and of the reference. -/
import Derived.Test.YtneklmalkmeohaaFinds1
namespace Go.Proofs.Ytneklmalkmeohaa
open Go.RowKit Go.Lib

/-- The bytes from an index to another one replaced. -/
def replaced (l : List UInt8) (f t : Int) (x : List UInt8) : List UInt8 :=
  if max f 0 ≤ min t (l.length - 1) then l.take (max f 0).toNat ++ x ++ l.drop (min t (l.length - 1) + 1).toNat else l

set_option maxHeartbeats 800000 in
set_option maxRecDepth 100000 in
theorem replace_walk (s x : ByteArray) (f t : Int) (w : World) (hs : s.size ≤ 400) (hx : x.size ≤ 400) :
    Calls Try.prog 41 #[.string s, .int .i64 f, .int .i64 t, .string x] w fun e w' => e = .returned (.tuple #[.string ⟨(replaced s.data.toList f t x.data.toList).toArray⟩, .int .i64 0]) ∧ Below w.heap.size w w' := by
  by_cases hle : max f 0 ≤ min t ((s.size : Int) - 1)
  · have H := Lib.hid (show replaced s.data.toList f t x.data.toList = s.data.toList.take (max f 0).toNat ++ x.data.toList ++ s.data.toList.drop (min t ((s.size : Int) - 1) + 1).toNat by
      unfold replaced
      rw [show ((s.data.toList.length : Nat) : Int) = (s.size : Int) by rw [← Lib.size_eq], if_pos hle])
    obtain ⟨F, hF⟩ : ∃ F : Nat, max f 0 = F := ⟨(max f 0).toNat, by omega⟩
    obtain ⟨T, hT⟩ : ∃ T : Nat, min t ((s.size : Int) - 1) = T := ⟨(min t ((s.size : Int) - 1)).toNat, by omega⟩
    have g1 : (F : Int) ≤ (T : Int) := by omega
    have g2 : (T : Int) + 1 ≤ (s.size : Int) := by omega
    have g3 : (0 : Int) ≤ (F : Int) := by omega
    have g4 : (F : Int) ≤ (s.size : Int) := by omega
    have g5 : (0 : Int) ≤ (T : Int) + 1 := by omega
    go_enter Try.func41, Try.ntmps41
    go_wp2_with (go_at_call 49; refine (bounds_any _ _ _ _ (by omega) (by omega)).mono ?_; rintro e w' ⟨rfl, rfl⟩)
    have q1 : ¬ 9223372036854775807 < (s.extract 0 F).size + x.size := by simp; omega
    have q2 : ¬ 9223372036854775807 < ((s.extract 0 F) ++ x).size + (s.extract (T + 1) s.size).size := by simp; omega
    have hS : s.extract 0 F ++ x ++ s.extract (T + 1) s.size = ⟨(replaced s.data.toList f t x.data.toList).toArray⟩ := by
      rw [H.out, hF, hT]
      apply ByteArray.ext
      apply Array.toList_inj.1
      simp only [ByteArray.data_append, Array.toList_append, Lib.extract_data]
      rw [show ((T : Int) + 1).toNat = T + 1 by omega, Int.toNat_natCast, List.drop_zero, Nat.sub_zero, show s.size - (T + 1) = (s.data.toList.drop (T + 1)).length by rw [List.length_drop, ← Lib.size_eq], List.take_length]
    have q3 : ¬ (65536 : Int) < ((s.extract 0 F ++ x ++ s.extract (T + 1) s.size).size : Int) := by simp; omega
    rw [hS] at q3
    have HS := Lib.hid hS
    clear hS H
    go_region
    rw [HS.out]
    go_wp2
    go_ret2
    exact ⟨rfl, (Below.refl _ w).drew⟩
  · have H := Lib.hid (show replaced s.data.toList f t x.data.toList = s.data.toList by
      unfold replaced
      rw [show ((s.data.toList.length : Nat) : Int) = (s.size : Int) by rw [← Lib.size_eq], if_neg hle])
    have q3 : ¬ (65536 : Int) < (s.size : Int) := by omega
    go_enter Try.func41, Try.ntmps41
    go_wp2_with (go_at_call 49; refine (bounds_any _ _ _ _ (by omega) (by omega)).mono ?_; rintro e w' ⟨rfl, rfl⟩)
    go_ret2
    exact ⟨by rw [H.out]; rfl, Below.refl _ w⟩
end Go.Proofs.Ytneklmalkmeohaa
