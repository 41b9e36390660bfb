/- Range: what both answer. -/
import Derived.Test.YtneklmalkmeohaaFinds1
namespace Go.Proofs.Ytneklmalkmeohaa
open Go.RowKit Go.Lib

def rangeUpto (l : List UInt8) (f t : Int) (k : Nat) : List UInt8 := (l.take (min k (t + 1).toNat)).drop f.toNat

theorem mk_append (x y : List UInt8) : (⟨x.toArray⟩ : ByteArray) ++ ⟨y.toArray⟩ = ⟨(x ++ y).toArray⟩ := by
  apply ByteArray.ext
  simp
theorem take_next (l : List UInt8) (k : Nat) (_h : k < l.length) : l.take (k + 1) = l.take k ++ (l.drop k).take 1 := by
  rw [List.take_add]
theorem rangeUpto_in (s : ByteArray) (f t : Int) (k : Nat) (hk : k < s.size) (h : f ≤ k ∧ (k : Int) ≤ t) : (⟨(rangeUpto s.data.toList f t k).toArray⟩ : ByteArray) ++ s.extract k (k + 1) = ⟨(rangeUpto s.data.toList f t (k + 1)).toArray⟩ := by
  rw [Lib.extract_eq, mk_append]
  congr 2
  unfold rangeUpto
  have hl : k < s.data.toList.length := by simpa using hk
  rw [show min k (t + 1).toNat = k by omega, show min (k + 1) (t + 1).toNat = k + 1 by omega, take_next _ _ hl, show k + 1 - k = 1 by omega, List.drop_append_of_le_length (by rw [List.length_take]; omega)]
theorem rangeUpto_out (l : List UInt8) (f t : Int) (k : Nat) (hk : k < l.length) (h : ¬ (f ≤ k ∧ (k : Int) ≤ t)) : rangeUpto l f t k = rangeUpto l f t (k + 1) := by
  unfold rangeUpto
  by_cases h1 : (k : Int) ≤ t
  · have h2 : k < f.toNat := by omega
    rw [List.drop_eq_nil_of_le (by rw [List.length_take]; omega), List.drop_eq_nil_of_le (by rw [List.length_take]; omega)]
  · rw [show min k (t + 1).toNat = min (k + 1) (t + 1).toNat by omega]
theorem rangeUpto_end (l : List UInt8) (f t : Int) (k : Nat) (hk : l.length ≤ k) : rangeUpto l f t k = rangeOf l f t := by
  unfold rangeUpto rangeOf
  by_cases h : (t + 1).toNat ≤ k
  · rw [show min k (t + 1).toNat = (t + 1).toNat by omega]
  · rw [show min k (t + 1).toNat = k by omega, List.take_of_length_le hk, List.take_of_length_le (by omega)]
theorem rangeUpto_len (l : List UInt8) (f t : Int) (k : Nat) : (rangeUpto l f t k).length ≤ k := by
  unfold rangeUpto
  rw [List.length_drop, List.length_take]
  omega

set_option maxRecDepth 100000 in
set_option maxHeartbeats 800000 in
theorem refRange_any (s : ByteArray) (f t : Int) (w : World) (hs : s.size ≤ 400) :
    Calls Try.prog 14 #[.string s, .int .i64 f, .int .i64 t] w fun e w' => e = .returned (.string ⟨(rangeOf s.data.toList f t).toArray⟩) ∧ w = w' := by
  go_enter Try.func14, Try.ntmps14
  go_wp2
  go_loop [7, 8, 11] (fun o _ i => ∃ k : Nat, k ≤ s.size ∧ i = .int .i64 k ∧ o = .string ⟨(rangeUpto s.data.toList f t k).toArray⟩) (fun _ _ i => s.size - (RowKit.intOf i).toNat)
  case atStart => exact ⟨0, Nat.zero_le _, rfl, by simp [rangeUpto]⟩
  case round =>
    obtain ⟨k, hk, rfl, rfl⟩ := hrel
    have hlen := rangeUpto_len s.data.toList f t k
    by_cases hlt : k < s.size
    · by_cases hw : f ≤ k ∧ (k : Int) ≤ t
      · have hno : ¬ 9223372036854775807 < (rangeUpto s.data.toList f t k).length + (min (k + 1) s.size - k) := by omega
        have H := Lib.hid (rangeUpto_in s f t k hlt hw)
        clear hlen
        go_wp2_with (go_at_call 50; refine (within_any _ _ _ _ true (by simp; omega)).mono ?_; rintro e w' ⟨rfl, rfl⟩)
        go_round
        case rel => exact ⟨k + 1, by omega, by go_num, by rw [H.out]⟩
        case measure => simp [RowKit.intOf]; omega
      · have H := Lib.hid (rangeUpto_out s.data.toList f t k (by simpa using hlt) hw)
        go_wp2_with (go_at_call 50; refine (within_any _ _ _ _ false (by simp; omega)).mono ?_; rintro e w' ⟨rfl, rfl⟩)
        go_round
        case rel => exact ⟨k + 1, by omega, by go_num, by rw [← H.out]⟩
        case measure => simp [RowKit.intOf]; omega
    · have H := Lib.hid (rangeUpto_end s.data.toList f t k (by simp; omega))
      go_wp2
      go_ret
      exact ⟨by rw [← H.out]; rfl, rfl⟩

theorem rangeOf_nil (l : List UInt8) (f t : Int) (h : max f 0 > min t ((l.length : Int) - 1)) : rangeOf l f t = [] := by
  unfold rangeOf
  refine List.drop_eq_nil_of_le ?_
  rw [List.length_take]
  omega
theorem rangeOf_ext (s : ByteArray) (f t : Int) (h : ¬ max f 0 > min t ((s.size : Int) - 1)) : s.extract (max f 0).toNat (min t ((s.size : Int) - 1) + 1).toNat = ⟨(rangeOf s.data.toList f t).toArray⟩ := by
  rw [Lib.extract_eq]
  congr 2
  unfold rangeOf
  rw [List.drop_take, show (max f 0).toNat = f.toNat by omega]
  by_cases h1 : t ≤ (s.size : Int) - 1
  · rw [show (min t ((s.size : Int) - 1) + 1).toNat = (t + 1).toNat by omega]
  · have hl : (s.data.toList.drop f.toNat).length = s.size - f.toNat := by simp
    rw [List.take_of_length_le (by rw [hl]; omega), List.take_of_length_le (by rw [hl]; omega)]

set_option maxRecDepth 100000 in
set_option maxHeartbeats 800000 in
theorem range_any (s : ByteArray) (f t : Int) (w : World) (hs : s.size ≤ 400) :
    Calls Try.prog 13 #[.string s, .int .i64 f, .int .i64 t] w fun e w' => e = .returned (.string ⟨(rangeOf s.data.toList f t).toArray⟩) ∧ w = w' := by
  by_cases hlt : max f 0 > min t ((s.size : Int) - 1)
  · have H := Lib.hid (rangeOf_nil s.data.toList f t (by simpa using hlt))
    go_enter Try.func13, Try.ntmps13
    go_wp2_with (go_at_call 49; refine (bounds_any _ _ _ _ (by omega) (by omega)).mono ?_; rintro e w' ⟨rfl, rfl⟩)
    go_ret
    exact ⟨by rw [H.out]; rfl, rfl⟩
  · have H := Lib.hid (rangeOf_ext s f t hlt)
    go_enter Try.func13, Try.ntmps13
    go_wp2_with (go_at_call 49; refine (bounds_any _ _ _ _ (by omega) (by omega)).mono ?_; rintro e w' ⟨rfl, rfl⟩)
    go_ret
    exact ⟨by rw [← H.out]; rfl, rfl⟩
end Go.Proofs.Ytneklmalkmeohaa
