/- small, great, White, Detail: what the program and the reference answer; Lower, Upper, Reverse of the reference. -/
import Derived.Test.YtneklmalkmeohaaReverse
import Derived.Test.YtneklmalkmeohaaFinds1
import Derived.Test.YtneklmalkmeohaaRepeats1
import Derived.WalkSpells
namespace Go.Proofs.Ytneklmalkmeohaa
open Go.RowKit Go.Lib

theorem within_cast (c : UInt8) (lo hi : Nat) (w : World) :
    Calls Try.prog 50 #[.int .i64 (c.toNat : Int), .int .i64 (lo : Int), .int .i64 (hi : Int)] w fun e w' => e = .returned (.bool (decide (lo ≤ c.toNat ∧ c.toNat ≤ hi))) ∧ w = w' := by
  refine within_any _ _ _ w _ ?_
  by_cases h1 : lo ≤ c.toNat <;> by_cases h2 : c.toNat ≤ hi <;> simp [h1, h2] <;> omega

theorem refSmall_any (c : UInt8) (w : World) : Calls Try.prog 61 #[.int .u8 (c.toNat : Int)] w fun e w' => e = .returned (.int .u8 ((smallOf c).toNat : Int)) ∧ w = w' := by
  have hc := c.toNat_lt
  have hw := within_cast c 65 90
  by_cases h1 : 65 ≤ c.toNat ∧ c.toNat ≤ 90
  · have H := Lib.hid (show ((smallOf c).toNat : Int) = (c.toNat : Int) + 32 by
      unfold smallOf
      rw [if_pos h1, UInt8.toNat_add]
      simp
      omega)
    rw [show decide (65 ≤ c.toNat ∧ c.toNat ≤ 90) = true by simpa using h1] at hw
    have g2 : (c.toNat : Int) ≤ 90 := by omega
    clear h1
    go_enter Try.func61, Try.ntmps61
    go_wp2_with (go_at_call 50; refine (hw _).mono ?_; rintro e w' ⟨rfl, rfl⟩)
    go_ret
    exact ⟨by rw [H.out]; rfl, rfl⟩
  · have H := Lib.hid (show smallOf c = c by unfold smallOf; rw [if_neg h1])
    rw [show decide (65 ≤ c.toNat ∧ c.toNat ≤ 90) = false by simpa using h1] at hw
    clear h1
    go_enter Try.func61, Try.ntmps61
    go_wp2_with (go_at_call 50; refine (hw _).mono ?_; rintro e w' ⟨rfl, rfl⟩)
    go_ret
    exact ⟨by rw [H.out]; rfl, rfl⟩

theorem refGreat_any (c : UInt8) (w : World) : Calls Try.prog 63 #[.int .u8 (c.toNat : Int)] w fun e w' => e = .returned (.int .u8 ((greatOf c).toNat : Int)) ∧ w = w' := by
  have hc := c.toNat_lt
  have hw := within_cast c 97 122
  by_cases h1 : 97 ≤ c.toNat ∧ c.toNat ≤ 122
  · have H := Lib.hid (show ((greatOf c).toNat : Int) = (c.toNat : Int) - 32 by
      unfold greatOf
      rw [if_pos h1, UInt8.toNat_sub]
      simp
      omega)
    rw [show decide (97 ≤ c.toNat ∧ c.toNat ≤ 122) = true by simpa using h1] at hw
    have g2 : (97 : Int) ≤ (c.toNat : Int) := by omega
    clear h1
    go_enter Try.func63, Try.ntmps63
    go_wp2_with (go_at_call 50; refine (hw _).mono ?_; rintro e w' ⟨rfl, rfl⟩)
    go_ret
    exact ⟨by rw [H.out]; rfl, rfl⟩
  · have H := Lib.hid (show greatOf c = c by unfold greatOf; rw [if_neg h1])
    rw [show decide (97 ≤ c.toNat ∧ c.toNat ≤ 122) = false by simpa using h1] at hw
    clear h1
    go_enter Try.func63, Try.ntmps63
    go_wp2_with (go_at_call 50; refine (hw _).mono ?_; rintro e w' ⟨rfl, rfl⟩)
    go_ret
    exact ⟨by rw [H.out]; rfl, rfl⟩

/-- A white byte. -/
def whiteOf (c : UInt8) : Bool := decide (9 ≤ c.toNat ∧ c.toNat ≤ 13) || decide (c.toNat = 32)

theorem detail_any (s : ByteArray) (w : World) (hs : s.size ≤ 400) : Calls Try.prog 37 #[.string s] w fun e w' => e = .returned (.string (s.extract 0 (min (s.size : Int) 40).toNat)) ∧ w = w' := by
  go_enter Try.func37, Try.ntmps37
  go_wp2
  go_ret
  exact ⟨rfl, rfl⟩
theorem refDetail_any (s : ByteArray) (w : World) (hs : s.size ≤ 400) : Calls Try.prog 38 #[.string s] w fun e w' => e = .returned (.string (s.extract 0 (min (s.size : Int) 40).toNat)) ∧ w = w' := by
  go_enter Try.func38, Try.ntmps38
  go_wp2
  go_ret
  exact ⟨rfl, rfl⟩

theorem white_any (c : UInt8) (w : World) : Calls Try.prog 31 #[.int .u8 (c.toNat : Int)] w fun e w' => e = .returned (.bool (whiteOf c)) ∧ w = w' := by
  obtain ⟨n, hn⟩ : ∃ n, c.toNat = n := ⟨_, rfl⟩
  have H : Hid (whiteOf c = (decide (9 ≤ n ∧ n ≤ 13) || decide (n = 32))) := by show _ = _; unfold whiteOf; rw [hn]
  rw [hn]
  clear hn
  by_cases h0 : (n : Int) = 32
  · have e1 : n = 32 := by omega
    subst e1
    go_enter Try.func31, Try.ntmps31
    go_wp2
    go_ret
    exact ⟨by rw [H.out]; rfl, rfl⟩
  · have hz : ((n : Int) == 32) = false := by simpa using h0
    by_cases h1 : (n : Int) ≥ 9
    · by_cases h2 : (n : Int) ≤ 13
      · have H2 := Lib.hid (show (decide (9 ≤ n ∧ n ≤ 13) || decide (n = 32)) = true by simp; omega)
        go_enter Try.func31, Try.ntmps31
        go_wp2
        go_ret
        exact ⟨by rw [H.out, H2.out]; rfl, rfl⟩
      · have H2 := Lib.hid (show (decide (9 ≤ n ∧ n ≤ 13) || decide (n = 32)) = false by simp; omega)
        go_enter Try.func31, Try.ntmps31
        go_wp2
        go_ret
        exact ⟨by rw [H.out, H2.out]; rfl, rfl⟩
    · have H2 := Lib.hid (show (decide (9 ≤ n ∧ n ≤ 13) || decide (n = 32)) = false by simp; omega)
      go_enter Try.func31, Try.ntmps31
      go_wp2
      go_ret
      exact ⟨by rw [H.out, H2.out]; rfl, rfl⟩

theorem refWhite_any (c : UInt8) (w : World) : Calls Try.prog 32 #[.int .u8 (c.toNat : Int)] w fun e w' => e = .returned (.bool (whiteOf c)) ∧ w = w' := by
  have hc := c.toNat_lt
  have hw := within_cast c 9 13
  by_cases h1 : 9 ≤ c.toNat ∧ c.toNat ≤ 13
  · have H := Lib.hid (show whiteOf c = true by unfold whiteOf; simp [h1])
    rw [show decide (9 ≤ c.toNat ∧ c.toNat ≤ 13) = true by simpa using h1] at hw
    clear h1
    go_enter Try.func32, Try.ntmps32
    go_wp2_with (go_at_call 50; refine (hw _).mono ?_; rintro e w' ⟨rfl, rfl⟩)
    go_ret
    exact ⟨by rw [H.out]; rfl, rfl⟩
  · rw [show decide (9 ≤ c.toNat ∧ c.toNat ≤ 13) = false by simpa using h1] at hw
    by_cases h2 : c.toNat = 32
    · have H := Lib.hid (show whiteOf c = true by unfold whiteOf; simp [h2])
      have hz : ((c.toNat : Int) == 32) = true := by simp; omega
      clear h1 h2
      go_enter Try.func32, Try.ntmps32
      go_wp2_with (go_at_call 50; refine (hw _).mono ?_; rintro e w' ⟨rfl, rfl⟩)
      go_ret
      exact ⟨by rw [H.out]; rfl, rfl⟩
    · have H := Lib.hid (show whiteOf c = false by unfold whiteOf; simp [h2]; omega)
      have hz : ((c.toNat : Int) == 32) = false := by simp; omega
      clear h1 h2
      go_enter Try.func32, Try.ntmps32
      go_wp2_with (go_at_call 50; refine (hw _).mono ?_; rintro e w' ⟨rfl, rfl⟩)
      go_ret
      exact ⟨by rw [H.out]; rfl, rfl⟩

theorem map_next (s : ByteArray) (f : UInt8 → UInt8) (k : Nat) (hk : k < s.size) : byteCells ((s.data.toList.take (k + 1)).map f) = byteCells ((s.data.toList.take k).map f) ++ [Value.int .u8 ((f s[k]).toNat : Int)] := by
  have hl : k < s.data.toList.length := by rw [← Lib.size_eq]; exact hk
  rw [List.take_succ_eq_append_getElem hl, List.map_append, Lib.byteCells_append]
  rfl

set_option maxHeartbeats 1600000 in
set_option maxRecDepth 100000 in
theorem refLower_any (s : ByteArray) (w : World) (hs : s.size ≤ 400) :
    Calls Try.prog 26 #[.string s] w fun e w' => e = .returned (.string ⟨(s.data.toList.map smallOf).toArray⟩) ∧ Below w.heap.size w w' := by
  obtain ⟨i5, hi5, hy0, hy1, hy2⟩ := info_parts Try.info5
  have hlen : s.data.toList.length = s.size := (Lib.size_eq s).symm
  go_enter Try.func26, Try.ntmps26
  go_wp2
  go_loopg [3, 7] s.size (fun g v3 v wx => ∃ k : Nat, v = .int .i64 k ∧ k + g = s.size ∧ wx.ownsRow w.heap.size 5 1 v3 k (byteCells ((s.data.toList.take k).map smallOf)) ∧ Below w.heap.size w wx)
  case atStart => exact ⟨0, rfl, by omega, World.ownsRow_nil _ _ _ _, Below.refl _ _⟩
  case round =>
    obtain ⟨k, rfl, hkg, hown, hbx⟩ := hrel
    obtain ⟨ao, cc, rfl⟩ := slice_of_own hown
    by_cases hk : k < s.size
    · have hk1 : (k : Int) < (s.size : Int) := by omega
      have hk0 : (0 : Int) ≤ (k : Int) := by omega
      obtain ⟨g, rfl⟩ : ∃ g, gk = g + 1 := ⟨gk - 1, by omega⟩
      go_wp2_with (first
        | (go_at_call 61; refine (refSmall_any s[k] _).mono ?_; rintro e w' ⟨rfl, rfl⟩)
        | (at_builtin; refine wpList_append_own _ rfl _ _ 56 rfl w.heap.size 5 i5 (.int .u8 0) 1 1 Try.underlying56 hi5 hy0 hy1 hy2 rfl (by decide) (.slice ao k cc) k _ rfl (hown.alloc _) ⟨wr.heap.size, 0, none⟩ 1 1 [.int .u8 ((smallOf s[k]).toNat : Int)] rfl rfl (cell_one_new _ _ _) (by intro u hu; simp at hu; subst hu; rfl) (by unfold maxLen; omega) (by omega) (by simp; exact Nat.le_trans hbx.size (by omega)) ?_; intro v' w2 hown2 hgrow _))
      go_roundg g
      case measure => omega
      case rel =>
        refine ⟨k + 1, rfl, by omega, ?_, (hbx.alloc hbx.size _).grown hgrow (by simp; exact Nat.le_trans hbx.size (by omega)) (fun q hq => (hown.lt q hq).1)⟩
        rw [map_next s smallOf k hk]
        exact hown2
    · have hk1 : ¬ (k : Int) < (s.size : Int) := by omega
      obtain rfl : k = s.size := by omega
      have HL := Lib.hid (show (s.data.toList.take s.size).map smallOf = s.data.toList.map smallOf by rw [← hlen, List.take_length])
      rw [HL.out] at hown
      have hcv := conv_own (w := wr) (l := s.data.toList.map smallOf) (v := .slice ao s.size cc) (by rw [List.length_map, hlen]; exact hown)
      go_wp2
      go_ret
      exact ⟨rfl, hbx⟩

set_option maxHeartbeats 1600000 in
set_option maxRecDepth 100000 in
theorem refUpper_any (s : ByteArray) (w : World) (hs : s.size ≤ 400) :
    Calls Try.prog 28 #[.string s] w fun e w' => e = .returned (.string ⟨(s.data.toList.map greatOf).toArray⟩) ∧ Below w.heap.size w w' := by
  obtain ⟨i5, hi5, hy0, hy1, hy2⟩ := info_parts Try.info5
  have hlen : s.data.toList.length = s.size := (Lib.size_eq s).symm
  go_enter Try.func28, Try.ntmps28
  go_wp2
  go_loopg [3, 7] s.size (fun g v3 v wx => ∃ k : Nat, v = .int .i64 k ∧ k + g = s.size ∧ wx.ownsRow w.heap.size 5 1 v3 k (byteCells ((s.data.toList.take k).map greatOf)) ∧ Below w.heap.size w wx)
  case atStart => exact ⟨0, rfl, by omega, World.ownsRow_nil _ _ _ _, Below.refl _ _⟩
  case round =>
    obtain ⟨k, rfl, hkg, hown, hbx⟩ := hrel
    obtain ⟨ao, cc, rfl⟩ := slice_of_own hown
    by_cases hk : k < s.size
    · have hk1 : (k : Int) < (s.size : Int) := by omega
      have hk0 : (0 : Int) ≤ (k : Int) := by omega
      obtain ⟨g, rfl⟩ : ∃ g, gk = g + 1 := ⟨gk - 1, by omega⟩
      go_wp2_with (first
        | (go_at_call 63; refine (refGreat_any s[k] _).mono ?_; rintro e w' ⟨rfl, rfl⟩)
        | (at_builtin; refine wpList_append_own _ rfl _ _ 56 rfl w.heap.size 5 i5 (.int .u8 0) 1 1 Try.underlying56 hi5 hy0 hy1 hy2 rfl (by decide) (.slice ao k cc) k _ rfl (hown.alloc _) ⟨wr.heap.size, 0, none⟩ 1 1 [.int .u8 ((greatOf s[k]).toNat : Int)] rfl rfl (cell_one_new _ _ _) (by intro u hu; simp at hu; subst hu; rfl) (by unfold maxLen; omega) (by omega) (by simp; exact Nat.le_trans hbx.size (by omega)) ?_; intro v' w2 hown2 hgrow _))
      go_roundg g
      case measure => omega
      case rel =>
        refine ⟨k + 1, rfl, by omega, ?_, (hbx.alloc hbx.size _).grown hgrow (by simp; exact Nat.le_trans hbx.size (by omega)) (fun q hq => (hown.lt q hq).1)⟩
        rw [map_next s greatOf k hk]
        exact hown2
    · have hk1 : ¬ (k : Int) < (s.size : Int) := by omega
      obtain rfl : k = s.size := by omega
      have HL := Lib.hid (show (s.data.toList.take s.size).map greatOf = s.data.toList.map greatOf by rw [← hlen, List.take_length])
      rw [HL.out] at hown
      have hcv := conv_own (w := wr) (l := s.data.toList.map greatOf) (v := .slice ao s.size cc) (by rw [List.length_map, hlen]; exact hown)
      go_wp2
      go_ret
      exact ⟨rfl, hbx⟩

end Go.Proofs.Ytneklmalkmeohaa
