/- digits, natural of the program. -/
import Derived.Test.YtneklmalkmeohaaDigits
namespace Go.Proofs.Ytneklmalkmeohaa
open Go.RowKit Go.Lib

theorem wrap64_keep {n : Int} (h : -9223372036854775808 ≤ n ∧ n ≤ 9223372036854775807) : wrap64 n = n := by unfold wrap64; omega

theorem wrap64_nat {n : Nat} (h : n ≤ 29700) : wrap64 (n : Int) = (n : Int) := wrap64_keep ⟨by omega, by omega⟩

/-- How many of the first bytes are digits below a base; what they are worth. -/
def digsOf (b : Nat) (l : List UInt8) : Nat := (l.takeWhile fun c => decide (digOf c < b)).length
def natOf (b : Nat) (l : List UInt8) : Nat := l.foldl (fun n c => n * b + digOf c) 0

theorem natOf_snoc (b : Nat) (l : List UInt8) (c : UInt8) : natOf b (l ++ [c]) = natOf b l * b + digOf c := by simp [natOf]

/-- A run of digits that ends at k. -/
theorem digsOf_eq (b : Nat) (l : List UInt8) (k : Nat) (h : ∀ j (hj : j < l.length), j < k → digOf l[j] < b) (hk : k ≤ l.length) (he : ∀ hk : k < l.length, ¬ digOf l[k] < b) : digsOf b l = k := by
  unfold digsOf
  induction l generalizing k with
  | nil => simp at hk ⊢; omega
  | cons c l ih =>
    cases k with
    | zero =>
      have := he (by simp)
      rw [List.takeWhile_cons_of_neg (by simpa using this)]
      rfl
    | succ k =>
      have h0 := h 0 (by simp) (by omega)
      rw [List.takeWhile_cons_of_pos (by simpa using h0), List.length_cons, ih k (fun j hj hjk => by
        have := h (j + 1) (by simpa using hj) (by omega)
        simpa using this) (by simpa using hk) (fun hk' => by
        have := he (by simpa using hk')
        simpa using this)]

set_option maxHeartbeats 1600000 in
set_option maxRecDepth 100000 in
theorem digits_any (s : ByteArray) (b m : Nat) (w : World) (_hs : s.size ≤ 400) (_hb : b ≤ 36) (hm : m ≤ 9) :
    Calls Try.prog 56 #[.string s, .int .i64 (b : Int), .int .i64 (m : Int)] w fun e w' => e = .returned (.int .i64 (digsOf b (s.data.toList.take m) : Int)) ∧ w = w' := by
  have hlen : s.data.toList.length = s.size := (Lib.size_eq s).symm
  go_enter Try.func56, Try.ntmps56
  go_wp2_with fail
  go_loopg [7] s.size (fun g v wx => ∃ k : Nat, v = .int .i64 k ∧ k + g = s.size ∧ k ≤ m ∧ (∀ j (hj : j < s.data.toList.length), j < k → digOf s.data.toList[j] < b) ∧ w = wx)
  case atStart => exact ⟨0, rfl, by omega, by omega, fun j _ h => by omega, rfl⟩
  case round =>
    obtain ⟨k, rfl, hkg, hkm, hall, rfl⟩ := hrel
    have hend : (∀ hk : k < (s.data.toList.take m).length, ¬ digOf (s.data.toList.take m)[k] < b) → digsOf b (s.data.toList.take m) = k := fun he =>
      digsOf_eq b _ k (fun j hj hjk => by
        rw [List.getElem_take]
        exact hall j _ hjk) (by rw [List.length_take]; omega) he
    by_cases hk : k < s.size
    · have hk1 : (k : Int) < (s.size : Int) := by omega
      have hk0 : (0 : Int) ≤ (k : Int) := by omega
      by_cases hk2 : k < m
      · have hk3 : (k : Int) < (m : Int) := by omega
        obtain ⟨c, hc⟩ : ∃ c, s[k] = c := ⟨_, rfl⟩
        have hc' : s.data.toList[k]'(by omega) = c := hc
        have HC := Lib.hid hc
        by_cases hd : digOf c < b
        · have hd1 : (digOf c : Int) < (b : Int) := by omega
          have HA := Lib.hid (show ∀ j (hj : j < s.data.toList.length), j < k + 1 → digOf s.data.toList[j] < b from fun j hj hjk => by
            rcases Nat.lt_succ_iff_lt_or_eq.1 hjk with h | h
            · exact hall j hj h
            · subst h
              rw [hc']
              exact hd)
          clear hall hend hd hc'
          obtain ⟨g, rfl⟩ : ∃ g, gk = g + 1 := ⟨gk - 1, by omega⟩
          go_wp2_with (go_at_call 87; refine (digit_any c _).mono ?_; rintro e w' ⟨rfl, rfl⟩)
          go_roundg g
          case measure => omega
          case rel => exact ⟨k + 1, rfl, by omega, by omega, HA.out, rfl⟩
        · have hd1 : ¬ (digOf c : Int) < (b : Int) := by omega
          have HE := Lib.hid (hend (fun hk => by
            rw [List.getElem_take, hc']
            exact hd))
          clear hall hend hd hc'
          go_wp2_with (go_at_call 87; refine (digit_any c _).mono ?_; rintro e w' ⟨rfl, rfl⟩)
          go_ret
          exact ⟨by rw [HE.out]; rfl, rfl⟩
      · have hk3 : ¬ (k : Int) < (m : Int) := by omega
        have HE := Lib.hid (hend (fun hk => by rw [List.length_take] at hk; omega))
        clear hall hend
        go_wp2
        go_ret
        exact ⟨by rw [HE.out]; rfl, rfl⟩
    · have hk1 : ¬ (k : Int) < (s.size : Int) := by omega
      have HE := Lib.hid (hend (fun hk => by rw [List.length_take] at hk; omega))
      clear hall hend
      go_wp2
      go_ret
      exact ⟨by rw [HE.out]; rfl, rfl⟩

theorem natOf_le (b : Nat) (hb : b ≤ 16) : ∀ l : List UInt8, l.length ≤ 3 → natOf b l ≤ 29700
  | [], _ => by simp [natOf]
  | [x], _ => by have := digOf_le x; simp [natOf]; omega
  | [x, y], _ => by
    have := digOf_le x
    have := digOf_le y
    have h2 := Nat.mul_le_mul this hb
    have h3 := Nat.mul_le_mul (digOf_le x) hb
    simp [natOf]
    omega
  | [x, y, z], _ => by
    have := digOf_le x
    have := digOf_le y
    have := digOf_le z
    have h2 := Nat.mul_le_mul (digOf_le x) hb
    have h4 : (digOf x * b + digOf y) * b ≤ (99 * 16 + 99) * 16 := Nat.mul_le_mul (by omega) hb
    simp [natOf]
    omega
  | _ :: _ :: _ :: _ :: _, h => by simp at h

set_option maxHeartbeats 1600000 in
set_option maxRecDepth 100000 in
theorem natural_any (s : ByteArray) (b : Nat) (w : World) (hs : s.size ≤ 3) (hb : b ≤ 16) :
    Calls Try.prog 57 #[.string s, .int .i64 (b : Int)] w fun e w' => e = .returned (.int .i64 (natOf b s.data.toList : Int)) ∧ w = w' := by
  have hlen : s.data.toList.length = s.size := (Lib.size_eq s).symm
  go_enter Try.func57, Try.ntmps57
  go_wp2_with fail
  go_loopg [5, 9] s.size (fun g u v wx => ∃ k : Nat, v = .int .i64 k ∧ u = .int .i64 (natOf b (s.data.toList.take k) : Int) ∧ k + g = s.size ∧ w = wx)
  case atStart => exact ⟨0, rfl, by simp [natOf], by omega, rfl⟩
  case round =>
    obtain ⟨k, rfl, rfl, hkg, rfl⟩ := hrel
    by_cases hk : k < s.size
    · have hk1 : (k : Int) < (s.size : Int) := by omega
      have hk0 : (0 : Int) ≤ (k : Int) := by omega
      obtain ⟨c, hc⟩ : ∃ c, s[k] = c := ⟨_, rfl⟩
      have hl : k < s.data.toList.length := by omega
      have hn : natOf b (s.data.toList.take (k + 1)) = natOf b (s.data.toList.take k) * b + digOf c := by
        rw [List.take_succ_eq_append_getElem hl, natOf_snoc]
        exact congrArg (fun x => _ + digOf x) hc
      have h1 := natOf_le b hb (s.data.toList.take k) (by rw [List.length_take]; omega)
      have h2 := natOf_le b hb (s.data.toList.take (k + 1)) (by rw [List.length_take]; omega)
      have hd := digOf_le c
      have HN := Lib.hid hn
      obtain ⟨n', hn'⟩ : ∃ n', natOf b (s.data.toList.take (k + 1)) = n' := ⟨_, rfl⟩
      rw [hn'] at hn h2
      have HN' := Lib.hid hn'
      clear hn' HN
      revert h1 hn
      generalize natOf b (s.data.toList.take k) = n
      intro h1 hn
      have hc1 : ((n * b : Nat) : Int) = (n : Int) * (b : Int) := by simp
      have hw1 : wrap64 ((n : Int) * (b : Int)) = (n : Int) * (b : Int) := wrap64_keep ⟨by omega, by omega⟩
      have hw2 : wrap64 ((n : Int) * (b : Int) + (digOf c : Int)) = (n : Int) * (b : Int) + (digOf c : Int) := wrap64_keep ⟨by omega, by omega⟩
      have HV := Lib.hid (show (n : Int) * (b : Int) + (digOf c : Int) = (n' : Int) by omega)
      have HC := Lib.hid hc
      have HW := Lib.hid (wrap64_nat h2)
      clear h1 h2 hn hc1
      obtain ⟨g, rfl⟩ : ∃ g, gk = g + 1 := ⟨gk - 1, by omega⟩
      go_wp2_with (go_at_call 87; refine (digit_any c _).mono ?_; rintro e w' ⟨rfl, rfl⟩)
      go_roundg g
      case measure => omega
      case rel => exact ⟨k + 1, rfl, by rw [HV.out, HW.out, HN'.out], by omega, rfl⟩
    · have hk1 : ¬ (k : Int) < (s.size : Int) := by omega
      obtain rfl : k = s.size := by omega
      have HE := Lib.hid (show s.data.toList.take s.size = s.data.toList from List.take_of_length_le (by omega))
      go_wp2
      go_ret
      exact ⟨by rw [HE.out]; rfl, rfl⟩
end Go.Proofs.Ytneklmalkmeohaa
