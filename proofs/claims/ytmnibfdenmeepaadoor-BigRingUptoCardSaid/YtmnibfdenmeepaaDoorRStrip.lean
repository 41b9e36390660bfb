/- has, Trim, Strip of the reference of layer 1, for the white bytes. -/
import Derived.Test.YtmnibfdenmeepaaDoorRDig
namespace Go.Proofs.YtmnibfdenmeepaaDoor
open Go.RowKit Go.Shelf Big

def whs : ByteArray := ⟨#[9, 10, 11, 12, 13, 32]⟩
theorem whs_size : whs.size = 6 := rfl
theorem whs_get (c : UInt8) : (∃ k, ∃ h : k < whs.size, whs[k] = c) ↔ wht c = true := by
  constructor
  · rintro ⟨k, hk, rfl⟩
    have : k < 6 := hk
    rcases (show k = 0 ∨ k = 1 ∨ k = 2 ∨ k = 3 ∨ k = 4 ∨ k = 5 by omega) with rfl | rfl | rfl | rfl | rfl | rfl <;> (clear this; revert hk; decide)
  · intro h
    unfold wht at h
    simp only [Bool.or_eq_true, decide_eq_true_eq] at h
    have e : ∀ d : UInt8, d.toNat = c.toNat → d = c := fun d hd => UInt8.toNat_inj.1 hd
    rcases (show c.toNat = 9 ∨ c.toNat = 10 ∨ c.toNat = 11 ∨ c.toNat = 12 ∨ c.toNat = 13 ∨ c.toNat = 32 by omega) with h | h | h | h | h | h
    · exact ⟨0, by decide, e 9 h.symm⟩
    · exact ⟨1, by decide, e 10 h.symm⟩
    · exact ⟨2, by decide, e 11 h.symm⟩
    · exact ⟨3, by decide, e 12 h.symm⟩
    · exact ⟨4, by decide, e 13 h.symm⟩
    · exact ⟨5, by decide, e 32 h.symm⟩
theorem has_g (s : ByteArray) (c : UInt8) (b : Bool) (w : World) (hs : s.size ≤ 400) (hb : (∃ k, ∃ h : k < s.size, s[k] = c) ↔ b = true) :
    Calls Tryd.prog 137 #[.string s, .int .u8 (c.toNat : Int)] w fun e w' => e = .returned (.bool b) ∧ w = w' := by
  have HB := Lib.hid hb
  clear hb
  go_enter Tryd.func137, Tryd.ntmps137
  go_wp2
  go_loopg [8] s.size (fun g v wx => ∃ k : Nat, v = .int .i64 k ∧ k + g = s.size ∧ (∀ j, ∀ h : j < s.size, j < k → s[j] ≠ c) ∧ w = wx)
  case atStart => exact ⟨0, rfl, by omega, fun _ _ h => absurd h (Nat.not_lt_zero _), rfl⟩
  case round =>
    obtain ⟨k, rfl, hkg, hno, rfl⟩ := hrel
    by_cases hk : k < s.size
    · have hk1 : (k : Int) < (s.size : Int) := by omega
      have hk0 : (0 : Int) ≤ (k : Int) := by omega
      by_cases he : s[k] = c
      · have H := Lib.hid (show b = true from HB.out.1 ⟨k, hk, he⟩)
        have hq : ((s[k].toNat : Int) == (c.toNat : Int)) = true := by rw [he]; simp
        clear hno
        go_wp2
        go_ret
        exact ⟨by rw [H.out]; rfl, rfl⟩
      · have hq : ((s[k].toNat : Int) == (c.toNat : Int)) = false := by
          simp only [beq_eq_false_iff_ne, ne_eq]
          intro h
          exact he (UInt8.toNat_inj.1 (by omega))
        have HN := Lib.hid (show ∀ j, ∀ h : j < s.size, j < k + 1 → s[j] ≠ c from fun j h hj => by
          rcases Nat.lt_or_ge j k with h1 | h1
          · exact hno j h h1
          · obtain rfl : j = k := by omega
            exact he)
        obtain ⟨g, rfl⟩ : ∃ g, gk = g + 1 := ⟨gk - 1, by omega⟩
        clear hno
        go_wp2
        go_roundg g
        case measure => omega
        case rel => exact ⟨k + 1, rfl, by omega, HN.out, rfl⟩
    · have hk1 : ¬ (k : Int) < (s.size : Int) := by omega
      have H := Lib.hid (show b = false by
        cases b with
        | false => rfl
        | true =>
          obtain ⟨j, h, e⟩ := HB.out.2 rfl
          exact absurd e (hno j h (by omega)))
      clear hno
      go_wp2
      go_ret
      exact ⟨by rw [H.out]; rfl, rfl⟩
theorem has_white (c : UInt8) (w : World) :
    Calls Tryd.prog 137 #[.string whs, .int .u8 (c.toNat : Int)] w fun e w' => e = .returned (.bool (wht c)) ∧ w = w' :=
  has_g whs c (wht c) w (by rw [whs_size]; omega) (whs_get c)

set_option maxHeartbeats 4000000 in
set_option maxRecDepth 100000 in
theorem trim_white (s : ByteArray) (w : World) (hs : s.size ≤ 1000000000000000000) :
    Calls Tryd.prog 127 #[.string s, .string whs, .bool true, .bool true] w fun e w' => (∃ T : ByteArray, e = .returned (.string T) ∧ T.size ≤ s.size ∧ T.data.toList = strip s.data.toList) ∧ w = w' := by
  have HW := Lib.hid has_white
  generalize whs = X at HW ⊢
  go_enter Tryd.func127, Tryd.ntmps127
  go_upto_block 0 with fail
  go_cut [0] from 9 to 21 (fun v0 wx => w = wx ∧ ∃ S : ByteArray, v0 = .string S ∧ S.size ≤ s.size ∧ S.data.toList = s.data.toList.dropWhile wht)
  case first =>
    go_wp2_with fail
    go_loopg [0] s.size (fun g v0 wx => w = wx ∧ ∃ S : ByteArray, v0 = .string S ∧ S.size = g ∧ g ≤ s.size ∧ S.data.toList.dropWhile wht = s.data.toList.dropWhile wht)
    case atStart => exact ⟨rfl, s, rfl, rfl, Nat.le_refl _, rfl⟩
    case round =>
      obtain ⟨rfl, S, rfl, hg, hg4, hT⟩ := hrel
      have HT := Lib.hid hT
      clear hT
      by_cases hE : S.toList.isEmpty = true
      · go_wp2
        go_meet
        refine ⟨rfl, S, rfl, by omega, ?_⟩
        rw [← HT.out, (empty_iff S).1 hE]
        rfl
      have hp := size_pos hE
      have hE' : S.toList.isEmpty = false := by simpa using hE
      clear hE
      have hp1 : (0 : Int) < (S.size : Int) := by omega
      have hp2 : (1 : Int) ≤ (S.size : Int) := by omega
      obtain ⟨c, hc0⟩ : ∃ c, S[0] = c := ⟨_, rfl⟩
      have HC0 := Lib.hid hc0
      have hc := fun W => HW.out c W
      cases hh : wht c with
      | true =>
        simp only [hh] at hc
        have HC := Lib.hid hc
        have HN := Lib.hid (show (S.extract 1 S.size).data.toList.dropWhile wht = s.data.toList.dropWhile wht by
          rw [← HT.out, Lib.extract_data, List.take_of_length_le (by rw [List.length_drop, ← Lib.size_eq]; exact Nat.le_refl _)]
          conv => rhs; rw [head_split S hp, List.dropWhile_cons_of_pos (by rw [hc0]; exact hh)])
        obtain ⟨g, rfl⟩ : ∃ g, gk = g + 1 := ⟨gk - 1, by omega⟩
        have HG := Lib.hid hg
        clear hc hh hc0 hg
        go_wp2_with (go_at_call 137; rw [HC0.out]; refine (HC.out _).mono ?_; rintro e w' ⟨rfl, rfl⟩)
        go_roundg g
        case measure => omega
        case rel => exact ⟨rfl, S.extract 1 S.size, rfl, by have := HG.out; simp; omega, by omega, HN.out⟩
      | false =>
        simp only [hh] at hc
        have HC := Lib.hid hc
        have HN := Lib.hid (show S.data.toList = s.data.toList.dropWhile wht by
          rw [← HT.out]
          conv => rhs; rw [head_split S hp, List.dropWhile_cons_of_neg (by rw [hc0, hh]; simp), ← head_split S hp])
        clear hc hh hc0
        go_wp2_with (go_at_call 137; rw [HC0.out]; refine (HC.out _).mono ?_; rintro e w' ⟨rfl, rfl⟩)
        go_meet
        exact ⟨rfl, S, rfl, by omega, HN.out⟩
  case rest =>
    obtain ⟨rfl, S1, rfl, hS1, hD⟩ := hcut
    have HD := Lib.hid hD
    clear hD
    go_wp2_with fail
    go_loopg [0] S1.size (fun g v0 wx => w = wx ∧ ∃ T : ByteArray, v0 = .string T ∧ T.size = g ∧ g ≤ s.size ∧ stripR T.data.toList = strip s.data.toList)
    case atStart => exact ⟨rfl, S1, rfl, rfl, hS1, by rw [strip_eq, HD.out]⟩
    case round =>
      obtain ⟨rfl, T, rfl, hg, hg4, hT⟩ := hrel
      have HT := Lib.hid hT
      clear hT
      by_cases hE : T.toList.isEmpty = true
      · go_wp2
        go_ret
        refine ⟨⟨T, rfl, by omega, ?_⟩, rfl⟩
        rw [← HT.out, (empty_iff T).1 hE]
        rfl
      have hp := size_pos hE
      have hE' : T.toList.isEmpty = false := by simpa using hE
      clear hE
      obtain ⟨j, hj⟩ : ∃ j, T.size = j + 1 := ⟨T.size - 1, by omega⟩
      have hjl : j < T.size := by omega
      have hp0 : (0 : Int) ≤ (j : Int) := by omega
      have hp1 : (j : Int) < (T.size : Int) := by omega
      have hp2 : (T.size : Int) - 1 = (j : Int) := by omega
      have hp3 : (j : Int) ≤ (T.size : Int) := by omega
      have hpw : wrap64 (j : Int) = (j : Int) := by unfold wrap64; omega
      obtain ⟨c, hc0⟩ : ∃ c, T[j] = c := ⟨_, rfl⟩
      have HC0 := Lib.hid hc0
      have hc := fun W => HW.out c W
      have HJ := Lib.hid hj
      have HG := Lib.hid hg
      cases hh : wht c with
      | true =>
        simp only [hh] at hc
        have HC := Lib.hid hc
        have HN := Lib.hid (show stripR (T.extract 0 j).data.toList = strip s.data.toList by
          rw [← HT.out, Lib.extract_data, List.drop_zero, Nat.sub_zero]
          unfold stripR
          conv => rhs; rw [last_split T j hjl hj, List.dropWhile_cons_of_pos (by rw [hc0]; exact hh)])
        obtain ⟨g, rfl⟩ : ∃ g, gk = g + 1 := ⟨gk - 1, by omega⟩
        clear hc hh hj hg hc0
        go_wp2_with (go_at_call 137; rw [HC0.out]; refine (HC.out _).mono ?_; rintro e w' ⟨rfl, rfl⟩)
        go_roundg g
        case measure => omega
        case rel => exact ⟨rfl, T.extract 0 j, rfl, by have := HG.out; have := HJ.out; simp; omega, by omega, HN.out⟩
      | false =>
        simp only [hh] at hc
        have HC := Lib.hid hc
        have HN := Lib.hid (show T.data.toList = strip s.data.toList by
          rw [← HT.out]
          unfold stripR
          rw [last_split T j hjl hj, List.dropWhile_cons_of_neg (by rw [hc0, hh]; simp), ← last_split T j hjl hj, List.reverse_reverse])
        clear hc hh hj hg hc0
        go_wp2_with (go_at_call 137; rw [HC0.out]; refine (HC.out _).mono ?_; rintro e w' ⟨rfl, rfl⟩)
        go_ret
        exact ⟨⟨T, rfl, by have := HG.out; omega, HN.out⟩, rfl⟩
theorem Strip_any (s : ByteArray) (w : World) (hs : s.size ≤ 1000000000000000000) :
    Calls Tryd.prog 104 #[.string s] w fun e w' => (∃ T : ByteArray, e = .returned (.string T) ∧ T.size ≤ s.size ∧ T.data.toList = strip s.data.toList) ∧ w = w' := by
  have h := Lib.hid (trim_white s w hs)
  go_enter Tryd.func104, Tryd.ntmps104
  go_wp2_with (go_at_call 127; refine h.out.mono ?_; rintro e w' ⟨⟨T, rfl, hT1, hT2⟩, rfl⟩)
  go_ret
  exact ⟨⟨T, rfl, hT1, hT2⟩, rfl⟩
end Go.Proofs.YtmnibfdenmeepaaDoor
