/- Unescape of the reference. -/
import Derived.Test.YtneklmalkmeohaaUnesc2
import Derived.Test.YtneklmalkmeohaaFinds3
import Derived.Deep.DeepCutAuto
import Derived.Deep.CutBlock
namespace Go.Proofs.Ytneklmalkmeohaa
open Go.RowKit Go.Lib

theorem first_letter (c : UInt8) : firstOf letters.data.toList [c] 0 = letterOf c := by
  unfold firstOf letterOf
  rw [if_neg (by simp)]
  have hi := indexByte_ge letters.data.toList c
  simp only [Int.toNat_zero, List.drop_zero, index_one]
  split <;> omega

theorem refLetter_any (N : ByteArray) (c : UInt8) (w : World) (hN : N.data.toList = [c]) (h4 : N.size ≤ 400) : Calls Try.prog 16 #[.string N, .string ⟨#[97, 98, 102, 110, 114, 116, 118]⟩, .int .i64 0] w fun e w' => e = .returned (.int .i64 (letterOf c)) ∧ w = w' :=
  (refFirst_any N letters 0 w h4 (by decide)).mono fun e w' ⟨he, hw⟩ => ⟨by rw [he, hN, first_letter], hw⟩

set_option maxHeartbeats 800000 in
set_option maxRecDepth 100000 in
theorem refUnesc_none (s : ByteArray) (w : World) (hE : s.toList.isEmpty = true) :
    Calls Try.prog 22 #[.string s] w fun e w' => e = .returned (unescVal s) ∧ w = w' := by
  have H := Lib.hid (show unescVal s = .tuple #[.string ⟨#[]⟩, .int .i64 0] by unfold unescVal; rw [(empty_iff s).1 hE]; rfl)
  go_enter Try.func22, Try.ntmps22
  go_wp2
  go_ret2
  exact ⟨by rw [H.out]; rfl, rfl⟩

set_option maxHeartbeats 800000 in
set_option maxRecDepth 100000 in
theorem refUnesc_plain (s : ByteArray) (c0 : UInt8) (w : World) (hE : s.toList.isEmpty = false) (hp : (0 : Int) < (s.size : Int)) (h0 : s[0]'(by omega) = c0) (hc : ¬ (c0.toNat : Int) = 92) (H : Hid (unescVal s = .tuple #[.string ⟨#[]⟩, .int .i64 0])) :
    Calls Try.prog 22 #[.string s] w fun e w' => e = .returned (unescVal s) ∧ w = w' := by
  go_enter Try.func22, Try.ntmps22
  go_wp2
  go_ret2
  exact ⟨by rw [H.out]; rfl, rfl⟩

set_option maxHeartbeats 800000 in
set_option maxRecDepth 100000 in
theorem refUnesc_one (s : ByteArray) (c0 : UInt8) (w : World) (hE : s.toList.isEmpty = false) (hp : (0 : Int) < (s.size : Int)) (h0 : s[0]'(by omega) = c0) (hc : (c0.toNat : Int) = 92) (hs : (s.size : Int) = 1) (H : Hid (unescVal s = .tuple #[.string s, .int .i64 1])) :
    Calls Try.prog 22 #[.string s] w fun e w' => e = .returned (unescVal s) ∧ w = w' := by
  go_enter Try.func22, Try.ntmps22
  go_wp2
  go_ret2
  exact ⟨by rw [H.out]; rfl, rfl⟩

set_option maxHeartbeats 800000 in
set_option maxRecDepth 100000 in
theorem refUnesc_letter (s N : ByteArray) (c0 c1 : UInt8) (k : Nat) (w : World) (hs4 : s.size ≤ 400) (hE : s.toList.isEmpty = false) (hp : (0 : Int) < (s.size : Int)) (hp1 : (1 : Int) < (s.size : Int)) (h0 : s[0]'(by omega) = c0) (hc : (c0.toNat : Int) = 92) (hN : s.extract 1 2 = N) (hNl : N.data.toList = [c1]) (hN4 : N.size ≤ 400) (hk : k < 7) (hl : letterOf c1 = k) (H : Hid (unescVal s = .tuple #[.string (meant.extract k (k + 1)), .int .i64 2])) :
    Calls Try.prog 22 #[.string s] w fun e w' => e = .returned (unescVal s) ∧ w = w' := by
  have hL := fun W => refLetter_any N c1 W hNl hN4
  rw [hl] at hL
  have hne : ¬ (s.size : Int) = 1 := by omega
  have hp2 : (2 : Int) ≤ (s.size : Int) := by omega
  have hw : wrap64 ((k : Int) + 1) = (k : Int) + 1 := wrap64_add1 (by omega)
  have hk0 : (0 : Int) ≤ (k : Int) := by omega
  have hk7 : (k : Int) + 1 ≤ 7 := by omega
  go_enter Try.func22, Try.ntmps22
  go_wp2_with (go_at_call 16; refine (hL _).mono ?_; rintro e w' ⟨rfl, rfl⟩)
  go_ret2
  exact ⟨by rw [H.out]; rfl, rfl⟩

set_option maxHeartbeats 800000 in
set_option maxRecDepth 100000 in
theorem refUnesc_line (s N : ByteArray) (c0 c1 : UInt8) (m : Nat) (w : World) (hs4 : s.size ≤ 400) (hE : s.toList.isEmpty = false) (hp : (0 : Int) < (s.size : Int)) (hp1 : (1 : Int) < (s.size : Int)) (h0 : s[0]'(by omega) = c0) (h1 : s[1]'(by omega) = c1) (hc : (c0.toNat : Int) = 92) (hN : s.extract 1 2 = N) (hNl : N.data.toList = [c1]) (hN4 : N.size ≤ 400) (hl : letterOf c1 = -1)
    (hx : (c1.toNat : Int) = 10) (hm : 2 ≤ m) (hn : m ≤ s.size) (hall : ∀ j (h : j < s.size), 2 ≤ j → j < m → blank s[j] = true) (hend : ∀ h : m < s.size, blank s[m] = false) (H : Hid (unescVal s = .tuple #[.string ⟨#[32]⟩, .int .i64 (m : Int)])) :
    Calls Try.prog 22 #[.string s] w fun e w' => e = .returned (unescVal s) ∧ w = w' := by
  have hL := fun W => refLetter_any N c1 W hNl hN4
  rw [hl] at hL
  have hne : ¬ (s.size : Int) = 1 := by omega
  have hp2 : (2 : Int) ≤ (s.size : Int) := by omega
  go_enter Try.func22, Try.ntmps22
  go_wp2_with (go_at_call 16; refine (hL _).mono ?_; rintro e w' ⟨rfl, rfl⟩)
  go_loopg [3] (m - 2) (fun g v wx => ∃ k : Nat, v = .int .i64 k ∧ k + g = m ∧ 2 ≤ k ∧ w = wx)
  case atStart => exact ⟨2, rfl, by omega, by omega, rfl⟩
  case round =>
    obtain ⟨k, rfl, hkg, hk1, rfl⟩ := hrel
    by_cases hk : k < s.size
    · have hk2 : (k : Int) < (s.size : Int) := by omega
      have hk0 : (0 : Int) ≤ (k : Int) := by omega
      obtain ⟨c, hc2⟩ : ∃ c, s[k] = c := ⟨_, rfl⟩
      by_cases hkn : k < m
      · have hb := hall k hk hk1 hkn
        rw [hc2] at hb
        clear hall hend
        obtain ⟨g, rfl⟩ : ∃ g, gk = g + 1 := ⟨gk - 1, by omega⟩
        by_cases hb1 : c.toNat = 32
        · have hb2 : (c.toNat : Int) = 32 := by omega
          clear hb1 hb
          go_wp2
          go_roundg g
          case measure => omega
          case rel => exact ⟨k + 1, rfl, by omega, by omega, rfl⟩
        · have hb3 : (c.toNat : Int) = 9 := by
            simp [blank, hb1] at hb
            omega
          clear hb1 hb
          go_wp2
          go_roundg g
          case measure => omega
          case rel => exact ⟨k + 1, rfl, by omega, by omega, rfl⟩
      · obtain rfl : m = k := by omega
        have hb := hend hk
        rw [hc2] at hb
        clear hall hend
        have hb2 : ¬ (c.toNat : Int) = 32 := fun h => by
          have : c.toNat = 32 := by omega
          simp [blank, this] at hb
        have hb3 : ¬ (c.toNat : Int) = 9 := fun h => by
          have : c.toNat = 9 := by omega
          simp [blank, this] at hb
        clear hb
        have hq1 : ((c.toNat : Int) == 32) = false := by simpa using hb2
        have hq2 : ((c.toNat : Int) == 9) = false := by simpa using hb3
        have HQ := Lib.hid (And.intro hq1 hq2)
        clear hb2 hb3
        go_wp2
        all_goals first | (go_ret2; exact ⟨by rw [H.out]; rfl, rfl⟩) | (rename_i h; simp [HQ.out.1, HQ.out.2] at h)
    · obtain rfl : m = k := by omega
      have hk2 : ¬ (m : Int) < (s.size : Int) := by omega
      clear hall hend
      go_wp2
      go_ret2
      exact ⟨by rw [H.out]; rfl, rfl⟩

theorem refDig_yes (c : UInt8) (b : Nat) (w : World) (hb0 : 0 < b) (hb : b ≤ 36) (h : digOf c < b) : Calls Try.prog 58 #[.int .u8 (c.toNat : Int), .int .i64 (b : Int)] w fun e w' => e = .returned (.int .i64 (digOf c : Int)) ∧ w = w' := by
  have := refDigit_any c b w hb0 hb
  rwa [show digBase c b = (digOf c : Int) by unfold digBase; rw [if_pos h]] at this
theorem refDig_no (c : UInt8) (b : Nat) (w : World) (hb0 : 0 < b) (hb : b ≤ 36) (h : ¬ digOf c < b) : Calls Try.prog 58 #[.int .u8 (c.toNat : Int), .int .i64 (b : Int)] w fun e w' => e = .returned (.int .i64 (-1)) ∧ w = w' := by
  have := refDigit_any c b w hb0 hb
  rwa [show digBase c b = -1 by unfold digBase; rw [if_neg h]] at this

set_option maxHeartbeats 1600000 in
set_option maxRecDepth 100000 in
theorem refUnesc_hex (s N : ByteArray) (c0 c1 : UInt8) (k : Nat) (w : World) (hs4 : s.size ≤ 400) (hE : s.toList.isEmpty = false) (hp : (0 : Int) < (s.size : Int)) (hp1 : (1 : Int) < (s.size : Int)) (h0 : s[0]'(by omega) = c0) (h1 : s[1]'(by omega) = c1) (hc : (c0.toNat : Int) = 92) (hN : s.extract 1 2 = N) (hNl : N.data.toList = [c1]) (hN4 : N.size ≤ 400) (hl : letterOf c1 = -1)
    (hx : (c1.toNat : Int) = 120) (hkm : k ≤ 2) (hks : 2 + k ≤ s.size) (hall : ∀ j (h : j < s.size), 2 ≤ j → j < 2 + k → digOf s[j] < 16) (hend : ∀ h : 2 + k < s.size, k < 2 → ¬ digOf s[2 + k] < 16) (H0 : Hid (k = 0 → unescVal s = .tuple #[.string N, .int .i64 2])) (H1 : Hid (0 < k → unescVal s = .tuple #[.string ⟨#[(natOf 16 ((s.data.toList.drop 2).take k)).toUInt8]⟩, .int .i64 (k + 2 : Nat)])) :
    Calls Try.prog 22 #[.string s] w fun e w' => e = .returned (unescVal s) ∧ Below w.heap.size w w' := by
  have hL := fun W => refLetter_any N c1 W hNl hN4
  rw [hl] at hL
  have hne : ¬ (s.size : Int) = 1 := by omega
  have hp2 : (2 : Int) ≤ (s.size : Int) := by omega
  have hlen : s.data.toList.length = s.size := (Lib.size_eq s).symm
  have hc256 := c1.toNat_lt
  go_enter Try.func22, Try.ntmps22
  go_upto_block 2 with (go_at_call 16; refine (hL _).mono ?_; rintro e w' ⟨rfl, rfl⟩)
  go_cut [3, 8] from 55 to 84 (fun n v wx => w = wx ∧ n = .int .i64 (k + 2 : Nat) ∧ v = .int .i64 (natOf 16 ((s.data.toList.drop 2).take k) : Int))
  case first =>
    go_wp2_with fail
    go_loopg [3, 8] k (fun g n v wx => ∃ j : Nat, n = .int .i64 (j + 2 : Nat) ∧ j + g = k ∧ v = .int .i64 (natOf 16 ((s.data.toList.drop 2).take j) : Int) ∧ w = wx)
    case atStart => exact ⟨0, rfl, by omega, by simp [natOf], rfl⟩
    case round =>
      obtain ⟨j, rfl, hkg, rfl, rfl⟩ := hrel
      obtain ⟨i, hi⟩ : ∃ i, j + 2 = i := ⟨_, rfl⟩
      rw [hi]
      by_cases hk : i < s.size
      · have hk2 : (i : Int) < (s.size : Int) := by omega
        have hk0 : (0 : Int) ≤ (i : Int) := by omega
        obtain ⟨c, hc2⟩ : ∃ c, s[i] = c := ⟨_, rfl⟩
        by_cases hkn : j < k
        · have hd := hall i hk (by omega) (by omega)
          rw [hc2] at hd
          have hd9 := digOf_le c
          have hd0 : (0 : Int) ≤ (digOf c : Int) := by omega
          have hi4 : (i : Int) < 4 := by omega
          have hD : ∀ W, Calls Try.prog 58 #[.int .u8 (c.toNat : Int), .int .i64 16] W fun e w' => e = .returned (.int .i64 (digOf c : Int)) ∧ W = w' := fun W => refDig_yes c 16 W (by omega) (by omega) hd
          have hn : natOf 16 ((s.data.toList.drop 2).take (j + 1)) = natOf 16 ((s.data.toList.drop 2).take j) * 16 + digOf c := by
            rw [List.take_succ_eq_append_getElem (by rw [List.length_drop]; omega), natOf_snoc, List.getElem_drop]
            congr 2
            rw [← hc2]
            exact getElem_congr rfl (by omega) _
          have hn9 := natOf_le 16 (by omega) ((s.data.toList.drop 2).take j) (by rw [List.length_take]; omega)
          have HN := Lib.hid hn
          revert hn9 HN hn
          generalize natOf 16 ((s.data.toList.drop 2).take j) = n
          intro hn hn9 HN
          clear hall hend hn hd
          obtain ⟨g, rfl⟩ : ∃ g, gk = g + 1 := ⟨gk - 1, by omega⟩
          go_wp2_with (go_at_call 58; refine (hD _).mono ?_; rintro e w' ⟨rfl, rfl⟩)
          go_roundg g
          case measure => omega
          case rel => exact ⟨j + 1, by rw [← hi]; push_cast; congr 1, by omega, by rw [HN.out]; push_cast; rfl, rfl⟩
        · obtain rfl : k = j := by omega
          by_cases hj : k < 2
          · have hd := hend (by omega) hj
            have hd' : ¬ digOf c < 16 := by
              rw [← hc2]
              intro h
              exact hd (by rw [show s[2 + k]'(by omega) = s[i] from getElem_congr rfl (by omega) _]; exact h)
            have hi4 : (i : Int) < 4 := by omega
            have hD : ∀ W, Calls Try.prog 58 #[.int .u8 (c.toNat : Int), .int .i64 16] W fun e w' => e = .returned (.int .i64 (-1)) ∧ W = w' := fun W => refDig_no c 16 W (by omega) (by omega) hd'
            clear hall hend hd hd'
            go_wp2_with (go_at_call 58; refine (hD _).mono ?_; rintro e w' ⟨rfl, rfl⟩)
            go_meet
            exact ⟨rfl, by rw [← hi], rfl⟩
          · have hi4 : ¬ (i : Int) < 4 := by omega
            clear hall hend
            go_wp2
            go_meet
            exact ⟨rfl, by rw [← hi], rfl⟩
      · obtain rfl : k = j := by omega
        have hk2 : ¬ (i : Int) < (s.size : Int) := by omega
        clear hall hend
        go_wp2
        go_meet
        exact ⟨rfl, by rw [← hi], rfl⟩
  case rest =>
    obtain ⟨rfl, rfl, rfl⟩ := hcut
    clear hall hend
    obtain ⟨v, hv⟩ : ∃ v, natOf 16 ((s.data.toList.drop 2).take k) = v := ⟨_, rfl⟩
    rw [hv]
    obtain ⟨i, hi⟩ : ∃ i, k + 2 = i := ⟨_, rfl⟩
    rw [hi]
    have HV := Lib.hid hv
    have HI := Lib.hid hi
    clear hv
    by_cases hk : k = 0
    · have hi1 : (i : Int) = 2 := by omega
      clear hi
      go_wp2
      go_ret2
      exact ⟨by rw [H0.out hk]; rfl, Below.refl _ _⟩
    · have hi1 : ¬ (i : Int) = 2 := by omega
      clear hi
      have hv0 : (0 : Int) ≤ (v : Int) := by omega
      have hcv := one_byte w v
      go_wp2
      go_ret2
      exact ⟨by rw [H1.out (by omega), HV.out, HI.out]; rfl, (Below.refl _ w).alloc (Nat.le_refl _) _⟩

set_option maxHeartbeats 1600000 in
set_option maxRecDepth 100000 in
theorem refUnesc_oct (s N : ByteArray) (T : List UInt8) (hT : Hid (s.data.toList.drop 1 = T)) (c0 c1 : UInt8) (k : Nat) (w : World) (hs4 : s.size ≤ 400) (hE : s.toList.isEmpty = false) (hp : (0 : Int) < (s.size : Int)) (hp1 : (1 : Int) < (s.size : Int)) (h0 : s[0]'(by omega) = c0) (h1 : s[1]'(by omega) = c1) (hc : (c0.toNat : Int) = 92) (hN : s.extract 1 2 = N) (hNl : N.data.toList = [c1]) (hN4 : N.size ≤ 400) (hl : letterOf c1 = -1)
    (hx : ¬ (c1.toNat : Int) = 120) (hx2 : ¬ (c1.toNat : Int) = 10) (hkm : k ≤ 3) (hks : 1 + k ≤ s.size) (hall : ∀ j (h : j < s.size), 1 ≤ j → j < 1 + k → digOf s[j] < 8) (hend : ∀ h : 1 + k < s.size, k < 3 → ¬ digOf s[1 + k] < 8) (H0 : Hid (k = 0 → unescVal s = .tuple #[.string N, .int .i64 2])) (H1 : Hid (0 < k → unescVal s = .tuple #[.string ⟨#[(natOf 8 (T.take k)).toUInt8]⟩, .int .i64 (k + 1 : Nat)])) :
    Calls Try.prog 22 #[.string s] w fun e w' => e = .returned (unescVal s) ∧ Below w.heap.size w w' := by
  have hL := fun W => refLetter_any N c1 W hNl hN4
  rw [hl] at hL
  have hne : ¬ (s.size : Int) = 1 := by omega
  have hp2 : (2 : Int) ≤ (s.size : Int) := by omega
  have hlen : s.data.toList.length = s.size := (Lib.size_eq s).symm
  have hc256 := c1.toNat_lt
  have hq1 : ((c1.toNat : Int) == 120) = false := by simpa using hx
  have hq2 : ((c1.toNat : Int) == 10) = false := by simpa using hx2
  clear hx hx2
  go_enter Try.func22, Try.ntmps22
  go_upto_block 2 with (go_at_call 16; refine (hL _).mono ?_; rintro e w' ⟨rfl, rfl⟩)
  go_cut [3, 8] from 55 to 84 (fun n v wx => w = wx ∧ n = .int .i64 (k + 1 : Nat) ∧ v = .int .i64 (natOf 8 (T.take k) : Int))
  case first =>
    go_wp2_with fail
    go_loopg [3, 8] k (fun g n v wx => ∃ j : Nat, n = .int .i64 (j + 1 : Nat) ∧ j + g = k ∧ v = .int .i64 (natOf 8 (T.take j) : Int) ∧ w = wx)
    case atStart => exact ⟨0, rfl, by omega, by simp [natOf], rfl⟩
    case round =>
      obtain ⟨j, rfl, hkg, rfl, rfl⟩ := hrel
      obtain ⟨i, hi⟩ : ∃ i, j + 1 = i := ⟨_, rfl⟩
      rw [hi]
      by_cases hk : i < s.size
      · have hk2 : (i : Int) < (s.size : Int) := by omega
        have hk0 : (0 : Int) ≤ (i : Int) := by omega
        obtain ⟨c, hc2⟩ : ∃ c, s[i] = c := ⟨_, rfl⟩
        by_cases hkn : j < k
        · have hd := hall i hk (by omega) (by omega)
          rw [hc2] at hd
          have hd9 := digOf_le c
          have hd0 : (0 : Int) ≤ (digOf c : Int) := by omega
          have hi4 : (i : Int) < 4 := by omega
          have hD : ∀ W, Calls Try.prog 58 #[.int .u8 (c.toNat : Int), .int .i64 8] W fun e w' => e = .returned (.int .i64 (digOf c : Int)) ∧ W = w' := fun W => refDig_yes c 8 W (by omega) (by omega) hd
          have hn : natOf 8 (T.take (j + 1)) = natOf 8 (T.take j) * 8 + digOf c := by
            rw [← hT.out, List.take_succ_eq_append_getElem (by rw [List.length_drop]; omega), natOf_snoc, List.getElem_drop]
            congr 2
            rw [← hc2]
            exact getElem_congr rfl (by omega) _
          have hn9 := natOf_le 8 (by omega) (T.take j) (by rw [List.length_take]; omega)
          have HN := Lib.hid hn
          revert hn9 HN hn
          generalize natOf 8 (T.take j) = n
          intro hn hn9 HN
          clear hall hend hn hd
          obtain ⟨g, rfl⟩ : ∃ g, gk = g + 1 := ⟨gk - 1, by omega⟩
          go_wp2_with (go_at_call 58; refine (hD _).mono ?_; rintro e w' ⟨rfl, rfl⟩)
          go_roundg g
          case measure => omega
          case rel => exact ⟨j + 1, by rw [← hi]; push_cast; congr 1, by omega, by rw [HN.out]; push_cast; rfl, rfl⟩
        · obtain rfl : k = j := by omega
          by_cases hj : k < 3
          · have hd := hend (by omega) hj
            have hd' : ¬ digOf c < 8 := by
              rw [← hc2]
              intro h
              exact hd (by rw [show s[1 + k]'(by omega) = s[i] from getElem_congr rfl (by omega) _]; exact h)
            have hi4 : (i : Int) < 4 := by omega
            have hD : ∀ W, Calls Try.prog 58 #[.int .u8 (c.toNat : Int), .int .i64 8] W fun e w' => e = .returned (.int .i64 (-1)) ∧ W = w' := fun W => refDig_no c 8 W (by omega) (by omega) hd'
            clear hall hend hd hd'
            go_wp2_with (go_at_call 58; refine (hD _).mono ?_; rintro e w' ⟨rfl, rfl⟩)
            go_meet
            exact ⟨rfl, by rw [← hi], rfl⟩
          · have hi4 : ¬ (i : Int) < 4 := by omega
            clear hall hend
            go_wp2
            go_meet
            exact ⟨rfl, by rw [← hi], rfl⟩
      · obtain rfl : k = j := by omega
        have hk2 : ¬ (i : Int) < (s.size : Int) := by omega
        clear hall hend
        go_wp2
        go_meet
        exact ⟨rfl, by rw [← hi], rfl⟩
  case rest =>
    obtain ⟨rfl, rfl, rfl⟩ := hcut
    clear hall hend
    obtain ⟨v, hv⟩ : ∃ v, natOf 8 (T.take k) = v := ⟨_, rfl⟩
    rw [hv]
    obtain ⟨i, hi⟩ : ∃ i, k + 1 = i := ⟨_, rfl⟩
    rw [hi]
    have HV := Lib.hid hv
    have HI := Lib.hid hi
    clear hv
    by_cases hk : k = 0
    · have hi1 : (i : Int) = 1 := by omega
      clear hi
      go_wp2
      go_ret2
      exact ⟨by rw [H0.out hk]; rfl, Below.refl _ _⟩
    · have hi1 : ¬ (i : Int) = 1 := by omega
      clear hi
      have hv0 : (0 : Int) ≤ (v : Int) := by omega
      have hcv := one_byte w v
      go_wp2
      go_ret2
      exact ⟨by rw [H1.out (by omega), HV.out, HI.out]; rfl, (Below.refl _ w).alloc (Nat.le_refl _) _⟩

end Go.Proofs.Ytneklmalkmeohaa
