/- Unescape of the program: the numbers. -/
import Derived.Test.YtneklmalkmeohaaUnesc1
namespace Go.Proofs.Ytneklmalkmeohaa
open Go.RowKit Go.Lib

theorem one_byte (w : World) (v : Nat) :
    (convert 56 9 (.slice (some ⟨w.heap.size, 0, none⟩) 1 1)).run Try.prog (w.alloc (.cells #[.int .u8 ((v : Int) % 256)] 5)) = .ok (.string ⟨#[v.toUInt8]⟩) (w.alloc (.cells #[.int .u8 ((v : Int) % 256)] 5)) := by
  have e : (v : Int) % 256 = (v.toUInt8.toNat : Int) := by simp
  have hr : BRow (w.alloc (.cells #[.int .u8 (v.toUInt8.toNat : Int)] 5)) w.heap.size [v.toUInt8] := ⟨[], (0, 0), heap_alloc_new w _, .inl rfl⟩
  rw [e]
  exact hr.conv 1

set_option maxHeartbeats 400000 in
set_option maxRecDepth 100000 in
theorem unesc_hex (s R R2 D : ByteArray) (c0 c1 : UInt8) (k v : Nat) (w : World) (hs4 : s.size ≤ 400) (hE : s.toList.isEmpty = false) (hp : (0 : Int) < (s.size : Int)) (hp1 : (1 : Int) < (s.size : Int)) (h0 : s[0]'(by omega) = c0) (h1 : s[1]'(by omega) = c1) (hc : (c0.toNat : Int) = 92) (hs : (s.toList == [92]) = false) (hl : letterOf c1 = -1)
    (hR : s.extract 1 s.size = R) (hRp : (0 : Int) < (R.size : Int)) (hR0 : R[0]'(by omega) = c1) (hx : (c1.toNat : Int) = 120) (hR2 : R.extract 1 R.size = R2) (h24 : R2.size ≤ 400) (hk : digsOf 16 (R2.data.toList.take 2) = k) (hk2 : k ≤ 3) (hk0 : (k : Int) > 0) (hkR : 1 + (k : Int) ≤ (R.size : Int))
    (hR3 : R.extract 1 (1 + k) = D) (hD3 : D.size ≤ 3) (hv : natOf 16 D.data.toList = v) (H : Hid (unescVal s = .tuple #[.string ⟨#[v.toUInt8]⟩, .int .i64 ((k : Int) + 2)])) :
    Calls Try.prog 21 #[.string s] w fun e w' => e = .returned (unescVal s) ∧ Below w.heap.size w w' := by
  have hL := letter_any c1
  rw [hl, hx] at hL
  have hD : ∀ W, Calls Try.prog 56 #[.string R2, .int .i64 16, .int .i64 2] W fun e w' => e = .returned (.int .i64 (k : Int)) ∧ W = w' := fun W => by
    rw [← hk]
    exact digits_any R2 16 2 W h24 (by omega) (by omega)
  have hN : ∀ W, Calls Try.prog 57 #[.string D, .int .i64 16] W fun e w' => e = .returned (.int .i64 (v : Int)) ∧ W = w' := fun W => by
    rw [← hv]
    exact natural_any D 16 W hD3 (by omega)
  have hc256 := c1.toNat_lt
  have hp2 : (2 : Int) ≤ (s.size : Int) := by omega
  have hRp1 : (1 : Int) ≤ (R.size : Int) := by omega
  have hk1 : (1 : Int) ≤ 1 + (k : Int) := by omega
  have hcv := one_byte w v
  go_enter Try.func21, Try.ntmps21
  go_wp2_with (first | (go_at_call 55; refine (hL _).mono ?_; rintro e w' ⟨rfl, rfl⟩) | (go_at_call 56; refine (hD _).mono ?_; rintro e w' ⟨rfl, rfl⟩) | (go_at_call 57; refine (hN _).mono ?_; rintro e w' ⟨rfl, rfl⟩))
  go_ret2
  exact ⟨by rw [H.out]; rfl, (Below.refl _ w).alloc (Nat.le_refl _) _⟩

set_option maxHeartbeats 400000 in
set_option maxRecDepth 100000 in
theorem unesc_oct (s R D : ByteArray) (c0 c1 : UInt8) (k v : Nat) (w : World) (hs4 : s.size ≤ 400) (hE : s.toList.isEmpty = false) (hp : (0 : Int) < (s.size : Int)) (hp1 : (1 : Int) < (s.size : Int)) (h0 : s[0]'(by omega) = c0) (h1 : s[1]'(by omega) = c1) (hc : (c0.toNat : Int) = 92) (hs : (s.toList == [92]) = false) (hl : letterOf c1 = -1)
    (hR : s.extract 1 s.size = R) (hR4 : R.size ≤ 400) (hRp : (0 : Int) < (R.size : Int)) (hR0 : R[0]'(by omega) = c1) (_hx : ¬ (c1.toNat : Int) = 120) (g1 : (48 : Int) ≤ (c1.toNat : Int)) (g2 : (c1.toNat : Int) ≤ 55) (hk : digsOf 8 (R.data.toList.take 3) = k) (hk2 : k ≤ 3) (hkR : (k : Int) ≤ (R.size : Int))
    (hR3 : R.extract 0 k = D) (hD3 : D.size ≤ 3) (hv : natOf 8 D.data.toList = v) (H : Hid (unescVal s = .tuple #[.string ⟨#[v.toUInt8]⟩, .int .i64 ((k : Int) + 1)])) :
    Calls Try.prog 21 #[.string s] w fun e w' => e = .returned (unescVal s) ∧ Below w.heap.size w w' := by
  have hL := letter_any c1
  rw [hl] at hL
  have hD : ∀ W, Calls Try.prog 56 #[.string R, .int .i64 8, .int .i64 3] W fun e w' => e = .returned (.int .i64 (k : Int)) ∧ W = w' := fun W => by
    rw [← hk]
    exact digits_any R 8 3 W hR4 (by omega) (by omega)
  have hN : ∀ W, Calls Try.prog 57 #[.string D, .int .i64 8] W fun e w' => e = .returned (.int .i64 (v : Int)) ∧ W = w' := fun W => by
    rw [← hv]
    exact natural_any D 8 W hD3 (by omega)
  have hc256 := c1.toNat_lt
  have hp2 : (2 : Int) ≤ (s.size : Int) := by omega
  have hk0 : (0 : Int) ≤ (k : Int) := by omega
  have hcv := one_byte w v
  go_enter Try.func21, Try.ntmps21
  go_wp2_with (first | (go_at_call 55; refine (hL _).mono ?_; rintro e w' ⟨rfl, rfl⟩) | (go_at_call 56; refine (hD _).mono ?_; rintro e w' ⟨rfl, rfl⟩) | (go_at_call 57; refine (hN _).mono ?_; rintro e w' ⟨rfl, rfl⟩))
  go_ret2
  exact ⟨by rw [H.out]; rfl, (Below.refl _ w).alloc (Nat.le_refl _) _⟩

set_option maxHeartbeats 800000 in
set_option maxRecDepth 100000 in
theorem unesc_line (s R : ByteArray) (c0 c1 : UInt8) (m : Nat) (w : World) (hs4 : s.size ≤ 400) (hE : s.toList.isEmpty = false) (hp : (0 : Int) < (s.size : Int)) (hp1 : (1 : Int) < (s.size : Int)) (h0 : s[0]'(by omega) = c0) (h1 : s[1]'(by omega) = c1) (hc : (c0.toNat : Int) = 92) (hs : (s.toList == [92]) = false) (hl : letterOf c1 = -1)
    (hR : s.extract 1 s.size = R) (hR4 : R.size ≤ 400) (hRp : (0 : Int) < (R.size : Int)) (hR0 : R[0]'(by omega) = c1) (hx : (c1.toNat : Int) = 10) (hm : 1 ≤ m) (hn : m ≤ R.size) (hall : ∀ j (h : j < R.size), 1 ≤ j → j < m → blank R[j] = true) (hend : ∀ h : m < R.size, blank R[m] = false) (H : Hid (unescVal s = .tuple #[.string ⟨#[32]⟩, .int .i64 ((m : Int) + 1)])) :
    Calls Try.prog 21 #[.string s] w fun e w' => e = .returned (unescVal s) ∧ w = w' := by
  have hL := letter_any c1
  rw [hl, hx] at hL
  have hc256 := c1.toNat_lt
  have hp2 : (2 : Int) ≤ (s.size : Int) := by omega
  go_enter Try.func21, Try.ntmps21
  go_wp2_with (go_at_call 55; refine (hL _).mono ?_; rintro e w' ⟨rfl, rfl⟩)
  go_loopg [8] (m - 1) (fun g v wx => ∃ k : Nat, v = .int .i64 k ∧ k + g = m ∧ 1 ≤ k ∧ w = wx)
  case atStart => exact ⟨1, rfl, by omega, by omega, rfl⟩
  case round =>
    obtain ⟨k, rfl, hkg, hk1, rfl⟩ := hrel
    by_cases hk : k < R.size
    · have hk2 : (k : Int) < (R.size : Int) := by omega
      have hk0 : (0 : Int) ≤ (k : Int) := by omega
      obtain ⟨c, hc2⟩ : ∃ c, R[k] = c := ⟨_, rfl⟩
      by_cases hkn : k < m
      · have hb := hall k hk hk1 hkn
        rw [hc2] at hb
        clear hall hend
        obtain ⟨g, rfl⟩ : ∃ g, gk = g + 1 := ⟨gk - 1, by omega⟩
        by_cases hb1 : c.toNat = 32
        · have hb2 : (c.toNat : Int) = 32 := by omega
          clear hb1 hb
          go_wp2
          go_roundg g
          case measure => omega
          case rel => exact ⟨k + 1, rfl, by omega, by omega, rfl⟩
        · have hb3 : (c.toNat : Int) = 9 := by
            simp [blank, hb1] at hb
            omega
          clear hb1 hb
          go_wp2
          go_roundg g
          case measure => omega
          case rel => exact ⟨k + 1, rfl, by omega, by omega, rfl⟩
      · obtain rfl : m = k := by omega
        have hb := hend hk
        rw [hc2] at hb
        clear hall hend
        have hb2 : ¬ (c.toNat : Int) = 32 := fun h => by
          have : c.toNat = 32 := by omega
          simp [blank, this] at hb
        have hb3 : ¬ (c.toNat : Int) = 9 := fun h => by
          have : c.toNat = 9 := by omega
          simp [blank, this] at hb
        clear hb
        have hq1 : ((c.toNat : Int) == 32) = false := by simpa using hb2
        have hq2 : ((c.toNat : Int) == 9) = false := by simpa using hb3
        have HQ := Lib.hid (And.intro hq1 hq2)
        clear hb2 hb3
        go_wp2
        all_goals first | (go_ret2; exact ⟨by rw [H.out]; rfl, rfl⟩) | (rename_i h; simp [HQ.out.1, HQ.out.2] at h)
    · obtain rfl : m = k := by omega
      have hk2 : ¬ (m : Int) < (R.size : Int) := by omega
      clear hall hend
      go_wp2
      go_ret2
      exact ⟨by rw [H.out]; rfl, rfl⟩
end Go.Proofs.Ytneklmalkmeohaa
