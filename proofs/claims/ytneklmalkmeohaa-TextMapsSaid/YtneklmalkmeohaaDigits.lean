/- digit of both sides. -/
import Derived.Test.YtneklmalkmeohaaForms1
namespace Go.Proofs.Ytneklmalkmeohaa
open Go.RowKit Go.Lib

/-- What a digit is worth, with its small letter; 99 for another byte. -/
def digitOf (d : UInt8) : Nat := if 48 ≤ d.toNat ∧ d.toNat ≤ 57 then d.toNat - 48 else if 97 ≤ d.toNat ∧ d.toNat ≤ 122 then d.toNat - 87 else 99
def digOf (c : UInt8) : Nat := digitOf (smallOf c)

theorem digOf_le (c : UInt8) : digOf c ≤ 99 := by
  unfold digOf digitOf
  split
  · omega
  · split <;> omega

theorem digit_any (c : UInt8) (w : World) : Calls Try.prog 87 #[.int .u8 (c.toNat : Int)] w fun e w' => e = .returned (.int .i64 (digOf c : Int)) ∧ w = w' := by
  have hs := fun W => small_any c W
  have HD : digOf c = digitOf (smallOf c) := rfl
  revert hs HD
  generalize smallOf c = d
  generalize digOf c = n
  intro hs HD
  have hd := d.toNat_lt
  unfold digitOf at HD
  by_cases h1 : 48 ≤ d.toNat
  · have g1 : (d.toNat : Int) ≥ 48 := by omega
    by_cases h2 : d.toNat ≤ 57
    · rw [if_pos ⟨h1, h2⟩] at HD
      have H := Lib.hid (show (n : Int) = (d.toNat : Int) - 48 by omega)
      have g2 : (d.toNat : Int) ≤ 57 := by omega
      clear h1 h2 HD
      go_enter Try.func87, Try.ntmps87
      go_wp2_with (go_at_call 60; refine (hs _).mono ?_; rintro e w' ⟨rfl, rfl⟩)
      go_ret
      exact ⟨by rw [H.out]; rfl, rfl⟩
    · have g2 : ¬ (d.toNat : Int) ≤ 57 := by omega
      rw [if_neg (fun h => h2 h.2)] at HD
      by_cases h3 : 97 ≤ d.toNat
      · have g3 : (d.toNat : Int) ≥ 97 := by omega
        by_cases h4 : d.toNat ≤ 122
        · have g4 : (d.toNat : Int) ≤ 122 := by omega
          rw [if_pos ⟨h3, h4⟩] at HD
          have H := Lib.hid (show (n : Int) = (d.toNat : Int) - 97 + 10 by omega)
          clear h1 h2 h3 h4 HD
          go_enter Try.func87, Try.ntmps87
          go_wp2_with (go_at_call 60; refine (hs _).mono ?_; rintro e w' ⟨rfl, rfl⟩)
          go_ret
          exact ⟨by rw [H.out]; rfl, rfl⟩
        · have g4 : ¬ (d.toNat : Int) ≤ 122 := by omega
          rw [if_neg (fun h => h4 h.2)] at HD
          have H := Lib.hid HD
          clear h1 h2 h3 h4 HD
          go_enter Try.func87, Try.ntmps87
          go_wp2_with (go_at_call 60; refine (hs _).mono ?_; rintro e w' ⟨rfl, rfl⟩)
          go_ret
          exact ⟨by rw [H.out]; rfl, rfl⟩
      · have g3 : ¬ (d.toNat : Int) ≥ 97 := by omega
        rw [if_neg (fun h => h3 h.1)] at HD
        have H := Lib.hid HD
        clear h1 h2 h3 HD
        go_enter Try.func87, Try.ntmps87
        go_wp2_with (go_at_call 60; refine (hs _).mono ?_; rintro e w' ⟨rfl, rfl⟩)
        go_ret
        exact ⟨by rw [H.out]; rfl, rfl⟩
  · have g1 : ¬ (d.toNat : Int) ≥ 48 := by omega
    have g3 : ¬ (d.toNat : Int) ≥ 97 := by omega
    rw [if_neg (fun h => h1 h.1), if_neg (fun h => h1 (by omega))] at HD
    have H := Lib.hid HD
    clear h1 HD
    go_enter Try.func87, Try.ntmps87
    go_wp2_with (go_at_call 60; refine (hs _).mono ?_; rintro e w' ⟨rfl, rfl⟩)
    go_ret
    exact ⟨by rw [H.out]; rfl, rfl⟩

/-- What a digit below a base is worth; -1 for another byte. -/
def digBase (c : UInt8) (b : Nat) : Int := if digOf c < b then (digOf c : Int) else -1

theorem within_lit (n lo hi : Int) (w : World) :
    Calls Try.prog 50 #[.int .i64 n, .int .i64 lo, .int .i64 hi] w fun e w' => e = .returned (.bool (decide (lo ≤ n) && decide (n ≤ hi))) ∧ w = w' := within_any n lo hi w _ rfl

set_option maxHeartbeats 800000 in
set_option maxRecDepth 100000 in
theorem refDigit_any (c : UInt8) (b : Nat) (w : World) (hb0 : 0 < b) (hb : b ≤ 36) : Calls Try.prog 58 #[.int .u8 (c.toNat : Int), .int .i64 (b : Int)] w fun e w' => e = .returned (.int .i64 (digBase c b)) ∧ w = w' := by
  have hs := fun W => refSmall_any c W
  have hc := c.toNat_lt
  have HB : digBase c b = if digOf c < b then (digOf c : Int) else -1 := rfl
  have HD : digOf c = digitOf (smallOf c) := rfl
  have hsm : (48 ≤ c.toNat ∧ c.toNat ≤ 57 → smallOf c = c) ∧ (¬ (48 ≤ c.toNat ∧ c.toNat ≤ 57) → ¬ (48 ≤ (smallOf c).toNat ∧ (smallOf c).toNat ≤ 57)) := by
    unfold smallOf
    constructor
    · intro h
      rw [if_neg (by omega)]
    · intro h
      split
      · rw [UInt8.toNat_add]
        simp
        omega
      · exact h
  obtain ⟨hsm1, hsm2⟩ := hsm
  by_cases h1 : 48 ≤ c.toNat ∧ c.toNat ≤ 57
  · have e1 := hsm1 h1
    rw [e1] at HD
    unfold digitOf at HD
    rw [if_pos h1] at HD
    have g1 : (48 : Int) ≤ (c.toNat : Int) := by omega
    have g2 : (c.toNat : Int) ≤ 57 := by omega
    have hb1 : (decide ((48 : Int) ≤ (c.toNat : Int)) && decide ((c.toNat : Int) ≤ 57)) = true := by simp [g1, g2]
    by_cases h5 : digOf c < b
    · rw [if_pos h5] at HB
      have H := Lib.hid (show digBase c b = (c.toNat : Int) - 48 by omega)
      have g5 : ¬ (c.toNat : Int) - 48 ≥ (b : Int) := by omega
      have HB1 := Lib.hid hb1
      clear h1 h5 HD HB hsm1 hsm2 e1 hs hb1
      go_enter Try.func58, Try.ntmps58
      go_wp2_with (go_at_call 50; refine (within_lit _ _ _ _).mono ?_; rintro e w' ⟨rfl, rfl⟩; rw [HB1.out])
      go_ret
      exact ⟨by rw [H.out]; rfl, rfl⟩
    · rw [if_neg h5] at HB
      have H := Lib.hid HB
      have g5 : (c.toNat : Int) - 48 ≥ (b : Int) := by omega
      have HB1 := Lib.hid hb1
      clear h1 h5 HD HB hsm1 hsm2 e1 hs hb1
      go_enter Try.func58, Try.ntmps58
      go_wp2_with (go_at_call 50; refine (within_lit _ _ _ _).mono ?_; rintro e w' ⟨rfl, rfl⟩; rw [HB1.out])
      go_ret
      exact ⟨by rw [H.out]; rfl, rfl⟩
  · have e1 := hsm2 h1
    unfold digitOf at HD
    rw [if_neg e1] at HD
    have hb1 : (decide ((48 : Int) ≤ (c.toNat : Int)) && decide ((c.toNat : Int) ≤ 57)) = false := by
      by_cases a : (48 : Int) ≤ (c.toNat : Int) <;> by_cases b : (c.toNat : Int) ≤ 57 <;> simp [a, b] <;> omega
    clear hsm1 hsm2 h1 e1
    have HB1 := Lib.hid hb1
    clear hb1
    revert hs HD
    generalize smallOf c = d
    intro hs HD
    have hd := d.toNat_lt
    by_cases h2 : 97 ≤ d.toNat ∧ d.toNat ≤ 122
    · rw [if_pos h2] at HD
      have g1 : (97 : Int) ≤ (d.toNat : Int) := by omega
      have g2 : (d.toNat : Int) ≤ 122 := by omega
      have HB2 := Lib.hid (show (decide ((97 : Int) ≤ (d.toNat : Int)) && decide ((d.toNat : Int) ≤ 122)) = true by simp [g1, g2])
      by_cases h5 : digOf c < b
      · rw [if_pos h5] at HB
        have H := Lib.hid (show digBase c b = (d.toNat : Int) - 97 + 10 by omega)
        have g5 : ¬ (d.toNat : Int) - 97 + 10 ≥ (b : Int) := by omega
        clear h2 h5 HD HB
        go_enter Try.func58, Try.ntmps58
        go_wp2_with (first | (go_at_call 50; refine (within_lit _ _ _ _).mono ?_; rintro e w' ⟨rfl, rfl⟩; first | rw [HB1.out] | rw [HB2.out]) | (go_at_call 61; refine (hs _).mono ?_; rintro e w' ⟨rfl, rfl⟩))
        go_ret
        exact ⟨by rw [H.out]; rfl, rfl⟩
      · rw [if_neg h5] at HB
        have H := Lib.hid HB
        have g5 : (d.toNat : Int) - 97 + 10 ≥ (b : Int) := by omega
        clear h2 h5 HD HB
        go_enter Try.func58, Try.ntmps58
        go_wp2_with (first | (go_at_call 50; refine (within_lit _ _ _ _).mono ?_; rintro e w' ⟨rfl, rfl⟩; first | rw [HB1.out] | rw [HB2.out]) | (go_at_call 61; refine (hs _).mono ?_; rintro e w' ⟨rfl, rfl⟩))
        go_ret
        exact ⟨by rw [H.out]; rfl, rfl⟩
    · rw [if_neg h2] at HD
      have HB2 := Lib.hid (show (decide ((97 : Int) ≤ (d.toNat : Int)) && decide ((d.toNat : Int) ≤ 122)) = false by
        by_cases a : (97 : Int) ≤ (d.toNat : Int) <;> by_cases b : (d.toNat : Int) ≤ 122 <;> simp [a, b] <;> omega)
      rw [if_neg (by omega)] at HB
      have H := Lib.hid HB
      have g5 : ¬ (-1 : Int) ≥ (b : Int) := by omega
      clear h2 HD HB
      go_enter Try.func58, Try.ntmps58
      go_wp2_with (first | (go_at_call 50; refine (within_lit _ _ _ _).mono ?_; rintro e w' ⟨rfl, rfl⟩; first | rw [HB1.out] | rw [HB2.out]) | (go_at_call 61; refine (hs _).mono ?_; rintro e w' ⟨rfl, rfl⟩))
      go_ret
      exact ⟨by rw [H.out]; rfl, rfl⟩
end Go.Proofs.Ytneklmalkmeohaa
