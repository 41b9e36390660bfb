/- digit, white: what they answer. -/
import Derived.Test.YtmnibfdenmeepaaDoorDigits2
namespace Go.Proofs.YtmnibfdenmeepaaDoor
open Go.RowKit Go.Shelf Big

theorem digit_any (c : UInt8) (w : World) : Calls Tryd.prog 120 #[.int .u8 (c.toNat : Int)] w fun e w' => e = .returned (.int .i64 (dg c : Int)) ∧ w = w' := by
  have hc := c.toNat_lt
  have HD : Hid (dg c = if 48 ≤ c.toNat ∧ c.toNat ≤ 57 then c.toNat - 48 else if 97 ≤ c.toNat ∧ c.toNat ≤ 122 then c.toNat - 87 else if 65 ≤ c.toNat ∧ c.toNat ≤ 90 then c.toNat - 55 else 99) := Lib.hid rfl
  revert HD hc
  generalize dg c = r
  generalize c.toNat = n
  intro hc HD
  by_cases h1 : 48 ≤ n ∧ n ≤ 57
  · have H := Lib.hid (show (r : Int) = (n : Int) - 48 by rw [HD.out, if_pos h1]; omega)
    obtain ⟨a, b⟩ := h1
    go_enter Tryd.func120, Tryd.ntmps120
    go_wp2
    go_ret
    exact ⟨by rw [H.out]; rfl, rfl⟩
  · have e1 : (decide (48 ≤ n) && decide (n ≤ 57)) = false := by simp; omega
    by_cases h2 : 97 ≤ n ∧ n ≤ 122
    · have H := Lib.hid (show (r : Int) = (n : Int) - 97 + 10 by rw [HD.out, if_neg h1, if_pos h2]; omega)
      obtain ⟨a, b⟩ := h2
      have g : 57 < n := by omega
      go_enter Tryd.func120, Tryd.ntmps120
      go_wp2
      go_ret
      exact ⟨by rw [H.out]; rfl, rfl⟩
    · by_cases h3 : 65 ≤ n ∧ n ≤ 90
      · have H := Lib.hid (show (r : Int) = (n : Int) - 65 + 10 by rw [HD.out, if_neg h1, if_neg h2, if_pos h3]; omega)
        obtain ⟨a, b⟩ := h3
        have g : 57 < n := by omega
        have g2 : n < 97 := by omega
        go_enter Tryd.func120, Tryd.ntmps120
        go_wp2
        go_ret
        exact ⟨by rw [H.out]; rfl, rfl⟩
      · have H := Lib.hid (show (r : Int) = 99 by rw [HD.out, if_neg h1, if_neg h2, if_neg h3]; rfl)
        rcases (show n < 48 ∨ (57 < n ∧ n < 65) ∨ (90 < n ∧ n < 97) ∨ 122 < n by omega) with h | h | h | h
        all_goals
          go_enter Tryd.func120, Tryd.ntmps120
          go_wp2
        all_goals
          go_ret
          exact ⟨by rw [H.out]; rfl, rfl⟩

theorem white_any (c : UInt8) (w : World) : Calls Tryd.prog 106 #[.int .u8 (c.toNat : Int)] w fun e w' => e = .returned (.bool (wht c)) ∧ w = w' := by
  obtain ⟨n, hn⟩ : ∃ n, c.toNat = n := ⟨_, rfl⟩
  have H : Hid (wht c = (decide (9 ≤ n ∧ n ≤ 13) || decide (n = 32))) := by show _ = _; unfold wht; rw [hn]
  rw [hn]
  clear hn
  by_cases h0 : (n : Int) = 32
  · have e1 : n = 32 := by omega
    subst e1
    go_enter Tryd.func106, Tryd.ntmps106
    go_wp2
    go_ret
    exact ⟨by rw [H.out]; rfl, rfl⟩
  · have hz : ((n : Int) == 32) = false := by simpa using h0
    by_cases h1 : (n : Int) ≥ 9
    · by_cases h2 : (n : Int) ≤ 13
      · have H2 := Lib.hid (show (decide (9 ≤ n ∧ n ≤ 13) || decide (n = 32)) = true by simp; omega)
        go_enter Tryd.func106, Tryd.ntmps106
        go_wp2
        go_ret
        exact ⟨by rw [H.out, H2.out]; rfl, rfl⟩
      · have H2 := Lib.hid (show (decide (9 ≤ n ∧ n ≤ 13) || decide (n = 32)) = false by simp; omega)
        go_enter Tryd.func106, Tryd.ntmps106
        go_wp2
        go_ret
        exact ⟨by rw [H.out, H2.out]; rfl, rfl⟩
    · have H2 := Lib.hid (show (decide (9 ≤ n ∧ n ≤ 13) || decide (n = 32)) = false by simp; omega)
      go_enter Tryd.func106, Tryd.ntmps106
      go_wp2
      go_ret
      exact ⟨by rw [H.out, H2.out]; rfl, rfl⟩
end Go.Proofs.YtmnibfdenmeepaaDoor
