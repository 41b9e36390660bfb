/- Easter in plain mathematics: both reckonings give the same Sunday, for every year. -/
import Derived.Test.YtcgabonoddloiaaGreatDoorCal
namespace Clk

def esG (y : Int) : Int := (8 * (y / 100) + 13) / 25
def esH (y : Int) : Int := (19 * (y % 19) + y / 100 - y / 100 / 4 - esG y + 15) % 30
def esM (y : Int) : Int := (y % 19 + 11 * esH y) / 319
def esL (y : Int) : Int := (2 * (y / 100 % 4) + 2 * (y % 100 / 4) - y % 100 % 4 - esH y + esM y + 32) % 7
def esMonth (y : Int) : Int := (esH y - esM y + esL y + 90) / 25
def esDay (y : Int) : Int := (esH y - esM y + esL y + esMonth y + 19) % 32
/-- The number of the day of Easter, from 1970. -/
def esNum (y : Int) : Int := dTo y (esMonth y) (esDay y)

theorem esG_bd (b : Int) (h : 0 ≤ b) (h2 : b ≤ 99) : 0 ≤ (8 * b + 13) / 25 ∧ (8 * b + 13) / 25 ≤ 33 ∧ (8 * b + 13) / 25 ≤ b - b / 4 + 15 := by omega
theorem mod_bd (x n : Int) (h : 0 < n) : 0 ≤ x % n ∧ x % n ≤ n - 1 := ⟨Int.emod_nonneg _ (by omega), by have := Int.emod_lt_of_pos x h; omega⟩
theorem esM_bd (a h : Int) (a0 : 0 ≤ a) (a1 : a ≤ 18) (h0 : 0 ≤ h) (h1 : h ≤ 29) : 0 ≤ (a + 11 * h) / 319 ∧ (a + 11 * h) / 319 ≤ h ∧ h - (a + 11 * h) / 319 ≤ 28 := by omega
theorem esL_bd (b c h m : Int) (h1 : h ≤ 29) (m0 : 0 ≤ m) (c0 : 0 ≤ c) : 0 ≤ 2 * (b % 4) + 2 * (c / 4) - c % 4 - h + m + 32 := by omega

/-- The other reckoning, by the moon's age. -/
def erGolden (y : Int) : Int := y % 19 + 1
def erCentury (y : Int) : Int := y / 100 + 1
def erLost (y : Int) : Int := 3 * erCentury y / 4 - 12
def erMoon (y : Int) : Int := (8 * erCentury y + 5) / 25 - 5
def erEpact0 (y : Int) : Int := (11 * erGolden y + 20 + erMoon y - erLost y) % 30
def erEpact (y : Int) : Int := if (erEpact0 y = 25 ∧ erGolden y > 11) ∨ erEpact0 y = 24 then erEpact0 y + 1 else erEpact0 y
def erFull (y : Int) : Int := if 44 - erEpact y < 21 then 44 - erEpact y + 30 else 44 - erEpact y
/-- The number of the full moon's day, from the first day on. -/
def erDay (y : Int) : Int := num y 3 1 + erFull y - 1
/-- The number of Easter's day, from the first day on. -/
def erNum (y : Int) : Int := erDay y + (7 - (erDay y % 7 + 1) % 7)

def esOk (k : Nat) : Bool :=
  k < 1 || 9999 < k || (decide (num k (esMonth k) (esDay k) = erNum k) && decide (erNum k % 7 = 6) &&
    (decide (esMonth k = 3) && decide (22 ≤ esDay k) || decide (esMonth k = 4) && decide (1 ≤ esDay k) && decide (esDay k ≤ 25)))

/-- All of 2^n numbers from 'lo' on. -/
def allB (f : Nat → Bool) : Nat → Nat → Bool
  | 0, lo => f lo
  | n + 1, lo => allB f n lo && allB f n (lo + 2 ^ n)
theorem allB_spec (f : Nat → Bool) : ∀ (n lo : Nat), allB f n lo = true → ∀ k, lo ≤ k → k < lo + 2 ^ n → f k = true
  | 0, lo, h, k, h1, h2 => by
    have : k = lo := by simp at h2; omega
    subst this; exact h
  | n + 1, lo, h, k, h1, h2 => by
    simp only [allB, Bool.and_eq_true] at h
    rw [Nat.pow_succ] at h2
    by_cases hk : k < lo + 2 ^ n
    · exact allB_spec f n lo h.1 k h1 hk
    · exact allB_spec f n (lo + 2 ^ n) h.2 k (by omega) (by omega)
theorem es0 : allB esOk 9 0 = true := by decide +kernel
theorem es1 : allB esOk 9 512 = true := by decide +kernel
theorem es2 : allB esOk 9 1024 = true := by decide +kernel
theorem es3 : allB esOk 9 1536 = true := by decide +kernel
theorem es4 : allB esOk 9 2048 = true := by decide +kernel
theorem es5 : allB esOk 9 2560 = true := by decide +kernel
theorem es6 : allB esOk 9 3072 = true := by decide +kernel
theorem es7 : allB esOk 9 3584 = true := by decide +kernel
theorem es8 : allB esOk 9 4096 = true := by decide +kernel
theorem es9 : allB esOk 9 4608 = true := by decide +kernel
theorem es10 : allB esOk 9 5120 = true := by decide +kernel
theorem es11 : allB esOk 9 5632 = true := by decide +kernel
theorem es12 : allB esOk 9 6144 = true := by decide +kernel
theorem es13 : allB esOk 9 6656 = true := by decide +kernel
theorem es14 : allB esOk 9 7168 = true := by decide +kernel
theorem es15 : allB esOk 9 7680 = true := by decide +kernel
theorem es16 : allB esOk 9 8192 = true := by decide +kernel
theorem es17 : allB esOk 9 8704 = true := by decide +kernel
theorem es18 : allB esOk 9 9216 = true := by decide +kernel
theorem es19 : allB esOk 9 9728 = true := by decide +kernel
theorem es_of (y : Int) (h1 : 1 ≤ y) (h2 : y ≤ 9999) : num y (esMonth y) (esDay y) = erNum y ∧ erNum y % 7 = 6 ∧ (esMonth y = 3 ∧ 22 ≤ esDay y ∨ (esMonth y = 4 ∧ 1 ≤ esDay y) ∧ esDay y ≤ 25) := by
  obtain ⟨k, rfl⟩ := Int.eq_ofNat_of_zero_le (show 0 ≤ y by omega)
  have h : esOk k = true := by
    by_cases c0 : k < 512
    · exact allB_spec esOk 9 0 es0 k (by omega) (by omega)
    by_cases c1 : k < 1024
    · exact allB_spec esOk 9 512 es1 k (by omega) (by omega)
    by_cases c2 : k < 1536
    · exact allB_spec esOk 9 1024 es2 k (by omega) (by omega)
    by_cases c3 : k < 2048
    · exact allB_spec esOk 9 1536 es3 k (by omega) (by omega)
    by_cases c4 : k < 2560
    · exact allB_spec esOk 9 2048 es4 k (by omega) (by omega)
    by_cases c5 : k < 3072
    · exact allB_spec esOk 9 2560 es5 k (by omega) (by omega)
    by_cases c6 : k < 3584
    · exact allB_spec esOk 9 3072 es6 k (by omega) (by omega)
    by_cases c7 : k < 4096
    · exact allB_spec esOk 9 3584 es7 k (by omega) (by omega)
    by_cases c8 : k < 4608
    · exact allB_spec esOk 9 4096 es8 k (by omega) (by omega)
    by_cases c9 : k < 5120
    · exact allB_spec esOk 9 4608 es9 k (by omega) (by omega)
    by_cases c10 : k < 5632
    · exact allB_spec esOk 9 5120 es10 k (by omega) (by omega)
    by_cases c11 : k < 6144
    · exact allB_spec esOk 9 5632 es11 k (by omega) (by omega)
    by_cases c12 : k < 6656
    · exact allB_spec esOk 9 6144 es12 k (by omega) (by omega)
    by_cases c13 : k < 7168
    · exact allB_spec esOk 9 6656 es13 k (by omega) (by omega)
    by_cases c14 : k < 7680
    · exact allB_spec esOk 9 7168 es14 k (by omega) (by omega)
    by_cases c15 : k < 8192
    · exact allB_spec esOk 9 7680 es15 k (by omega) (by omega)
    by_cases c16 : k < 8704
    · exact allB_spec esOk 9 8192 es16 k (by omega) (by omega)
    by_cases c17 : k < 9216
    · exact allB_spec esOk 9 8704 es17 k (by omega) (by omega)
    by_cases c18 : k < 9728
    · exact allB_spec esOk 9 9216 es18 k (by omega) (by omega)
    by_cases c19 : k < 10240
    · exact allB_spec esOk 9 9728 es19 k (by omega) (by omega)
    omega
  unfold esOk at h
  simp only [Bool.or_eq_true, Bool.and_eq_true, decide_eq_true_eq] at h
  rcases h with (h | h) | ⟨⟨a, b⟩, d⟩
  · omega
  · omega
  · exact ⟨a, b, d⟩
end Clk
