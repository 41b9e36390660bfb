/- Months and years of the calendar in plain mathematics: adding months, and the order of days. -/
import Derived.Test.YtcgabonoddloiaaDoorCal
namespace Clk

/-- The beginning of a month's next one. -/
theorem num_next (y m d : Int) (h : IsDay y m d) : num y m d < dby y + cum y (m + 1) := by
  obtain ⟨h1, h2, h3, h4, h5⟩ := h
  have e1 := cum_succ y m h2 h3
  unfold num
  omega
theorem mon_le (y m y' m' : Int) (_hy : 1 ≤ y) (hm : 1 ≤ m) (hm2 : m ≤ 12) (hm' : 1 ≤ m') (hm2' : m' ≤ 12) (h : 12 * y + m < 12 * y' + m') : dby y + cum y (m + 1) ≤ dby y' + cum y' m' := by
  by_cases e : y = y'
  · subst e
    have := cum_mono y (m + 1) m' (by omega) (by omega) (by omega)
    omega
  · have h1 := dby_mono (y + 1) y' (by omega)
    have h2 := dby_succ y
    have h3 := cum_mono y (m + 1) 13 (by omega) (by omega) (by omega)
    have h4 := cum_13 y
    have h5 := cum_bd y' m'
    omega
/-- A day of an earlier month comes first. -/
theorem num_lt (y m d y' m' d' : Int) (h : IsDay y m d) (h' : IsDay y' m' d') (hl : 12 * y + m < 12 * y' + m') : num y m d < num y' m' d' := by
  have a := num_next y m d h
  have b := mon_le y m y' m' h.1 h.2.1 h.2.2.1 h'.2.1 h'.2.2.1 hl
  have c := h'.2.2.2.1
  have e : num y' m' d' = dby y' + cum y' m' + d' - 1 := rfl
  omega

/-- k months later: the month's number, and the day, if the month has it, else its last one. -/
def amY (Y M k : Int) : Int := (12 * Y + M - 1 + k) / 12
def amM (Y M k : Int) : Int := (12 * Y + M - 1 + k) % 12 + 1
def amD (Y M D k : Int) : Int := min D (dim (amY Y M k) (amM Y M k))
theorem amM_bd (Y M k : Int) : 1 ≤ amM Y M k ∧ amM Y M k ≤ 12 := by unfold amM; omega
theorem am_mon (Y M k : Int) : 12 * amY Y M k + amM Y M k = 12 * Y + M + k := by unfold amY amM; omega
theorem am_day (Y M D k : Int) (hD : 1 ≤ D) (hy : 1 ≤ amY Y M k) : IsDay (amY Y M k) (amM Y M k) (amD Y M D k) := by
  have a := amM_bd Y M k
  have b := dim_bd (amY Y M k) (amM Y M k)
  unfold amD
  exact ⟨hy, a.1, a.2, by omega, by omega⟩
theorem amD_28 (Y M D k : Int) (h : D ≤ 28) : amD Y M D k = D := by
  have b := dim_bd (amY Y M k) (amM Y M k)
  unfold amD
  omega
theorem am_am (Y M k l : Int) : amY (amY Y M k) (amM Y M k) l = amY Y M (k + l) ∧ amM (amY Y M k) (amM Y M k) l = amM Y M (k + l) := by
  have e := am_mon Y M k
  have e1 : 12 * amY Y M k + amM Y M k - 1 + l = 12 * Y + M - 1 + (k + l) := by omega
  generalize amY Y M k = y at *
  generalize amM Y M k = m at *
  unfold amY amM
  rw [e1]
  exact ⟨rfl, rfl⟩
theorem am_0 (Y M D : Int) (hM : 1 ≤ M) (hM2 : M ≤ 12) (hD : D ≤ dim Y M) : amY Y M 0 = Y ∧ amM Y M 0 = M ∧ amD Y M D 0 = D := by
  have h1 : amY Y M 0 = Y := by unfold amY; omega
  have h2 : amM Y M 0 = M := by unfold amM; omega
  refine ⟨h1, h2, ?_⟩
  unfold amD
  rw [h1, h2]
  omega

/-- The greatest number from n downwards that fits, or 0. -/
def down (P : Int → Bool) : Nat → Nat
  | 0 => 0
  | n + 1 => if P ((n : Int) + 1) then n + 1 else down P n
theorem down_le (P : Int → Bool) : ∀ n, down P n ≤ n
  | 0 => Nat.le_refl _
  | n + 1 => by
    have := down_le P n
    unfold down
    split <;> omega
theorem down_fits (P : Int → Bool) (h0 : P 0 = true) : ∀ n, P (down P n : Int) = true
  | 0 => h0
  | n + 1 => by
    unfold down
    split
    · rename_i h; exact_mod_cast h
    · exact down_fits P h0 n
theorem down_not (P : Int → Bool) : ∀ n k : Nat, down P n < k → k ≤ n → P (k : Int) = false
  | 0, k, h, h2 => by omega
  | n + 1, k, h, h2 => by
    unfold down at h
    split at h
    · omega
    · rename_i hp
      by_cases hk : k = n + 1
      · subst hk; simpa using hp
      · exact down_not P n k h (by omega)
theorem down_skip (P : Int → Bool) (n : Nat) (h : P ((n : Int) + 1) = false) : down P (n + 1) = down P n := by
  rw [down, if_neg (by simp [h])]
end Clk
