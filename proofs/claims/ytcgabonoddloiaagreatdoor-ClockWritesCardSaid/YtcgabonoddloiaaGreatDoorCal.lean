/- The calendar in plain mathematics: days, months, years; the two ways to number days and to read a date. -/
namespace Clk

def lp (y : Int) : Int := if y % 4 = 0 ∧ (y % 100 ≠ 0 ∨ y % 400 = 0) then 1 else 0
def dim (y m : Int) : Int := if m = 2 then 28 + lp y else if m = 4 ∨ m = 6 ∨ m = 9 ∨ m = 11 then 30 else 31
/-- The days before a year. -/
def dby (y : Int) : Int := 365 * (y - 1) + (y - 1) / 4 - (y - 1) / 100 + (y - 1) / 400
/-- The days of a year before a month. -/
def cum (y m : Int) : Int :=
  if m ≤ 1 then 0 else if m = 2 then 31 else
  (if m = 3 then 59 else if m = 4 then 90 else if m = 5 then 120 else if m = 6 then 151 else if m = 7 then 181 else if m = 8 then 212 else if m = 9 then 243 else if m = 10 then 273 else if m = 11 then 304 else if m = 12 then 334 else 365) + lp y
def num (y m d : Int) : Int := dby y + cum y m + d - 1
def IsDay (y m d : Int) : Prop := 1 ≤ y ∧ 1 ≤ m ∧ m ≤ 12 ∧ 1 ≤ d ∧ d ≤ dim y m

theorem lp_01 (y : Int) : 0 ≤ lp y ∧ lp y ≤ 1 := by unfold lp; split <;> omega
theorem dby_succ (y : Int) : dby (y + 1) = dby y + 365 + lp y := by unfold dby lp; split <;> omega
theorem dim_bd (y m : Int) : 28 ≤ dim y m ∧ dim y m ≤ 31 := by
  have := lp_01 y
  unfold dim
  split
  · omega
  · split <;> omega
theorem cum_succ (y m : Int) (h1 : 1 ≤ m) (h2 : m ≤ 12) : cum y (m + 1) = cum y m + dim y m := by
  have h : m = 1 ∨ m = 2 ∨ m = 3 ∨ m = 4 ∨ m = 5 ∨ m = 6 ∨ m = 7 ∨ m = 8 ∨ m = 9 ∨ m = 10 ∨ m = 11 ∨ m = 12 := by omega
  rcases h with rfl | rfl | rfl | rfl | rfl | rfl | rfl | rfl | rfl | rfl | rfl | rfl <;> simp [cum, dim] <;> omega
theorem cum_13 (y : Int) : cum y 13 = 365 + lp y := by simp [cum]
theorem cum_1 (y : Int) : cum y 1 = 0 := by simp [cum]
theorem cum_bd (y m : Int) : 0 ≤ cum y m ∧ cum y m ≤ 366 := by
  have := lp_01 y
  unfold cum
  repeat' split
  all_goals omega
theorem cum_mono (y m k : Int) (h1 : 1 ≤ m) (h : m ≤ k) (h2 : k ≤ 13) : cum y m ≤ cum y k := by
  have hn : ∀ (n : Nat), m + n ≤ 13 → cum y m ≤ cum y (m + n) := by
    intro n
    induction n with
    | zero => intro _; simp
    | succ n ih =>
      intro hb
      have h1 := ih (by omega)
      have h2 := cum_succ y (m + n) (by omega) (by omega)
      have h3 := dim_bd y (m + n)
      have e : m + ((n + 1 : Nat) : Int) = m + n + 1 := by omega
      rw [e, h2]
      omega
  have := hn (k - m).toNat (by omega)
  rwa [show m + ((k - m).toNat : Int) = k by omega] at this
theorem dby_mono (y k : Int) (h : y ≤ k) : dby y ≤ dby k := by unfold dby; omega
theorem dby_1 : dby 1 = 0 := by decide
theorem num_lo {y m d : Int} (h : IsDay y m d) : dby y ≤ num y m d := by
  have := cum_bd y m; unfold num; obtain ⟨_, _, _, _, _⟩ := h; omega
theorem num_hi {y m d : Int} (h : IsDay y m d) : num y m d < dby (y + 1) := by
  obtain ⟨h1, h2, h3, h4, h5⟩ := h
  have e1 := cum_succ y m h2 h3
  have e2 := cum_mono y (m + 1) 13 (by omega) (by omega) (by omega)
  have e3 := cum_13 y
  have e4 := dby_succ y
  unfold num
  omega
theorem num_inj {y m d y' m' d' : Int} (h : IsDay y m d) (h' : IsDay y' m' d') (e : num y m d = num y' m' d') : y = y' ∧ m = m' ∧ d = d' := by
  have hy : y = y' := by
    have a := num_lo h
    have b := num_hi h
    have a' := num_lo h'
    have b' := num_hi h'
    have k1 : ¬ y + 1 ≤ y' := fun hh => by have := dby_mono _ _ hh; omega
    have k2 : ¬ y' + 1 ≤ y := fun hh => by have := dby_mono _ _ hh; omega
    omega
  subst hy
  obtain ⟨h1, h2, h3, h4, h5⟩ := h
  obtain ⟨g1, g2, g3, g4, g5⟩ := h'
  unfold num at e
  have hm : m = m' := by
    have a := cum_succ y m h2 h3
    have b := cum_succ y m' g2 g3
    have k1 : ¬ m + 1 ≤ m' := fun hh => by have := cum_mono y _ _ (by omega) hh (by omega); omega
    have k2 : ¬ m' + 1 ≤ m := fun hh => by have := cum_mono y _ _ (by omega) hh (by omega); omega
    omega
  subst hm
  omega

/-- The program's own reckoning, years from March on. -/
def dTo (y m d : Int) : Int :=
  (if m ≤ 2 then y - 1 else y) * 365 + (if m ≤ 2 then y - 1 else y) / 4 - (if m ≤ 2 then y - 1 else y) / 100 + (if m ≤ 2 then y - 1 else y) / 400 + ((153 * ((m + 9) % 12) + 2) / 5 + d - 1) - 719468

theorem dTo_num (y m d : Int) (h1 : 1 ≤ m) (h2 : m ≤ 12) : dTo y m d = num y m d - 719162 := by
  have h : m = 1 ∨ m = 2 ∨ m = 3 ∨ m = 4 ∨ m = 5 ∨ m = 6 ∨ m = 7 ∨ m = 8 ∨ m = 9 ∨ m = 10 ∨ m = 11 ∨ m = 12 := by omega
  rcases h with rfl | rfl | rfl | rfl | rfl | rfl | rfl | rfl | rfl | rfl | rfl | rfl <;> simp [dTo, num, cum, dby, lp] <;> (try split) <;> omega

def cR (n : Int) : Int := (n + 719468) % 146097
def yoe (r : Int) : Int := (r - r / 1460 + r / 36524 - r / 146096) / 365
def doy (r : Int) : Int := r - (365 * yoe r + yoe r / 4 - yoe r / 100)
def mp (q : Int) : Int := (5 * q + 2) / 153
def cDay (n : Int) : Int := doy (cR n) - (153 * mp (doy (cR n)) + 2) / 5 + 1
def cMonth (n : Int) : Int := (mp (doy (cR n)) + 2) % 12 + 1
def cYear (n : Int) : Int := (n + 719468) / 146097 * 400 + yoe (cR n) + if cMonth n ≤ 2 then 1 else 0

theorem yoe_part (r c : Int) (hc : c = 0 ∨ c = 1 ∨ c = 2 ∨ c = 3) (h0 : 36524 * c ≤ r) (h1 : r < 36524 * c + 36524) (b : Int) (hb : b = (r - r / 1460 + c) / 365) :
    0 ≤ b ∧ b ≤ 399 ∧ 0 ≤ r - (365 * b + b / 4 - b / 100) ∧ r - (365 * b + b / 4 - b / 100) ≤ 365 ∧ (r - (365 * b + b / 4 - b / 100) = 365 → b % 4 = 3 ∧ (b % 100 ≠ 99 ∨ b = 399)) := by
  obtain ⟨e, he⟩ : ∃ e, r / 1460 = e := ⟨_, rfl⟩
  rw [he] at hb
  have he1 : 1460 * e ≤ r ∧ r < 1460 * e + 1460 := by omega
  have hb1 : 365 * b ≤ r - e + c ∧ r - e + c < 365 * b + 365 := by omega
  clear hb he
  have hd : b / 100 = c := by
    rcases hc with rfl | rfl | rfl | rfl <;> omega
  rw [hd]
  have hu : b = 4 * e - 1 ∨ b = 4 * e ∨ b = 4 * e + 1 ∨ b = 4 * e + 2 ∨ b = 4 * e + 3 ∨ b = 4 * e + 4 := by
    rcases hc with rfl | rfl | rfl | rfl <;> omega
  rcases hc with rfl | rfl | rfl | rfl <;> rcases hu with rfl | rfl | rfl | rfl | rfl | rfl <;> omega

theorem yoe_doy (r : Int) (h0 : 0 ≤ r) (h1 : r ≤ 146096) :
    0 ≤ yoe r ∧ yoe r ≤ 399 ∧ 0 ≤ doy r ∧ doy r ≤ 365 ∧ (doy r = 365 → yoe r % 4 = 3 ∧ (yoe r % 100 ≠ 99 ∨ yoe r = 399)) := by
  have hc : r / 36524 = 0 ∨ r / 36524 = 1 ∨ r / 36524 = 2 ∨ r / 36524 = 3 ∨ r = 146096 := by omega
  rcases hc with hc | hc | hc | hc | rfl
  all_goals first | decide | skip
  all_goals
    have h2 : r / 146096 = 0 := by omega
    unfold doy yoe
    rw [hc, h2]
  · exact yoe_part r 0 (by omega) (by omega) (by omega) _ (by simp)
  · exact yoe_part r 1 (by omega) (by omega) (by omega) _ (by simp)
  · exact yoe_part r 2 (by omega) (by omega) (by omega) _ (by simp)
  · exact yoe_part r 3 (by omega) (by omega) (by omega) _ (by simp)
theorem mp_bd (q : Int) (h0 : 0 ≤ q) (h1 : q ≤ 365) : 0 ≤ mp q ∧ mp q ≤ 11 := by unfold mp; omega
theorem cR_bd (n : Int) : 0 ≤ cR n ∧ cR n ≤ 146096 := by unfold cR; omega
theorem of_mp (q p Y : Int) (h0 : 0 ≤ q) (h1 : q ≤ 365) (hl : q = 365 → lp (Y + 1) = 1) (hp : mp q = p) :
    1 ≤ (p + 2) % 12 + 1 ∧ (p + 2) % 12 + 1 ≤ 12 ∧ 1 ≤ q - (153 * p + 2) / 5 + 1 ∧ q - (153 * p + 2) / 5 + 1 ≤ dim (Y + if (p + 2) % 12 + 1 ≤ 2 then 1 else 0) ((p + 2) % 12 + 1)
    ∧ dTo (Y + if (p + 2) % 12 + 1 ≤ 2 then 1 else 0) ((p + 2) % 12 + 1) (q - (153 * p + 2) / 5 + 1) = Y * 365 + Y / 4 - Y / 100 + Y / 400 + q - 719468 := by
  have hp' : 153 * p ≤ 5 * q + 2 ∧ 5 * q + 2 < 153 * p + 153 := by unfold mp at hp; omega
  have h : p = 0 ∨ p = 1 ∨ p = 2 ∨ p = 3 ∨ p = 4 ∨ p = 5 ∨ p = 6 ∨ p = 7 ∨ p = 8 ∨ p = 9 ∨ p = 10 ∨ p = 11 := by omega
  have hlp := lp_01 (Y + 1)
  clear hp
  rcases h with rfl | rfl | rfl | rfl | rfl | rfl | rfl | rfl | rfl | rfl | rfl | rfl <;> simp [dTo, dim] <;> omega
theorem civ (n : Int) (h : -719162 ≤ n) : IsDay (cYear n) (cMonth n) (cDay n) ∧ num (cYear n) (cMonth n) (cDay n) = n + 719162 := by
  obtain ⟨r0, r1⟩ := cR_bd n
  obtain ⟨y0, y1, q0, q1, ql⟩ := yoe_doy (cR n) r0 r1
  obtain ⟨Y, hY⟩ : ∃ Y, Y = (n + 719468) / 146097 * 400 + yoe (cR n) := ⟨_, rfl⟩
  have hR : n + 719468 = 146097 * ((n + 719468) / 146097) + cR n := by unfold cR; omega
  have hl : doy (cR n) = 365 → lp (Y + 1) = 1 := by
    intro hq
    obtain ⟨a, b⟩ := ql hq
    unfold lp
    rw [if_pos]
    omega
  obtain ⟨a1, a2, a3, a4, a5⟩ := of_mp (doy (cR n)) (mp (doy (cR n))) Y q0 q1 hl rfl
  have eY : cYear n = Y + if (mp (doy (cR n)) + 2) % 12 + 1 ≤ 2 then 1 else 0 := by unfold cYear cMonth; rw [hY]
  have b1 : 1 ≤ cMonth n := a1
  have b2 : cMonth n ≤ 12 := a2
  have b3 : 1 ≤ cDay n := a3
  have b4 : cDay n ≤ dim (cYear n) (cMonth n) := by rw [eY]; exact a4
  have b5 : dTo (cYear n) (cMonth n) (cDay n) = Y * 365 + Y / 4 - Y / 100 + Y / 400 + doy (cR n) - 719468 := by rw [eY]; exact a5
  clear a1 a2 a3 a4 a5 eY
  have e6 := dTo_num (cYear n) (cMonth n) (cDay n) b1 b2
  have e7 : Y * 365 + Y / 4 - Y / 100 + Y / 400 + doy (cR n) = n + 719468 := by
    unfold doy
    generalize yoe (cR n) = v at *
    generalize (n + 719468) / 146097 = era at *
    have s1 : Y / 4 = era * 100 + v / 4 := by omega
    have s2 : Y / 100 = era * 4 + v / 100 := by omega
    have s3 : Y / 400 = era := by omega
    rw [s1, s2, s3]
    omega
  have e8 : num (cYear n) (cMonth n) (cDay n) = n + 719162 := by omega
  refine ⟨⟨?_, b1, b2, b3, b4⟩, e8⟩
  clear e7 hY hR b5 e6
  generalize cYear n = y at *
  generalize cMonth n = m at *
  generalize cDay n = d at *
  by_cases hy : 1 ≤ y
  · exact hy
  · exfalso
    have i1 : ∀ k, k ≤ 0 → dby (k + 1) ≤ 0 := fun k hk => by have := dby_mono (k + 1) 1 (by omega); have := dby_1; omega
    have i2 := i1 y (by omega)
    have e1 := cum_succ y m b1 b2
    have e2 := cum_mono y (m + 1) 13 (by omega) (by omega) (by omega)
    have e3 := cum_13 y
    have e4 := dby_succ y
    unfold num at e8
    omega
/-- What a day's number is the date of. -/
theorem civ_eq (n : Int) (y m d : Int) (h : IsDay y m d) (e : num y m d = n + 719162) : cYear n = y ∧ cMonth n = m ∧ cDay n = d := by
  have hn : -719162 ≤ n := by
    have := num_lo h
    have := dby_mono 1 y h.1
    have := dby_1
    omega
  obtain ⟨c1, c2⟩ := civ n hn
  exact num_inj c1 h (by omega)
end Clk
