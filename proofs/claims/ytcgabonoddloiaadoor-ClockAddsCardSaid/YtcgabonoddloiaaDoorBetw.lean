/- Add of both; between in plain words. -/
import Derived.Test.YtcgabonoddloiaaDoorAdds2
namespace Go.Proofs.YtcgabonoddloiaaDoor
open Go.RowKit Clk
/-- k units behind a are not behind b. -/
def fitsU (a b : Int) (u : Nat) (k : Int) : Bool :=
  match addR a k u with
  | some t => decide (t ≤ b)
  | none => false
theorem fitsU_some {a b : Int} {u : Nat} {k t : Int} (h : addR a k u = some t) : fitsU a b u k = decide (t ≤ b) := by unfold fitsU; rw [h]
theorem fitsU_none {a b : Int} {u : Nat} {k : Int} (h : addR a k u = none) : fitsU a b u k = false := by unfold fitsU; rw [h]

/-- The months from a's to b's. -/
def mDiff (a b : Int) : Int := 12 * cYear (b / 86400) + cMonth (b / 86400) - 12 * cYear (a / 86400) - cMonth (a / 86400)

theorem mDiff_nonneg (a b : Int) (ha : isT a = true) (hb : isT b = true) (h : a ≤ b) : 0 ≤ mDiff a b := by
  have ha' := isT_iff.1 ha
  have hb' := isT_iff.1 hb
  obtain ⟨c, _⟩ := isT_day ha
  obtain ⟨d, _⟩ := isT_day hb
  have e := (civ (a / 86400) (by omega)).2
  have f := (civ (b / 86400) (by omega)).2
  unfold mDiff
  by_cases hl : 12 * cYear (b / 86400) + cMonth (b / 86400) < 12 * cYear (a / 86400) + cMonth (a / 86400)
  · have := num_lt _ _ _ _ _ _ d c hl
    omega
  · omega
theorem mDiff_bd (a b : Int) (ha : isT a = true) (hb : isT b = true) : mDiff a b ≤ 200000 ∧ -200000 ≤ mDiff a b := by
  obtain ⟨c, c'⟩ := isT_day ha
  obtain ⟨d, d'⟩ := isT_day hb
  obtain ⟨c1, c2, c3, c4, c5⟩ := c
  obtain ⟨d1, d2, d3, d4, d5⟩ := d
  unfold mDiff
  omega
/-- More months than lie between come behind. -/
theorem addM_gt (a b k r : Int) (ha : isT a = true) (hb : isT b = true) (h : addM a k = some r) (hk : mDiff a b < k) : b < r := by
  have ha' := isT_iff.1 ha
  have hb' := isT_iff.1 hb
  obtain ⟨⟨c1, c2, c3, c4, c5⟩, c'⟩ := isT_day ha
  obtain ⟨d, _⟩ := isT_day hb
  have f := (civ (b / 86400) (by omega)).2
  unfold addM at h
  split at h
  · rename_i hy
    have hy' := isY_iff.1 hy
    have hday := am_day (cYear (a / 86400)) (cMonth (a / 86400)) (cDay (a / 86400)) k c4 hy'.1
    have hm := am_mon (cYear (a / 86400)) (cMonth (a / 86400)) k
    have hl := num_lt _ _ _ _ _ _ d hday (by unfold mDiff at hk; omega)
    have hd := dTo_num (amY (cYear (a / 86400)) (cMonth (a / 86400)) k) (amM (cYear (a / 86400)) (cMonth (a / 86400)) k) (amD (cYear (a / 86400)) (cMonth (a / 86400)) (cDay (a / 86400)) k) hday.2.1 hday.2.2.1
    have hr := Option.some.inj h
    omega
  · cases h
theorem fits_far (a b k : Int) (u : Nat) (ha : isT a = true) (hb : isT b = true) (hu : 5 ≤ u) (hk : mDiff a b < k * uLen u) : fitsU a b u k = false := by
  have hR : addR a k u = addM a (k * uLen u) := by unfold addR; rw [if_neg (by omega)]
  cases h : addM a (k * uLen u) with
  | none => exact fitsU_none (hR.trans h)
  | some r =>
    rw [fitsU_some (hR.trans h)]
    have := addM_gt a b _ r ha hb h hk
    simp
    omega
/-- How many whole units lie from a to b. -/
def btw (a b : Int) (u : Nat) : Int :=
  if u < 5 then (b - a) / uLen u else (down (fitsU a b u) (mDiff a b / uLen u).toNat : Nat)
theorem btw_year (a b : Int) (ha : isT a = true) (hb : isT b = true) (h : a ≤ b) (n : Nat) (hn : (n : Int) = cYear (b / 86400) - cYear (a / 86400)) : down (fitsU a b 6) n = down (fitsU a b 6) (mDiff a b / 12).toNat := by
  have h0 := mDiff_nonneg a b ha hb h
  obtain ⟨⟨c1, c2, c3, c4, c5⟩, c'⟩ := isT_day ha
  obtain ⟨⟨d1, d2, d3, d4, d5⟩, d'⟩ := isT_day hb
  by_cases hm : cMonth (a / 86400) ≤ cMonth (b / 86400)
  · have e : (mDiff a b / 12).toNat = n := by unfold mDiff at h0 ⊢; omega
    rw [e]
  · have e : n = (mDiff a b / 12).toNat + 1 := by unfold mDiff at h0 ⊢; omega
    rw [e]
    refine down_skip _ _ (fits_far a b _ 6 ha hb (by decide) ?_)
    show mDiff a b < (((mDiff a b / 12).toNat : Nat) + 1 : Int) * 12
    omega
end Go.Proofs.YtcgabonoddloiaaDoor
