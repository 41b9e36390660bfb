/- Adding goes together, and Between is the greatest number of units that is not too much. -/
import Derived.Test.YtcgabonoddloiaaDoorBetwB
namespace Go.Proofs.YtcgabonoddloiaaDoor
open Go.RowKit Clk

/-- What is added has a time. -/
theorem addR_isT {t n : Int} {u : Nat} {a : Int} (ht : isT t = true) (h : addR t n u = some a) : isT a = true := by
  have hb := isT_iff.1 ht
  unfold addR at h
  split at h
  · split at h
    · rename_i h1
      cases h
      exact h1
    · cases h
  · obtain ⟨⟨c1, c2, c3, c4, c5⟩, c'⟩ := isT_day ht
    unfold addM at h
    split at h
    · rename_i hy
      have hy' := isY_iff.1 hy
      have hday := am_day (cYear (t / 86400)) (cMonth (t / 86400)) (cDay (t / 86400)) (n * uLen u) c4 hy'.1
      have hd := dTo_num (amY (cYear (t / 86400)) (cMonth (t / 86400)) (n * uLen u)) (amM (cYear (t / 86400)) (cMonth (t / 86400)) (n * uLen u)) (amD (cYear (t / 86400)) (cMonth (t / 86400)) (cDay (t / 86400)) (n * uLen u)) hday.2.1 hday.2.2.1
      have hn := num_bd9 hday hy'.2
      have hr := Option.some.inj h
      exact isT_iff.2 (by omega)
    · cases h

theorem addM_add {t k l a b : Int} (ht : isT t = true) (hD : cDay (t / 86400) ≤ 28) (h1 : addM t k = some a) (h2 : addM a l = some b) : addM t (k + l) = some b := by
  have hb := isT_iff.1 ht
  obtain ⟨⟨c1, c2, c3, c4, c5⟩, c'⟩ := isT_day ht
  obtain ⟨Y, hY⟩ : ∃ Y, cYear (t / 86400) = Y := ⟨_, rfl⟩
  obtain ⟨M, hM⟩ : ∃ M, cMonth (t / 86400) = M := ⟨_, rfl⟩
  obtain ⟨D, hDD⟩ : ∃ D, cDay (t / 86400) = D := ⟨_, rfl⟩
  unfold addM at h1 ⊢
  rw [hY, hM, hDD] at h1 ⊢
  rw [hDD] at hD c4
  split at h1
  · rename_i hy
    have hy' := isY_iff.1 hy
    have hday := am_day Y M D k c4 hy'.1
    have hd := dTo_num (amY Y M k) (amM Y M k) (amD Y M D k) hday.2.1 hday.2.2.1
    have hn := num_bd9 hday hy'.2
    have hr := Option.some.inj h1
    obtain ⟨e1, e2, e3⟩ := civ_eq (a / 86400) (amY Y M k) (amM Y M k) (amD Y M D k) hday (by omega)
    obtain ⟨g1, g2⟩ := am_am Y M k l
    unfold addM at h2
    rw [e1, e2, e3, g1, g2, amD_28 Y M D k hD] at h2
    have e4 : amD (amY Y M k) (amM Y M k) D l = amD Y M D (k + l) := by rw [amD_28 _ _ _ _ hD, amD_28 _ _ _ _ hD]
    rw [e4, show a % 86400 = t % 86400 by omega] at h2
    exact h2
  · cases h1

theorem addR_add {t m n a b : Int} {u : Nat} (ht : isT t = true) (hD : cDay (t / 86400) ≤ 28) (h1 : addR t m u = some a) (h2 : addR a n u = some b) : addR t (m + n) u = some b := by
  have e : (m + n) * uLen u = m * uLen u + n * uLen u := Int.add_mul _ _ _
  unfold addR at h1 h2 ⊢
  rw [e]
  by_cases h5 : u < 5
  · rw [if_pos h5] at h1 h2 ⊢
    split at h1
    · cases h1
      rw [show t + (m * uLen u + n * uLen u) = t + m * uLen u + n * uLen u by omega]
      exact h2
    · cases h1
  · rw [if_neg h5] at h1 h2 ⊢
    exact addM_add ht hD h1 h2

theorem addM_0 (t : Int) (ht : isT t = true) : addM t 0 = some t := by
  have hb := isT_iff.1 ht
  obtain ⟨c, c'⟩ := isT_day ht
  have f := (civ (t / 86400) (by omega)).2
  obtain ⟨c1, c2, c3, c4, c5⟩ := c
  obtain ⟨e1, e2, e3⟩ := am_0 (cYear (t / 86400)) (cMonth (t / 86400)) (cDay (t / 86400)) c2 c3 c5
  have hd := dTo_num (cYear (t / 86400)) (cMonth (t / 86400)) (cDay (t / 86400)) c2 c3
  unfold addM
  rw [e1, e2, e3, isY_iff.2 ⟨c1, c'⟩, if_pos rfl]
  congr 1
  omega

/-- The greatest number that is not too much. -/
theorem btw_most (t b : Int) (u : Nat) (ht : isT t = true) (hb : isT b = true) (h : t ≤ b) (hu : u < 7) :
    (∃ x, addR t (btw t b u) u = some x ∧ x ≤ b) ∧ ∀ y, addR t (btw t b u + 1) u = some y → b < y := by
  obtain ⟨t1, t2⟩ := isT_iff.1 ht
  obtain ⟨b1, b2⟩ := isT_iff.1 hb
  by_cases h5 : u < 5
  · have e : btw t b u = (b - t) / uLen u := by unfold btw; rw [if_pos h5]
    have hL := uLen_sec u h5
    have e1 := Int.emod_add_mul_ediv (b - t) (uLen u)
    have e2 := Int.emod_nonneg (b - t) (show uLen u ≠ 0 by omega)
    have e3 := Int.emod_lt_of_pos (b - t) (show 0 < uLen u by omega)
    have e4 : uLen u * ((b - t) / uLen u) = (b - t) / uLen u * uLen u := Int.mul_comm _ _
    have e5 : ((b - t) / uLen u + 1) * uLen u = (b - t) / uLen u * uLen u + uLen u := by rw [Int.add_mul]; omega
    have e6 := Int.mul_nonneg (Int.ediv_nonneg (show 0 ≤ b - t by omega) (show 0 ≤ uLen u by omega)) (show 0 ≤ uLen u by omega)
    rw [e]
    unfold addR
    rw [if_pos h5, if_pos h5, e5]
    constructor
    · refine ⟨_, if_pos (isT_iff.2 (by omega)), by omega⟩
    · intro y hy
      split at hy
      · cases hy; omega
      · cases hy
  · obtain ⟨n0, hn0⟩ : ∃ n0 : Nat, (mDiff t b / uLen u).toNat = n0 := ⟨_, rfl⟩
    have e : btw t b u = (down (fitsU t b u) n0 : Nat) := by unfold btw; rw [if_neg h5, hn0]
    have h0 := mDiff_nonneg t b ht hb h
    have hz : fitsU t b u 0 = true := by
      have : addR t 0 u = some t := by unfold addR; rw [if_neg h5, Int.zero_mul]; exact addM_0 t ht
      rw [fitsU_some this]
      simpa using h
    have hf := down_fits (fitsU t b u) hz n0
    rw [e]
    constructor
    · unfold fitsU at hf
      split at hf
      · rename_i x hx
        exact ⟨x, hx, by simpa using hf⟩
      · cases hf
    · intro y hy
      have hno : fitsU t b u ((down (fitsU t b u) n0 : Nat) + 1 : Int) = false := by
        have hle := down_le (fitsU t b u) n0
        by_cases hlt : down (fitsU t b u) n0 < n0
        · have := down_not (fitsU t b u) n0 (down (fitsU t b u) n0 + 1) (by omega) (by omega)
          simpa using this
        · have hd : down (fitsU t b u) n0 = n0 := by omega
          rw [hd]
          refine fits_far t b _ u ht hb (by omega) ?_
          rcases uLen_mon u (by omega) with e1 | e1
          · rw [e1] at hn0 ⊢; omega
          · rw [e1] at hn0 ⊢; omega
      rw [fitsU_some hy] at hno
      simpa using hno
end Go.Proofs.YtcgabonoddloiaaDoor
