/- Time of the reference; what dates and times tell of each other. -/
import Derived.Test.YtcgabonoddloiaaDoorDates4
namespace Go.Proofs.YtcgabonoddloiaaDoor
open Go.RowKit Clk

theorem tOf_num (y m d h i s : Int) (m1 : 1 ≤ m) (m2 : m ≤ 12) : -62135596800 + num y m d * 86400 + h * 3600 + i * 60 + s = tOf y m d h i s := by
  have := dTo_num y m d m1 m2
  unfold tOf
  omega

theorem num_bd9 {y m d : Int} (h : IsDay y m d) (y2 : y ≤ 9999) : 0 ≤ num y m d ∧ num y m d ≤ 3652058 := by
  have a := num_lo h
  have b := num_hi h
  have c := dby_mono 1 y h.1
  have e := dby_mono (y + 1) 10000 (by omega)
  have f := dby_1
  have g : dby 10000 = 3652059 := by decide
  omega

theorem at_valid (t Y M D h i s : Int) (ht : isT t = true) (A : AtIs t Y M D h i s) : vB Y M D h i s = true ∧ tOf Y M D h i s = t := by
  have hb := isT_iff.1 ht
  obtain ⟨a1, a2, a3, a4, a5, a6⟩ := A
  obtain ⟨c, c6⟩ := civ (t / 86400) (by omega)
  rw [a1, a2, a3] at c c6
  have hd := dTo_num Y M D c.2.1 c.2.2.1
  have hY : Y ≤ 9999 := by
    by_cases h9 : Y ≤ 9999
    · exact h9
    · exfalso
      have k1 := num_lo c
      have k2 := dby_mono 10000 Y (by omega)
      have k3 : dby 10000 = 3652059 := by decide
      omega
  obtain ⟨c1, c2, c3, c4, c5⟩ := c
  refine ⟨vB_iff.2 ⟨c1, hY, c2, c3, c4, c5, ?_⟩, ?_⟩
  · omega
  · unfold tOf
    rw [hd, c6, ← a4, ← a5, ← a6]
    omega

theorem valid_at (y m d h i s : Int) (hv : vB y m d h i s = true) : isT (tOf y m d h i s) = true ∧ AtIs (tOf y m d h i s) y m d h i s := by
  obtain ⟨y1, y2, m1, m2, d1, d2, h1, h2, i1, i2, s1, s2⟩ := vB_iff.1 hv
  have hn := num_bd9 ⟨y1, m1, m2, d1, d2⟩ y2
  have hd := dTo_num y m d m1 m2
  obtain ⟨Y, M, D, hh, ii, ss, A⟩ := atIs (tOf y m d h i s)
  have hb := (back_iff y m d h i s _ Y M D hh ii ss y1 y2 m1 m2 (by omega) h1 i1 s1 rfl A).1 hv
  obtain ⟨rfl, rfl, rfl, rfl, rfl, rfl⟩ := hb
  exact ⟨isT_iff.2 (by unfold tOf; omega), A⟩

end Go.Proofs.YtcgabonoddloiaaDoor
