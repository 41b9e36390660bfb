/- date of the reference: year by year, month by month. -/
import Derived.Test.YtcgabonoddloiaaDoorRef
import Derived.Test.YtcgabonoddloiaaDoorHas
import Derived.Deep.LoopGhost
import Derived.Deep.CutBlock
namespace Go.Proofs.YtcgabonoddloiaaDoor
open Go.RowKit Clk

/-- What the loops find is the date. -/
theorem at_of (t y m D : Int) (_ht : -62135596800 ≤ t) (y1 : 1 ≤ y) (m1 : 1 ≤ m) (m2 : m ≤ 12) (l0 : 0 ≤ (t + 62135596800) / 86400 - dby y - cum y m) (l1 : (t + 62135596800) / 86400 - dby y - cum y m < dim y m) (hD : D = (t + 62135596800) / 86400 - dby y - cum y m + 1) :
    AtIs t y m D ((t + 62135596800) % 86400 / 3600) ((t + 62135596800) % 86400 / 60 % 60) ((t + 62135596800) % 86400 % 60) := by
  have e1 : (t + 62135596800) / 86400 = t / 86400 + 719162 := by omega
  have e2 : (t + 62135596800) % 86400 = t % 86400 := by omega
  have hday : IsDay y m D := ⟨y1, m1, m2, by omega, by omega⟩
  obtain ⟨a, b, c⟩ := civ_eq (t / 86400) y m D hday (by unfold num; omega)
  exact ⟨a, b, c, by rw [e2], by rw [e2], by rw [e2]⟩

end Go.Proofs.YtcgabonoddloiaaDoor
