/- Start of the program. -/
import Derived.Test.YtcgabonoddloiaaDoorBetwP
import Derived.Test.YtcgabonoddloiaaDoorWeek
import Derived.Laws.EntriesVeiled
namespace Go.Proofs.YtcgabonoddloiaaDoor
open Go.RowKit Clk

/-- The beginning of the unit in which a time lies. -/
def startOf (t : Int) (u : Nat) : Int :=
  if u < 5 then t - (t + 62135596800) % uLen u
  else if u = 5 then dTo (cYear (t / 86400)) (cMonth (t / 86400)) 1 * 86400
  else dTo (cYear (t / 86400)) 1 1 * 86400

theorem even_mul (t n : Int) (h : 0 < n) (h2 : n ≤ 604800) (t1 : -62135596800 ≤ t) (t2 : t ≤ 253402300799) : -70000000000 ≤ t / n * n ∧ t / n * n ≤ 300000000000 := by
  have e1 := Int.emod_add_mul_ediv t n
  have e2 := Int.emod_nonneg t (show n ≠ 0 by omega)
  have e3 := Int.emod_lt_of_pos t h
  have e4 : n * (t / n) = t / n * n := Int.mul_comm _ _
  omega

theorem even_is (t L : Int) (hL : L = 1 ∨ L = 60 ∨ L = 3600 ∨ L = 86400) : t / L * L = t - (t + 62135596800) % L := by
  rcases hL with rfl | rfl | rfl | rfl <;> omega

end Go.Proofs.YtcgabonoddloiaaDoor
