/- What owns a row is a slice; maps outlive what grows. -/
import Derived.Test.YtcnmblfdieegfaaMapOps
namespace Go.Proofs.Ytcnmblfdieegfaa
open Go.RowKit Go.ChangeMaps

theorem slice_of_own {w : World} {base : Nat} {e : TypeId} {size n : Nat} {v : Value} {xs : List Value} (h : w.ownsRow base e size v n xs) : ∃ ao c, v = .slice ao n c := by
  rcases h.2 with ⟨rfl, rfl⟩ | ⟨g, cap, cur, rfl, _⟩
  · exact ⟨_, _, rfl⟩
  · exact ⟨_, _, rfl⟩

theorem HasM.grown {w w' : World} {g : Nat} {es : Array MapEntry} {c : Nat} {row : Option Nat} (h : HasM w g es c) (hb : w.grownBy w' row) (hg : some g ≠ row) : HasM w' g es c := (hb.block g h.lt hg).trans h
end Go.Proofs.Ytcnmblfdieegfaa
