/- Rows of bytes that a call has made; small and great letters; Lower, Upper, Reverse of the program. -/
import Derived.Test.YtneklmalkmeohaaWrite
import Derived.Test.YtneklmalkmeohaaPlain
import Derived.Laws.IdiomStrings
import Derived.Deep.LoopGhost
import Derived.OwnWalk
namespace Go.Proofs.Ytneklmalkmeohaa
open Go.RowKit Go.Lib

/-- A row of bytes in a block of its own; behind them may be others. -/
def BRow (w : World) (g : Nat) (xs : List UInt8) : Prop :=
  ∃ (rest : List Value) (fz : Nat × Nat), w.heap[g]? = some (.cells (byteCells xs ++ rest).toArray 5 fz) ∧ (fz = (0, 0) ∨ xs.length ≤ fz.1)

section
variable {w : World} {g : Nat} {xs : List UInt8}
theorem BRow.lt (h : BRow w g xs) : g < w.heap.size := by
  obtain ⟨rest, fz, h, _⟩ := h
  exact (Array.getElem?_eq_some_iff.1 h).1
theorem BRow.cell (h : BRow w g xs) (j : Nat) (hj : j < xs.length) : w.cell? ⟨g, j, none⟩ = some (.int .u8 (xs[j].toNat : Int)) := by
  obtain ⟨rest, fz, h, _⟩ := h
  rw [Lib.cell_of_heap h]
  simp [byteCells, List.getElem?_append, hj]
theorem BRow.free (h : BRow w g xs) (j : Nat) (hj : j < xs.length) : w.frozen? ⟨g, j, none⟩ = false := by
  obtain ⟨rest, fz, h, hf⟩ := h
  unfold World.frozen?
  simp only [h]
  rcases hf with rfl | hf
  · simp
  · simp
    omega
theorem BRow.put (h : BRow w g xs) (j : Nat) (b : UInt8) (hj : j < xs.length) : BRow (w.setCell ⟨g, j, none⟩ (.int .u8 (b.toNat : Int))) g (xs.set j b) := by
  obtain ⟨rest, fz, h, hf⟩ := h
  refine ⟨rest, fz, ?_, by simpa using hf⟩
  simp only [World.setCell, Array.getElem?_modify, h]
  simp [byteCells, hj, List.map_set]
theorem BRow.drew (h : BRow w g xs) : BRow w.drew g xs := h
theorem BRow.conv (h : BRow w g xs) (cap : Nat) : (convert 56 9 (.slice (some ⟨g, 0, none⟩) xs.length cap)).run Try.prog w = .ok (.string ⟨xs.toArray⟩) w :=
  run_convert_bytes_back w 56 9 5 ⟨g, 0, none⟩ cap xs Try.underlying56 Try.underlying5 Try.underlying9 (fun j hj => by
    rw [Addr.add_lit, Nat.zero_add]
    exact h.cell j hj)
end

/-- A small letter; a great one. -/
def smallOf (c : UInt8) : UInt8 := if 65 ≤ c.toNat ∧ c.toNat ≤ 90 then c + 32 else c
def greatOf (c : UInt8) : UInt8 := if 97 ≤ c.toNat ∧ c.toNat ≤ 122 then c - 32 else c

theorem small_any (c : UInt8) (w : World) : Calls Try.prog 60 #[.int .u8 (c.toNat : Int)] w fun e w' => e = .returned (.int .u8 ((smallOf c).toNat : Int)) ∧ w = w' := by
  have hc := c.toNat_lt
  by_cases h1 : 65 ≤ c.toNat
  · by_cases h2 : c.toNat ≤ 90
    · have H := Lib.hid (show ((smallOf c).toNat : Int) = (c.toNat : Int) + 97 - 65 by
        unfold smallOf
        rw [if_pos ⟨h1, h2⟩, UInt8.toNat_add]
        simp
        omega)
      have g1 : (c.toNat : Int) ≥ 65 := by omega
      have g2 : (c.toNat : Int) ≤ 90 := by omega
      clear h1 h2
      go_enter Try.func60, Try.ntmps60
      go_wp2
      go_ret
      exact ⟨by rw [H.out]; rfl, rfl⟩
    · have H := Lib.hid (show smallOf c = c by unfold smallOf; rw [if_neg (fun h => h2 h.2)])
      have g1 : (c.toNat : Int) ≥ 65 := by omega
      have g2 : ¬ (c.toNat : Int) ≤ 90 := by omega
      clear h1 h2
      go_enter Try.func60, Try.ntmps60
      go_wp2
      go_ret
      exact ⟨by rw [H.out]; rfl, rfl⟩
  · have H := Lib.hid (show smallOf c = c by unfold smallOf; rw [if_neg (fun h => h1 h.1)])
    have g1 : ¬ (c.toNat : Int) ≥ 65 := by omega
    clear h1
    go_enter Try.func60, Try.ntmps60
    go_wp2
    go_ret
    exact ⟨by rw [H.out]; rfl, rfl⟩

theorem great_any (c : UInt8) (w : World) : Calls Try.prog 62 #[.int .u8 (c.toNat : Int)] w fun e w' => e = .returned (.int .u8 ((greatOf c).toNat : Int)) ∧ w = w' := by
  have hc := c.toNat_lt
  by_cases h1 : 97 ≤ c.toNat
  · by_cases h2 : c.toNat ≤ 122
    · have H := Lib.hid (show ((greatOf c).toNat : Int) = (c.toNat : Int) - 97 + 65 by
        unfold greatOf
        rw [if_pos ⟨h1, h2⟩, UInt8.toNat_sub]
        simp
        omega)
      have g1 : (c.toNat : Int) ≥ 97 := by omega
      have g2 : (c.toNat : Int) ≤ 122 := by omega
      clear h1 h2
      go_enter Try.func62, Try.ntmps62
      go_wp2
      go_ret
      exact ⟨by rw [H.out]; rfl, rfl⟩
    · have H := Lib.hid (show greatOf c = c by unfold greatOf; rw [if_neg (fun h => h2 h.2)])
      have g1 : (c.toNat : Int) ≥ 97 := by omega
      have g2 : ¬ (c.toNat : Int) ≤ 122 := by omega
      clear h1 h2
      go_enter Try.func62, Try.ntmps62
      go_wp2
      go_ret
      exact ⟨by rw [H.out]; rfl, rfl⟩
  · have H := Lib.hid (show greatOf c = c by unfold greatOf; rw [if_neg (fun h => h1 h.1)])
    have g1 : ¬ (c.toNat : Int) ≥ 97 := by omega
    clear h1
    go_enter Try.func62, Try.ntmps62
    go_wp2
    go_ret
    exact ⟨by rw [H.out]; rfl, rfl⟩

end Go.Proofs.Ytneklmalkmeohaa
