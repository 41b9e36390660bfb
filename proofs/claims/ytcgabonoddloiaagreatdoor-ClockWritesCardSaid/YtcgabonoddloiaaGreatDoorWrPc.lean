/- The pieces of any form, in plain words, and how they lie in memory. -/
import Derived.Test.YtcgabonoddloiaaGreatDoorWrLet1
import Derived.Laws.OwnMore
namespace Go.Proofs.YtcgabonoddloiaaGreatDoor.Wr
open Go.RowKit Clk Go.ChangeMaps

inductive Pc
  | plain (c : UInt8)
  | part (c : UInt8)

def isLet (c : UInt8) : Bool := parts.any fun x => x.2.2 == (c.toNat : Int)
theorem isLet_yes {c : UInt8} (h : isLet c = true) : ∃ x ∈ parts, x.2.2 = (c.toNat : Int) := by
  unfold isLet at h
  rw [List.any_eq_true] at h
  obtain ⟨x, hx, e⟩ := h
  exact ⟨x, hx, by simpa using e⟩
theorem isLet_no {c : UInt8} (h : isLet c = false) : ∀ x ∈ keys, x.2 ≠ (c.toNat : Int) := by
  intro x hx e
  obtain ⟨y, hy, e2⟩ := (by decide : ∀ x ∈ keys, ∃ y ∈ parts, y.2.2 = x.2) x hx
  have : isLet c = true := by
    unfold isLet
    rw [List.any_eq_true]
    exact ⟨y, hy, by simp [e2, e]⟩
  rw [h] at this
  cases this

def dPcs : List Pc := [.part 109, .plain 47, .part 100, .plain 47, .part 89]
def tPcs : List Pc := [.part 72, .plain 58, .part 77, .plain 58, .part 83]
/-- The pieces of a form; with 'nest', D and T stand for what they are. -/
def piecesOf (nest : Bool) : List UInt8 → Option (List Pc)
  | [] => some []
  | [c] => if c = 37 then none else some [.plain c]
  | c :: d :: r =>
    if c = 37 then
      if isLet d = true then (piecesOf nest r).map (.part d :: ·)
      else if d = 37 then (piecesOf nest r).map (.plain 37 :: ·)
      else if nest = true ∧ d = 68 then (piecesOf nest r).map (dPcs ++ ·)
      else if nest = true ∧ d = 84 then (piecesOf nest r).map (tPcs ++ ·)
      else none
    else (piecesOf nest (d :: r)).map (.plain c :: ·)

/-- The four cells of a piece; what it has captured lies from B on, and not in the block own. -/
def Good (own : Option Nat) (B : Nat) (w : World) (cs : List Value) : Pc → Prop
  | .plain c => cs = [.int .u8 0, .string ⟨#[c]⟩, .nilFunc, .nilFunc]
  | .part c => isLet c = true ∧ ∃ wf rf lo hi, cs = [.int .u8 c.toNat, .string ⟨#[]⟩, wf, rf] ∧ LetIs lo hi (.agg #[wf, rf]) w c.toNat ∧ B ≤ lo ∧ ∀ k, own = some k → k < lo ∨ hi ≤ k

theorem Good.length {own : Option Nat} {B : Nat} {w : World} {cs : List Value} {p : Pc} (h : Good own B w cs p) : cs.length = 4 := by
  cases p with
  | plain c => rw [show cs = _ from h]; rfl
  | part x => obtain ⟨_, wf, rf, lo, hi, e, _⟩ := h; rw [e]; rfl

inductive RowsAre (own : Option Nat) (B : Nat) (w : World) : List Value → List Pc → Prop
  | nil : RowsAre own B w [] []
  | cons {cs xs : List Value} {p : Pc} {ps : List Pc} : Good own B w cs p → RowsAre own B w xs ps → RowsAre own B w (cs ++ xs) (p :: ps)

theorem RowsAre.length {own : Option Nat} {B : Nat} {w : World} {xs : List Value} {ps : List Pc} (h : RowsAre own B w xs ps) : xs.length = ps.length * 4 := by
  induction h with
  | nil => rfl
  | cons g _ ih => simp [g.length, ih]; omega
theorem RowsAre.append {own : Option Nat} {B : Nat} {w : World} {xs ys : List Value} {ps qs : List Pc} (h : RowsAre own B w xs ps) (k : RowsAre own B w ys qs) : RowsAre own B w (xs ++ ys) (ps ++ qs) := by
  induction h with
  | nil => exact k
  | cons g _ ih => rw [List.append_assoc]; exact .cons g ih
theorem RowsAre.one {own : Option Nat} {B : Nat} {w : World} {cs : List Value} {p : Pc} (g : Good own B w cs p) : RowsAre own B w cs [p] := by
  have := RowsAre.cons g .nil
  simpa using this
theorem RowsAre.imp {own own' : Option Nat} {B B' : Nat} {w w' : World} {xs : List Value} {ps : List Pc} (h : RowsAre own B w xs ps) (hg : ∀ cs p, Good own B w cs p → Good own' B' w' cs p) : RowsAre own' B' w' xs ps := by
  induction h with
  | nil => exact .nil
  | cons g _ ih => exact .cons (hg _ _ g) ih
theorem RowsAre.at {own : Option Nat} {B : Nat} {w : World} {xs : List Value} {ps : List Pc} (h : RowsAre own B w xs ps) : ∀ (j : Nat) (p : Pc), ps[j]? = some p → ∃ cs, Good own B w cs p ∧ ∀ i, i < 4 → xs[4 * j + i]? = cs[i]? := by
  induction h with
  | nil => intro j p hp; simp at hp
  | @cons cs xs q ps g _ ih =>
    intro j p hp
    cases j with
    | zero =>
      simp only [List.getElem?_cons_zero, Option.some.injEq] at hp
      subst hp
      exact ⟨cs, g, fun i hi => by rw [List.getElem?_append_left (by rw [g.length]; omega)]; simp⟩
    | succ j =>
      obtain ⟨ds, gd, hd⟩ := ih j p (by simpa using hp)
      refine ⟨ds, gd, fun i hi => ?_⟩
      rw [List.getElem?_append_right (by rw [g.length]; omega), g.length, ← hd i hi]
      congr 1
      omega

theorem RowsAre.one_cell {own : Option Nat} {B : Nat} {w : World} {xs : List Value} {ps : List Pc} (h : RowsAre own B w xs ps) : ∀ u ∈ xs, u.oneCell' = true := by
  induction h with
  | nil => intro u hu; simp at hu
  | @cons cs xs p ps g _ ih =>
    intro u hu
    rcases List.mem_append.1 hu with hu | hu
    · cases p with
      | plain c =>
        rw [show cs = _ from g] at hu
        simp at hu
        rcases hu with rfl | rfl | rfl | rfl <;> rfl
      | part x =>
        obtain ⟨_, wf, rf, lo, hi, e, hp, _⟩ := g
        obtain ⟨a, b, c, e2, ⟨h2, cap2, rfl⟩, _⟩ := hp.is
        rw [e] at hu
        cases e2
        simp at hu
        rcases hu with rfl | rfl | rfl | rfl <;> rfl
    · exact ih u hu

/-- A row was appended to: its own block or a new one. -/
theorem Good.grown {own own' : Option Nat} {B : Nat} {w w' : World} {cs : List Value} {p : Pc} (h : Good own B w cs p) (hg : w.grownBy w' own) (ho : ∀ k, own' = some k → own = some k ∨ w.heap.size ≤ k) : Good own' B w' cs p := by
  cases p with
  | plain c => exact h
  | part x =>
    obtain ⟨hx, wf, rf, lo, hi, e, hp, hB, hk⟩ := h
    refine ⟨hx, wf, rf, lo, hi, e, hp.kept (fun k h1 h2 _ => hg.block k (Nat.lt_of_lt_of_le h2 hp.le) (fun e => ?_)) hg.size, hB, fun k hk' => ?_⟩
    · rcases hk k e.symm with h | h <;> omega
    · rcases ho k hk' with h | h
      · exact hk k h
      · exact .inr (Nat.le_trans hp.le h)
/-- Only new blocks. -/
theorem Good.below {own : Option Nat} {B : Nat} {w w' : World} {cs : List Value} {p : Pc} (h : Good own B w cs p) (hb : Below w.heap.size w w') : Good own B w' cs p := by
  cases p with
  | plain c => exact h
  | part x =>
    obtain ⟨hx, wf, rf, lo, hi, e, hp, hB, hk⟩ := h
    exact ⟨hx, wf, rf, lo, hi, e, hp.below hb, hB, hk⟩
theorem Good.mono {own : Option Nat} {B B' : Nat} {w : World} {cs : List Value} {p : Pc} (h : Good own B w cs p) (hB : B' ≤ B) : Good own B' w cs p := by
  cases p with
  | plain c => exact h
  | part x =>
    obtain ⟨hx, wf, rf, lo, hi, e, hp, hB', hk⟩ := h
    exact ⟨hx, wf, rf, lo, hi, e, hp, Nat.le_trans hB hB', hk⟩
end Go.Proofs.YtcgabonoddloiaaGreatDoor.Wr
