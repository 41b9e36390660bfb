/- number, part, named of the program: what the letters are made of. -/
import Derived.Test.YtcgabonoddloiaaGreatDoorAt
import Derived.Laws.EntriesVeiled
namespace Go.Proofs.YtcgabonoddloiaaGreatDoor
open Go.RowKit Clk

/-- A function without captured variables. -/
def fv (g : FuncId) : Value := .func (.func g) #[] #[]
def at0 (b : Nat) : Value := .pointer (some ⟨b, 0, none⟩)

/-- The letter of a part of the date, in so many digits; what it has captured lies in the blocks from lo up to hi. -/
structure PartIs (lo hi : Nat) (v : Value) (w : World) (n : Int) (g : FuncId) : Prop where
  is : ∃ a b c, v = .agg #[.func (.func 104) #[] #[.pointer (some ⟨b, 0, none⟩), .pointer (some ⟨c, 0, none⟩)], .func (.func 106) #[] #[.pointer (some ⟨c, 0, none⟩)]] ∧ w.cell? ⟨b, 0, none⟩ = some (.func (.func 103) #[] #[.pointer (some ⟨a, 0, none⟩)]) ∧ w.cell? ⟨a, 0, none⟩ = some (.func (.func g) #[] #[]) ∧ w.cell? ⟨c, 0, none⟩ = some (.int .i64 n) ∧ (lo ≤ a ∧ a < hi) ∧ (lo ≤ b ∧ b < hi) ∧ (lo ≤ c ∧ c < hi)
  le : hi ≤ w.heap.size

/-- Only blocks outside have changed. -/
theorem PartIs.kept {lo hi : Nat} {v : Value} {w w' : World} {n : Int} {g : FuncId} (h : PartIs lo hi v w n g) (hb : ∀ k, lo ≤ k → k < hi → w'.heap[k]? = w.heap[k]?) (hs : w.heap.size ≤ w'.heap.size) : PartIs lo hi v w' n g := by
  obtain ⟨a, b, c, e, h1, h2, h3, la, lb, lc⟩ := h.is
  exact ⟨⟨a, b, c, e, (World.cell?_of_block (w := w) (hb b lb.1 lb.2)).trans h1, (World.cell?_of_block (w := w) (hb a la.1 la.2)).trans h2, (World.cell?_of_block (w := w) (hb c lc.1 lc.2)).trans h3, la, lb, lc⟩, Nat.le_trans h.le hs⟩
theorem PartIs.below {lo hi : Nat} {v : Value} {w w' : World} {n : Int} {g : FuncId} (h : PartIs lo hi v w n g) (hb : Below w.heap.size w w') : PartIs lo hi v w' n g :=
  h.kept (fun k _ hk => hb.block k (Nat.lt_of_lt_of_le hk h.le)) hb.size
theorem PartIs.wide {lo hi lo' hi' : Nat} {v : Value} {w : World} {n : Int} {g : FuncId} (h : PartIs lo hi v w n g) (hlo : lo' ≤ lo) (hhi : hi ≤ hi') (hw : hi' ≤ w.heap.size) : PartIs lo' hi' v w n g := by
  obtain ⟨a, b, c, e, h1, h2, h3, la, lb, lc⟩ := h.is
  exact ⟨⟨a, b, c, e, h1, h2, h3, by omega, by omega, by omega⟩, hw⟩

/-- A struct of two fields. -/
def Two (v : Value) : Prop := ∃ x y, v = .agg #[x, y]

set_option maxHeartbeats 400000 in
theorem number_at (n : Int) (F : Fn) (A C : Array Value) (w : World) :
    Calls Tryz.prog 90 #[.int .i64 n, .func F A C] w fun e w' => e = .returned (.agg #[.func (.func 104) #[] #[.pointer (some ⟨w.heap.size + 1, 0, none⟩), .pointer (some ⟨w.heap.size, 0, none⟩)], .func (.func 106) #[] #[.pointer (some ⟨w.heap.size, 0, none⟩)]]) ∧ Below w.heap.size w w' ∧ w'.cell? ⟨w.heap.size, 0, none⟩ = some (.int .i64 n) ∧ w'.cell? ⟨w.heap.size + 1, 0, none⟩ = some (.func F A C) ∧ w.heap.size + 1 < w'.heap.size := by
  go_enter Tryz.func90, Tryz.ntmps90
  go_wp2
  refine bodyPost_ret (v := .agg #[.func (.func 104) #[] #[.pointer (some ⟨w.heap.size + 1, 0, none⟩), .pointer (some ⟨w.heap.size, 0, none⟩)], .func (.func 106) #[] #[.pointer (some ⟨w.heap.size, 0, none⟩)]]) ?_ rfl ⟨rfl, ?_, ?_, ?_, ?_⟩
  · simp [results, Tryz.results90, go_sem]
  · exact ((((Below.refl _ _).alloc (Nat.le_refl _) _).alloc (by simp) _).alloc (by simp +arith) _)
  · simp [go_sem]
  · simp [go_sem]
  · simp

theorem two_of_number (n : Int) (F : Fn) (A C : Array Value) (w : World) :
    Calls Tryz.prog 90 #[.int .i64 n, .func F A C] w fun e w' => (∃ v, e = .returned v) ∧ Below w.heap.size w w' :=
  (number_at n F A C w).mono fun _ _ h => ⟨⟨_, h.1⟩, h.2.1⟩

set_option maxHeartbeats 400000 in
theorem part_any (n : Int) (g : FuncId) (w : World) :
    Calls Tryz.prog 80 #[.int .i64 n, .func (.func g) #[] #[]] w fun e w' => ∃ v, e = .returned v ∧ PartIs w.heap.size w'.heap.size v w' n g ∧ Below w.heap.size w w' := by
  go_enter Tryz.func80, Tryz.ntmps80
  go_wp2_with fail
  refine (number_at _ _ _ _ _).mono ?_
  rintro e w1 ⟨rfl, hb1, hc1, hc2, hs1⟩
  obtain ⟨hc, hf⟩ := bcell hb1
  have hz : w.heap.size + 1 < w1.heap.size := by have := hb1.size; simp at this; omega
  go_wp2
  simp at hc1 hc2 hs1
  refine bodyPost_ret (v := .agg #[.func (.func 104) #[] #[.pointer (some ⟨w.heap.size + 1 + 1 + 1, 0, none⟩), .pointer (some ⟨w.heap.size + 1 + 1, 0, none⟩)], .func (.func 106) #[] #[.pointer (some ⟨w.heap.size + 1 + 1, 0, none⟩)]]) ?_ rfl ⟨_, rfl, ⟨⟨w.heap.size, w.heap.size + 1 + 1 + 1, w.heap.size + 1 + 1, rfl, ?_, ?_, ?_, ?_, ?_, ?_⟩, Nat.le_refl _⟩, ?_⟩
  · simp [results, Tryz.results80, go_sem, hc]
  · simp [go_sem, hc2]
  · simp [go_sem, hc]
  · simp [go_sem, hc1]
  · constructor <;> first | omega | (simp; omega) | simp
  · constructor <;> first | omega | (simp; omega) | simp
  · constructor <;> first | omega | (simp; omega) | simp
  · have h0 := (((Below.refl w.heap.size w).alloc (Nat.le_refl _) (.cells #[.func (.func g) #[] #[]] 48)).alloc (by simp) (.cells #[.nilFunc, .nilFunc] 71)).trans (hb1.mono (by simp; omega))
    exact (h0.setCell (by simp) _).setCell (by simp) _

set_option maxHeartbeats 400000 in
theorem named_any (c n : Int) (F : Fn) (A C : Array Value) (w : World) :
    Calls Tryz.prog 97 #[.int .u8 c, .int .i64 n, .func F A C] w fun e w' => (∃ v, e = .returned v) ∧ Below w.heap.size w w' := by
  go_enter Tryz.func97, Tryz.ntmps97
  go_wp2
  refine bodyPost_ret (v := .agg #[.func (.func 110) #[] #[.pointer (some ⟨w.heap.size + 1 + 1 + 1 + 1, 0, none⟩), .pointer (some ⟨w.heap.size, 0, none⟩), .pointer (some ⟨w.heap.size + 1 + 1, 0, none⟩)], .func (.func 112) #[] #[.pointer (some ⟨w.heap.size, 0, none⟩), .pointer (some ⟨w.heap.size + 1 + 1 + 1 + 1, 0, none⟩)]]) ?_ rfl ⟨⟨_, rfl⟩, ?_⟩
  · simp [results, Tryz.results97, go_sem]
  · exact ((((((Below.refl _ _).alloc (Nat.le_refl _) _).alloc (by simp) _).alloc (by simp +arith) _).alloc (by simp +arith) _).alloc (by simp +arith) _)
end Go.Proofs.YtcgabonoddloiaaGreatDoor
