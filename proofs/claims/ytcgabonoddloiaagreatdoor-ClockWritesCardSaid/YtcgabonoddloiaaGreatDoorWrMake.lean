/- named and number of the program make letters. -/
import Derived.Test.YtcgabonoddloiaaGreatDoorWrNam
namespace Go.Proofs.YtcgabonoddloiaaGreatDoor.Wr
open Go.RowKit Clk

set_option maxHeartbeats 800000 in
theorem named_at (c n : Int) (g : FuncId) (cap : Array Value) (w : World) :
    Calls Tryz.prog 97 #[.int .u8 c, .int .i64 n, .func (.func g) #[] cap] w fun e w' => e = .returned (.agg #[.func (.func 110) #[] #[.pointer (some ⟨w.heap.size + 1 + 1 + 1 + 1, 0, none⟩), .pointer (some ⟨w.heap.size, 0, none⟩), .pointer (some ⟨w.heap.size + 1 + 1, 0, none⟩)], .func (.func 112) #[] #[.pointer (some ⟨w.heap.size, 0, none⟩), .pointer (some ⟨w.heap.size + 1 + 1 + 1 + 1, 0, none⟩)]]) ∧
      Below w.heap.size w w' ∧ w.heap.size + 4 < w'.heap.size ∧ w'.cell? ⟨w.heap.size, 0, none⟩ = some (.int .u8 c) ∧ w'.cell? ⟨w.heap.size + 1, 0, none⟩ = some (.int .i64 n) ∧ w'.cell? ⟨w.heap.size + 1 + 1, 0, none⟩ = some (.func (.func g) #[] cap) ∧ w'.cell? ⟨w.heap.size + 1 + 1 + 1 + 1, 0, none⟩ = some (.func (.func 109) #[] #[.pointer (some ⟨w.heap.size + 1, 0, none⟩)]) := by
  go_enter Tryz.func97, Tryz.ntmps97
  go_wp2
  refine bodyPost_ret (v := .agg #[.func (.func 110) #[] #[.pointer (some ⟨w.heap.size + 1 + 1 + 1 + 1, 0, none⟩), .pointer (some ⟨w.heap.size, 0, none⟩), .pointer (some ⟨w.heap.size + 1 + 1, 0, none⟩)], .func (.func 112) #[] #[.pointer (some ⟨w.heap.size, 0, none⟩), .pointer (some ⟨w.heap.size + 1 + 1 + 1 + 1, 0, none⟩)]]) ?_ rfl ⟨rfl, ?_, ?_, ?_, ?_, ?_, ?_⟩
  · simp [results, Tryz.results97, go_sem]
  · exact ((((((Below.refl _ _).alloc (Nat.le_refl _) _).alloc (by simp) _).alloc (by simp +arith) _).alloc (by simp +arith) _).alloc (by simp +arith) _)
  · simp
  · simp [go_sem]
  · simp [go_sem]
  · simp [go_sem]
  · simp [go_sem]

/-- A letter of names. -/
theorem named_let (c short key : Int) (g : FuncId) (cap : Array Value) (f : Int → Int) (lo : Nat) (w : World) (hE : Enters g) (hF : FnIs lo w.heap.size w g cap f) (hlo : lo ≤ w.heap.size) (hc : c = 66 ∨ c = 98 ∨ c = 65 ∨ c = 97 ∨ c = 112)
    (hf : ∀ t, isT t = true → 0 ≤ f t ∧ f t < ((nOf c).length : Nat)) (hs : short = 0 ∨ short = 3 ∧ ∀ l ∈ nOf c, 3 ≤ l.length) (ht : ∀ t, isT t = true → letText t key = cutB short ((nOf c).getD (f t).toNat [])) :
    Calls Tryz.prog 97 #[.int .u8 c, .int .i64 short, .func (.func g) #[] cap] w fun e w' => ∃ v, e = .returned v ∧ LetIs lo w'.heap.size v w' key ∧ Below w.heap.size w w' := by
  refine (named_at c short g cap w).mono ?_
  rintro e w' ⟨rfl, hb, hz, h1, h2, h3, h4⟩
  refine ⟨_, rfl, ⟨⟨_, _, _, rfl, ⟨_, _, rfl⟩, enters_named, fun w2 hk hs2 t B hT hP hB => ?_⟩, Nat.le_refl _⟩, hb⟩
  have cc : ∀ (k : Nat) (x : Value), w.heap.size ≤ k → k < w'.heap.size → w'.cell? ⟨k, 0, none⟩ = some x → w2.cell? ⟨k, 0, none⟩ = some x := fun k x a b h => (World.cell?_of_block (w := w') (hk k (by omega) b (NM.of_cell h))).trans h
  obtain ⟨f0, f1⟩ := hf t hT
  have hj : (f t).toNat < (nOf c).length := by omega
  rw [ht t hT]
  refine named2_any c short g cap t (f t).toNat _ _ _ (w.heap.size + 1) w2 hc hE hj ?_ (fun w3 hb3 => ?_) (cc _ _ (by omega) (by omega) h4) (cc _ _ (Nat.le_refl _) (by omega) h1) (cc _ _ (by omega) (by omega) h3) (cc _ _ (by omega) (by omega) h2) (by omega) (by omega) (by omega) (by omega)
  · rcases hs with h | ⟨h, hl⟩
    · exact .inl h
    · exact .inr ⟨h, hl _ (getD_mem _ _ hj)⟩
  · have := hF w3 (fun k a b n => ((hb3.block k (by omega)).trans (hk k a (by omega) (n.to (hb.block k b)))).trans (hb.block k b)) (by have := hb3.size; omega) t hT
    rw [show ((f t).toNat : Int) = f t by omega]
    exact this

/-- A letter of number. -/
theorem number_new (k : Nat) (hk : k ≤ 4) (key : Int) (g : FuncId) (cap : Array Value) (f : Int → Int) (lo : Nat) (w : World) (hE : Enters g) (hF : FnIs lo w.heap.size w g cap f) (hlo : lo ≤ w.heap.size)
    (hf : ∀ t, isT t = true → 0 ≤ f t ∧ f t ≤ 9999) (ht : ∀ t, isT t = true → letText t key = padB (f t) k) :
    Calls Tryz.prog 90 #[.int .i64 k, .func (.func g) #[] cap] w fun e w' => ∃ v, e = .returned v ∧ LetIs lo w'.heap.size v w' key ∧ Below w.heap.size w w' := by
  refine (number_at k (.func g) #[] cap w).mono ?_
  rintro e w' ⟨rfl, hb, h1, h2, hz⟩
  refine ⟨_, rfl, number_let k key g cap f w.heap.size (w.heap.size + 1) lo w'.heap.size _ w' hE (fun w2 hk2 hs2 t hT => ?_) hf ht hk h2 h1 (by omega) (by omega) ⟨_, _, rfl⟩ (Nat.le_refl _), hb⟩
  exact hF w2 (fun k a b n => (hk2 k a (by omega) (n.to (hb.block k b))).trans (hb.block k b)) (by omega) t hT
end Go.Proofs.YtcgabonoddloiaaGreatDoor.Wr
