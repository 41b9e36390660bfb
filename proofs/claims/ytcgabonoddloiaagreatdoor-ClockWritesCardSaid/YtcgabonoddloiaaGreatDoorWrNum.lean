/- The letters of numbers: number's function of any function of a time. -/
import Derived.Test.YtcgabonoddloiaaGreatDoorCall
import Derived.Test.YtcgabonoddloiaaGreatDoorWeeks
import Derived.Test.YtcgabonoddloiaaGreatDoorDates5
namespace Go.Proofs.YtcgabonoddloiaaGreatDoor.Wr
open Go.RowKit Clk

/-- A function with a body. -/
def Enters (g : FuncId) : Prop := ∀ args w, (callFunc g args).run Tryz.prog w = .ok (.enter g args) w
theorem enters_of {g : FuncId} {fn : Func} (hf : Tryz.prog.funcs[g]? = some fn) (h1 : (fn.name == "runtime.NumGoroutine") = false) (h2 : fn.body.isNone = false) : Enters g := by
  intro args w
  have h1' : ¬ fn.name = "runtime.NumGoroutine" := by simpa using h1
  have h2' : ¬ fn.body = none := fun e => by rw [e] at h2; cases h2
  simp [callFunc, go_sem, hf, h1', h2']

set_option maxHeartbeats 800000 in
set_option maxRecDepth 100000 in
theorem number1_gen (g : FuncId) (hE : Enters g) (cap : Array Value) (t n : Int) (b c : Nat) (k : Nat) (B : Nat) (w : World)
    (hC : ∀ w1, Below w.heap.size w w1 → Calls Tryz.prog g (#[.int .i64 t] ++ cap) w1 fun e w' => e = .returned (.int .i64 n) ∧ Below w1.heap.size w1 w')
    (hb : w.cell? ⟨b, 0, none⟩ = some (.func (.func g) #[] cap)) (hc : w.cell? ⟨c, 0, none⟩ = some (.int .i64 k))
    (hbl : b < w.heap.size) (hcl : c < w.heap.size) (hk : k ≤ 4) (f0 : 0 ≤ n) (f1 : n ≤ 9999) (hP : Pow B w) (hB : B ≤ w.heap.size) :
    Calls Tryz.prog 104 #[.int .i64 t, .pointer (some ⟨b, 0, none⟩), .pointer (some ⟨c, 0, none⟩)] w fun e w' => e = .returned (.string ⟨(padB n k).toArray⟩) ∧ Below w.heap.size w w' := by
  have hcf : ∀ args w, (callFunc g args).run Tryz.prog w = .ok (.enter g args) w := hE
  have HC := Lib.hid hC
  have HP := Lib.hid hP
  clear hC hP hE
  go_enter Tryz.func104, Tryz.ntmps104
  go_wp2_with fail
  go_region_held3 (fun w' => w'.cell? ⟨b, 0, none⟩ = some (.func (.func g) #[] cap) ∧ w'.cell? ⟨c, 0, none⟩ = some (.int .i64 k) ∧ Below w.heap.size w w')
    ((go_split_ands; first
      | exact ⟨(hb2.cell (p := ⟨b, 0, none⟩) (Nat.lt_of_lt_of_le hbl (by have := hb1.size; simpa using this))).trans ((hb1.cell (p := ⟨b, 0, none⟩) hbl).trans hb), (hb2.cell (p := ⟨c, 0, none⟩) (Nat.lt_of_lt_of_le hcl (by have := hb1.size; simpa using this))).trans ((hb1.cell (p := ⟨c, 0, none⟩) hcl).trans hc), (Below.drewIn hb1).trans (hb2.mono (by have := hb1.size; simpa using this))⟩
      | exact ⟨(hb1.cell (p := ⟨b, 0, none⟩) hbl).trans hb, (hb1.cell (p := ⟨c, 0, none⟩) hcl).trans hc, (Below.drewIn hb1)⟩
      | exact ⟨hb, hc, (Below.refl _ _).drew⟩))
    ((go_split_ands; first
      | (refine (HC.out _ (Below.refl _ _).drew).mono ?_; rintro e w1 ⟨rfl, hb1⟩)
      | (go_at_call 105; refine (padded_any n k B _ f0 f1 hk (HP.out.to ((Below.drewIn hb1).mono hB)) (Nat.le_trans hB (by have := hb1.size; simpa using this))).mono ?_; rintro e w2 ⟨rfl, hb2⟩)))
  go_wp2
  go_ret
  exact ⟨rfl, (Below.drewIn hb1).trans (hb2.mono (by have := hb1.size; simpa using this))⟩
theorem enters_part1 : Enters 103 := enters_of Tryz.func103 (by kernel_rfl) (by kernel_rfl)
end Go.Proofs.YtcgabonoddloiaaGreatDoor.Wr
