/- Whether two slices of texts are the same. -/
import Derived.Test.YtcnmblfdieegfaaParts1
import Derived.RegionTactic
import Derived.ChangeAlike
namespace Go.Proofs.Ytcnmblfdieegfaa
open Go.RowKit Go.Lib

/-- The texts of a slice. -/
def Texts (W : World) (ao : Option Addr) (ps : List (List UInt8)) : Prop := ∀ i (h : i < ps.length), ∃ a, ao = some a ∧ W.cell? (a.add i) = some (.string ⟨ps[i].toArray⟩)
theorem Texts.of_own {w : World} {base cap : Nat} {ao : Option Addr} {ps : List (List UInt8)} (h : w.ownsRow base 9 1 (.slice ao ps.length cap) ps.length (partCells ps)) : Texts w ao ps := by
  intro i hi
  rcases h.2 with ⟨_, h0⟩ | ⟨g, cap', cur, hv, -, hg, -, -, -, hcur⟩
  · omega
  · cases hv
    refine ⟨_, rfl, ?_⟩
    have e : (Addr.add ⟨g, 0, none⟩ i) = ⟨g, i, none⟩ := by unfold Addr.add; split <;> simp_all
    rw [e, cell_of_row w g i cur 9 (0, 0) hg]
    have h1 : (cur.toList.take (ps.length * 1))[i]? = (partCells ps)[i]? := by rw [hcur]
    rw [List.getElem?_take_of_lt (by omega)] at h1
    rw [← Array.getElem?_toList, h1]
    simp [partCells, hi]

theorem Texts.below {W W' : World} {ao : Option Addr} {ps : List (List UInt8)} (h : Texts W ao ps) (hb : Below W.heap.size W W') : Texts W' ao ps := fun i hi => by
  obtain ⟨a, e, hc⟩ := h i hi
  exact ⟨a, e, (hb.cell (World.block_lt_of_cell? W _ hc)).trans hc⟩
set_option maxHeartbeats 1600000 in
theorem same_any (ps qs : List (List UInt8)) (ao bo : Option Addr) (c1 c2 : Nat) (w : World) (hp : ps.length ≤ 100000) (hP : Texts w ao ps) (hQ : Texts w bo qs) :
    Calls Try.prog 10 #[.slice ao ps.length c1, .slice bo qs.length c2] w fun e w' => e = .returned (.bool (decide (ps = qs))) ∧ Below w.heap.size w w' := by
  go_enter Try.func10, Try.ntmps10
  by_cases hl : ps.length = qs.length
  · have hl1 : (ps.length : Int) = (qs.length : Int) := by omega
    go_wp2
    go_loopg [13] ps.length (fun g v13 wx => ∃ i : Nat, v13 = .int .i64 i ∧ i ≤ ps.length ∧ ps.length ≤ i + g ∧ ps.take i = qs.take i ∧ Below w.heap.size w wx)
    case atStart => exact ⟨0, rfl, Nat.zero_le _, by omega, rfl, Below.refl _ _⟩
    case round =>
      obtain ⟨i, rfl, hi, hg, ht, hbx⟩ := hrel
      by_cases hin : i < ps.length
      · have hin1 : (i : Int) < (ps.length : Int) := by omega
        have hin2 : (i : Int) < (qs.length : Int) := by omega
        have hi0 : (0 : Int) ≤ (i : Int) := by omega
        obtain ⟨a, rfl, ha⟩ := (hP.below hbx) i hin
        obtain ⟨b, rfl, hb⟩ := (hQ.below hbx) i (by omega)
        obtain ⟨A, hA⟩ : ∃ A : ByteArray, (⟨ps[i].toArray⟩ : ByteArray) = A := ⟨_, rfl⟩
        obtain ⟨B, hB⟩ : ∃ B : ByteArray, (⟨qs[i].toArray⟩ : ByteArray) = B := ⟨_, rfl⟩
        rw [hA] at ha
        rw [hB] at hb
        have hget : (ps[i] = qs[i]) ↔ A = B := by
          rw [← hA, ← hB]
          exact ⟨fun e => by rw [e], fun e => by simpa using congrArg (fun x : ByteArray => x.data.toList) e⟩
        have HGET := Lib.hid hget
        have HT := Lib.hid ht
        have HB := Lib.hid hbx
        clear hget ht hA hB hbx
        by_cases hAB : A = B
        · have hE : (A.toList == B.toList) = true := by rw [hAB]; exact beq_self_eq_true _
          obtain ⟨g, rfl⟩ : ∃ g, gk = g + 1 := ⟨gk - 1, by omega⟩
          go_wp2
          go_region
          all_goals go_wp2
          all_goals go_roundg g
          case measure => omega
          case rel =>
            refine ⟨i + 1, by push_cast; rfl, by omega, by omega, ?_, ?_⟩
            · rw [List.take_succ_eq_append_getElem hin, List.take_succ_eq_append_getElem (by omega), HT.out, HGET.out.2 hAB]
            · exact HB.out.trans ⟨rfl, rfl, rfl, Nat.le_refl _, fun _ _ => rfl⟩
        · have hE : (A.toList == B.toList) = false := by
            rw [toList_data, toList_data, beq_eq_false_iff_ne]
            exact fun e => hAB (ByteArray.ext (Array.toList_inj.1 e))
          have hpq : ¬ ps = qs := fun e => hAB (HGET.out.1 (by simp [e]))
          go_wp2
          go_region
          all_goals go_wp2
          all_goals go_ret
          all_goals exact ⟨by simp [hpq], HB.out.trans ⟨rfl, rfl, rfl, Nat.le_refl _, fun _ _ => rfl⟩⟩
      · have hin1 : ¬ (i : Int) < (ps.length : Int) := by omega
        have hpq : ps = qs := by rw [← List.take_of_length_le (by omega : ps.length ≤ i), ht, List.take_of_length_le (by omega)]
        go_wp2
        go_ret
        exact ⟨by simp, hbx⟩
  · have hl1 : ¬ (ps.length : Int) = (qs.length : Int) := by omega
    have hpq : ¬ ps = qs := fun e => hl (by rw [e])
    go_wp2
    go_ret
    exact ⟨by simp [hpq], Below.refl _ _⟩
end Go.Proofs.Ytcnmblfdieegfaa
