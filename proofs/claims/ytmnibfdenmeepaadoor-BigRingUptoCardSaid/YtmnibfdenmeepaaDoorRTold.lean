/- told of the reference, with no others; Canonical, Valid of the reference. -/
import Derived.Test.YtmnibfdenmeepaaDoorRNumb
import Derived.Test.YtmnibfdenmeepaaDoorCalls
namespace Go.Proofs.YtmnibfdenmeepaaDoor
open Go.RowKit Go.Shelf Big

/-- What is told of a number that lies in decimal digits. -/
def toldS (s : Bool) (n : Nat) : List UInt8 × Int := if tooL n then ([], 4) else (txtS s n, 0)
theorem toldS_sg (s : Bool) (n : Nat) : toldS s n = told (sgI s n) := by
  unfold toldS told
  rw [sg_abs, txtS_sg]
theorem dec_short {n : Nat} (h : tooL n = false) : (lims 10 n).length ≤ 10000 := by
  rw [tool_len] at h
  have := of_decide_eq_false h
  omega
set_option maxRecDepth 100000 in
set_option maxHeartbeats 2000000 in
theorem rTold_none (B n : Nat) (s : Bool) (v : Value) (w : World) (h : DecIs w B v n) :
    Calls Tryd.prog 56 #[.agg #[.bool s, v], .slice none 0 0] w fun e w' => e = retS (toldS s n) ∧ Below w.heap.size w w' := by
  obtain ⟨av, c, rfl⟩ := h.slice
  have HL := Lib.hid (fun W (hW : Below w.heap.size w W) => rLong_any B n s _ W (h.kept hW))
  have HX := Lib.hid (fun (ht : tooL n = false) W (hW : Below w.heap.size w W) => rText_any B n s _ W (h.kept hW) (dec_short ht))
  have hRet : retS (toldS s n) = if tooL n then .returned (.tuple #[.string ⟨#[]⟩, .int .i64 4]) else .returned (.tuple #[.string ⟨(txtS s n).toArray⟩, .int .i64 0]) := by
    unfold toldS retS
    cases tooL n <;> rfl
  have HRet := Lib.hid hRet
  clear hRet h
  revert HL HX HRet
  generalize (lims 10 n).length = l
  intro HL HX HRet
  have hB : ∀ o, Below w.heap.size w (w.alloc o) := fun o => (Below.refl _ w).alloc (Nat.le_refl _) o
  have HB := Lib.hid hB
  clear hB
  go_enter Tryd.func56, Tryd.ntmps56
  go_wp2_with fail
  go_loopg [10] 0 (fun g v wx => v = .int .i64 0 ∧ wx = w.alloc (.cells #[.bool s, .slice av l c] 51))
  case atStart => exact ⟨rfl, rfl⟩
  case round =>
    obtain ⟨rfl, rfl⟩ := hrel
    go_wp2_with fail
    refine (HL.out _ (HB.out _)).mono ?_
    rintro e w2 ⟨rfl, hb2⟩
    have hB2 := Below.behind (HB.out (.cells #[.bool s, .slice av l c] 51)) hb2
    have c0 : w2.cell? ⟨w.heap.size, 0, none⟩ = some (.bool s) := Has.cell ((Has.new w 51 #[.bool s, .slice av l c]).below hb2) 0
    have c1 : w2.cell? ⟨w.heap.size, 1, none⟩ = some (.slice av l c) := Has.cell ((Has.new w 51 #[.bool s, .slice av l c]).below hb2) 1
    have HB2 := Lib.hid hB2
    clear hb2 hB2
    cases ht : tooL n with
    | true =>
      have HR := Lib.hid (show retS (toldS s n) = .returned (.tuple #[.string ⟨#[]⟩, .int .i64 4]) by rw [HRet.out, ht]; rfl)
      clear ht
      go_wp2
      go_ret2
      exact ⟨HR.out.symm, HB2.out⟩
    | false =>
      have HR := Lib.hid (show retS (toldS s n) = .returned (.tuple #[.string ⟨(txtS s n).toArray⟩, .int .i64 0]) by rw [HRet.out, ht]; rfl)
      have HX2 := Lib.hid (HX.out ht)
      clear ht
      go_wp2_with fail
      refine (HX2.out _ HB2.out).mono ?_
      rintro e w3 ⟨rfl, hb3⟩
      have HB3 := Lib.hid (Below.behind HB2.out hb3)
      clear hb3
      go_wp2
      go_ret2
      exact ⟨HR.out.symm, HB3.out⟩

theorem le_far {a b : Nat} (h : a ≤ b) : 10 ^ a ≤ 10 ^ b := Nat.pow_le_pow_right (by omega) h
theorem lim_far : lim600 ≤ 10 ^ k1200 := le_far (show k600 ≤ k1200 by decide)
theorem tool_yes {n : Nat} (h : lim600 ≤ n) : tooL n = true := decide_eq_true h
theorem tells_tool {n : Nat} {z : Int} (h : Tells n z) : tooL n = tooL z.natAbs := by
  rcases h with rfl | ⟨h1, h2⟩
  · rfl
  · have e1 : tooL n = true := tool_yes (Nat.le_trans lim_far h1)
    have e2 : tooL z.natAbs = true := tool_yes (Nat.le_trans lim_far (Nat.le_trans h1 h2))
    rw [e1, e2]
theorem tells_is {n : Nat} {z : Int} (h : Tells n z) (ht : tooL z.natAbs = false) : n = z.natAbs := by
  rcases h with rfl | ⟨h1, h2⟩
  · rfl
  · have e2 : tooL z.natAbs = true := tool_yes (Nat.le_trans lim_far (Nat.le_trans h1 h2))
    rw [ht] at e2
    cases e2
theorem tells_told {n : Nat} {z : Int} (h : Tells n z) : toldS (decide (z < 0)) n = if tooL z.natAbs then ([], 4) else told z := by
  cases ht : tooL z.natAbs with
  | true =>
    unfold toldS
    rw [tells_tool h, ht, if_pos rfl, if_pos rfl]
  | false =>
    rw [tells_is h ht, toldS_sg, sg_z, if_neg (by simp)]

set_option maxRecDepth 100000 in
set_option maxHeartbeats 2000000 in
theorem rCanonical_any (a : ByteArray) (w : World) (ha : a.size ≤ 1000000000000) :
    Calls Tryd.prog 13 #[.string a] w fun e w' => e = retS (oneS (fun x => x) a.data.toList) ∧ Below w.heap.size w w' := by
  have HN := Lib.hid (rNumber_any a w ha)
  go_enter Tryd.func13, Tryd.ntmps13
  go_wp2_with fail
  refine HN.out.mono ?_
  rintro e w1 ⟨hn, hb1⟩
  obtain ⟨v, n, sg, rfl, hd, hk⟩ := hn
  obtain ⟨av, c, rfl⟩ := hd.slice
  have HB1 := Lib.hid (fun o => hb1.alloc hb1.size o)
  cases hO : numOf a.data.toList with
  | none =>
    have HR := Lib.hid (show oneS (fun x => x) a.data.toList = ([], 2) by unfold oneS; rw [hO])
    clear hk hb1 hO hd
    generalize (lims 10 n).length = l
    go_wp2
    go_ret2
    exact ⟨by rw [HR.out]; rfl, HB1.out _⟩
  | some z =>
    obtain ⟨ht, rfl⟩ := hk z hO
    have HR := Lib.hid (show oneS (fun x => x) a.data.toList = toldS (decide (z < 0)) n by rw [tells_told ht]; unfold oneS; rw [hO])
    have HT := Lib.hid (fun W (hW : Below w1.heap.size w1 W) => rTold_none w.heap.size n (decide (z < 0)) _ W (hd.kept hW))
    have HBA := Lib.hid (fun o => (Below.refl w1.heap.size w1).alloc (Nat.le_refl _) o)
    clear hk hb1 hO hd ht
    revert HT
    generalize (lims 10 n).length = l
    generalize toldS (decide (z < 0)) n = p at HR
    obtain ⟨pl, pc⟩ := p
    unfold retS
    intro HT
    go_wp2_with fail
    refine (HT.out _ (HBA.out _)).mono ?_
    rintro e w2 ⟨rfl, hb2⟩
    have HB2 := Lib.hid (Below.behind (HB1.out _) hb2)
    clear hb2
    go_wp2
    go_ret2
    exact ⟨by rw [HR.out]; rfl, HB2.out⟩

/-- A text is a number that is not too long. -/
def validB (l : List UInt8) : Bool := match numOf l with | some z => !tooL z.natAbs | none => false
theorem one_valid (l : List UInt8) : ((oneS (fun x => x) l).2 == 0) = validB l := by
  unfold oneS validB told
  cases numOf l with
  | none => rfl
  | some z =>
    show ((if tooL z.natAbs = true then ([], 4) else if tooL z.natAbs = true then ([], 4) else (txt z, 0) : List UInt8 × Int).2 == 0) = !tooL z.natAbs
    cases tooL z.natAbs <;> rfl
theorem rValid_any (a : ByteArray) (w : World) (ha : a.size ≤ 1000000000000) :
    Calls Tryd.prog 15 #[.string a] w fun e w' => e = .returned (.bool (validB a.data.toList)) ∧ Below w.heap.size w w' := by
  have HV := Lib.hid (one_valid a.data.toList)
  have HC := Lib.hid (rCanonical_any a w ha)
  revert HV HC
  generalize oneS (fun x => x) a.data.toList = p
  obtain ⟨l, c⟩ := p
  unfold retS
  intro HV HC
  go_enter Tryd.func15, Tryd.ntmps15
  go_wp2_with fail
  refine HC.out.mono ?_
  rintro e w1 ⟨rfl, hb1⟩
  go_wp2
  go_ret
  exact ⟨by rw [← HV.out]; rfl, hb1⟩
end Go.Proofs.YtmnibfdenmeepaaDoor
