/- two of the program; Add, Sub, Mul. -/
import Derived.Test.YtmnibfdenmeepaaDoorTwo
import Derived.Laws.EntriesVeiled
namespace Go.Proofs.YtmnibfdenmeepaaDoor
open Go.RowKit Go.Shelf Big

/-- What is told of a number. -/
def told (z : Int) : List UInt8 × Int := if tooL z.natAbs then ([], 4) else (txt z, 0)
def opS (f : Int → Int → Int) (a b : List UInt8) : List UInt8 × Int :=
  match numOf a, numOf b with
  | some x, some y => if tooL x.natAbs || tooL y.natAbs then ([], 4) else told (f x y)
  | _, _ => ([], 2)
def retS (p : List UInt8 × Int) : Ending := .returned (.tuple #[.string ⟨p.1.toArray⟩, .int .i64 p.2])
theorem sg_abs (s : Bool) (n : Nat) : (sgI s n).natAbs = n := by unfold sgI; cases s <;> simp
theorem TextIs.told {s : Bool} {n : Nat} {e : Ending} (h : TextIs false s n e) : e = retS (told (sgI s n)) := by
  unfold YtmnibfdenmeepaaDoor.told
  rw [sg_abs]
  rcases h with ⟨h1, rfl⟩ | ⟨h1, rfl⟩
  · rw [Bool.false_or] at h1
    rw [if_pos h1]; rfl
  · rw [Bool.false_or] at h1
    rw [if_neg (by rw [h1]; simp), txtS_sg]; rfl
theorem sg_z (z : Int) : sgI (decide (z < 0)) z.natAbs = z := by
  unfold sgI
  by_cases h : z < 0
  · rw [decide_eq_true h, if_pos rfl]; omega
  · rw [decide_eq_false h]; simp; omega
theorem lims_of_tool {n : Nat} (h : tooL n = false) : n < 2 ^ k2008 := by
  have h1 := of_decide_eq_false h
  have := p2
  omega

/-- A function value that reckons f. -/
def Does (K : FuncId) (f : Int → Int → Int) : Prop :=
  (∀ args w, (callFunc K args).run Tryd.prog w = .ok (.enter K args) w) ∧
  ∀ (B1 B2 m k : Nat) (va vb : Value) (s t l1 o1 l2 o2 : Bool) (w : World), NatIs w B1 va m → NatIs w B2 vb k → (lims 4294967296 m).length ≤ 100000 → (lims 4294967296 k).length ≤ 100000 →
    Calls Tryd.prog K #[.agg #[.bool s, va, .bool l1, .bool o1], .agg #[.bool t, vb, .bool l2, .bool o2]] w fun e w' => (∃ r n, NumIs w.heap.size r n w' e ∧ sgI r n = f (sgI s m) (sgI t k)) ∧ Below w.heap.size w w'
/-- What comes of two numbers that are not too long is not far too long. -/
def Tame (f : Int → Int → Int) : Prop := ∀ x y : Int, tooL x.natAbs = false → tooL y.natAbs = false → (lims 4294967296 (f x y).natAbs).length ≤ 100000
theorem short_of {n : Nat} (h : tooL n = false) : (lims 4294967296 n).length ≤ 100000 := by
  have h1 := lims_of_tool h
  have h2 : 2 ^ k2008 ≤ 4294967296 ^ k2008 := Nat.pow_le_pow_left (by omega) _
  exact lims_short (Nat.lt_of_lt_of_le h1 h2) (by unfold k2008; omega)

set_option maxRecDepth 100000 in
set_option maxHeartbeats 2000000 in
theorem two_any (K : FuncId) (f : Int → Int → Int) (hK : Does K f) (hf : Tame f) (a b : ByteArray) (w : World) (ha : a.size ≤ 1000) (hb : b.size ≤ 1000) :
    Calls Tryd.prog 58 #[.string a, .string b, .func (.func K) #[] #[]] w fun e w' => e = retS (opS f a.data.toList b.data.toList) ∧ Below w.heap.size w w' := by
  obtain ⟨hE, hC⟩ := hK
  have HC := Lib.hid hC
  clear hC
  go_enter Tryd.func58, Tryd.ntmps58
  go_wp2_with fail
  refine (parseTwo_any a b w ha hb).mono ?_
  rintro e w1 ⟨⟨s1, a1, n1, c1, g1, o1, t1, s2, a2, n2, c2, g2, o2, t2, rfl, hf1, hf2⟩, hb1⟩
  have hz1 := hb1.size
  have HF1 := Lib.hid hf1
  have HF2 := Lib.hid hf2
  clear hf1 hf2
  have hno : (t1 && t2) = false → retS (opS f a.data.toList b.data.toList) = .returned (.tuple #[.string ⟨#[]⟩, .int .i64 2]) := by
    intro h
    unfold opS
    rcases HF1.out with ⟨rfl, z, hz, _⟩ | ⟨rfl, hz⟩
    · rcases HF2.out with ⟨rfl, z2, hz2, _⟩ | ⟨rfl, hz2⟩
      · simp at h
      · rw [hz, hz2]; rfl
    · rw [hz]; rfl
  have HNO := Lib.hid hno
  clear hno
  have hbel : ∀ x y, Below w.heap.size w ((w1.alloc x).alloc y) := fun x y => (hb1.alloc hz1 x).alloc (by simp; omega) y
  have HBE := Lib.hid hbel
  clear hbel
  cases t1 <;> cases t2
  case true.true =>
    obtain ⟨z1, hz1', hs1, hg1, hn1⟩ : ∃ z : Int, numOf a.data.toList = some z ∧ s1 = decide (z < 0) ∧ g1 = tooL z.natAbs ∧ NatIs w1 w.heap.size (.slice a1 n1 c1) z.natAbs := by
      rcases HF1.out with ⟨_, h⟩ | ⟨h, _⟩
      · exact h
      · cases h
    obtain ⟨z2, hz2', hs2, hg2, hn2⟩ : ∃ z : Int, numOf b.data.toList = some z ∧ s2 = decide (z < 0) ∧ g2 = tooL z.natAbs ∧ NatIs w1 w.heap.size (.slice a2 n2 c2) z.natAbs := by
      rcases HF2.out with ⟨_, h⟩ | ⟨h, _⟩
      · exact h
      · cases h
    have HOP := Lib.hid (show opS f a.data.toList b.data.toList = if tooL z1.natAbs || tooL z2.natAbs then ([], 4) else told (f z1 z2) by unfold opS; rw [hz1', hz2'])
    have HS := Lib.hid (And.intro hs1 hs2)
    have HG := Lib.hid (And.intro hg1 hg2)
    have HN1 := Lib.hid (fun x y => (hn1.alloc x).alloc y)
    have HN2 := Lib.hid (fun x y => (hn2.alloc x).alloc y)
    clear hz1' hz2' hs1 hs2 hg1 hg2 hn1 hn2 HNO HF1 HF2
    cases g1 <;> cases g2
    case false.false =>
      have hl1 := short_of HG.out.1.symm
      have hl2 := short_of HG.out.2.symm
      have HT := Lib.hid (hf z1 z2 HG.out.1.symm HG.out.2.symm)
      go_wp2_with fail
      refine (HC.out w.heap.size w.heap.size z1.natAbs z2.natAbs _ _ _ _ _ _ _ _ _ (HN1.out _ _) (HN2.out _ _) hl1 hl2).mono ?_
      rintro e w2 ⟨⟨r, n, ⟨v, rfl, hn⟩, hsg⟩, hb2⟩
      rw [HS.out.1, HS.out.2, sg_z, sg_z] at hsg
      have hz2 := hb2.size
      have hnl : (lims 4294967296 n).length ≤ 100000 := by
        have h := HT.out
        rwa [← hsg, sg_abs] at h
      have HSG := Lib.hid hsg
      obtain ⟨v9, c9, rfl⟩ := hn.slice
      clear hsg
      go_wp2_with fail
      refine (text_any _ n _ _ _ _ _ hn hnl).mono ?_
      rintro e w3 ⟨ht, hb3⟩
      have htd := ht.told
      rw [HSG.out] at htd
      have HOP2 := Lib.hid (show opS f a.data.toList b.data.toList = told (f z1 z2) by rw [HOP.out, ← HG.out.1, ← HG.out.2]; rfl)
      clear ht
      unfold retS at htd
      subst htd
      go_wp2
      go_ret2
      exact ⟨by rw [HOP2.out]; rfl, ((HBE.out _ _).trans (hb2.mono (by simp; omega))).trans (hb3.mono (by simp at hz2; omega))⟩
    all_goals
      have HOP2 := Lib.hid (show opS f a.data.toList b.data.toList = ([], 4) by rw [HOP.out, ← HG.out.1, ← HG.out.2]; rfl)
      go_wp2
      go_ret2
      exact ⟨by rw [HOP2.out]; rfl, HBE.out _ _⟩
  all_goals
    go_wp2
    go_ret2
    exact ⟨(HNO.out rfl).symm, HBE.out _ _⟩
end Go.Proofs.YtmnibfdenmeepaaDoor
