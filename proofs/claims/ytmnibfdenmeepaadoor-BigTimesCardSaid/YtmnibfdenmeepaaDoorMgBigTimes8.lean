/- The texts Ops Calls By DivMath Divide Div Base Awake RDig RStrip RNat RDec RPlus, one behind the other. -/
import Derived.Test.YtmnibfdenmeepaaDoorMgBigTimes7
import Derived.Laws.EntriesVeiled
/- two of the program; Add, Sub, Mul. -/
namespace Go.Proofs.YtmnibfdenmeepaaDoor
open Go.RowKit Go.Shelf Big

/-- What is told of a number. -/
def told (z : Int) : List UInt8 × Int := if tooL z.natAbs then ([], 4) else (txt z, 0)
def opS (f : Int → Int → Int) (a b : List UInt8) : List UInt8 × Int :=
  match numOf a, numOf b with
  | some x, some y => if tooL x.natAbs || tooL y.natAbs then ([], 4) else told (f x y)
  | _, _ => ([], 2)
def retS (p : List UInt8 × Int) : Ending := .returned (.tuple #[.string ⟨p.1.toArray⟩, .int .i64 p.2])
theorem sg_abs (s : Bool) (n : Nat) : (sgI s n).natAbs = n := by unfold sgI; cases s <;> simp
theorem TextIs.told {s : Bool} {n : Nat} {e : Ending} (h : TextIs false s n e) : e = retS (told (sgI s n)) := by
  unfold YtmnibfdenmeepaaDoor.told
  rw [sg_abs]
  rcases h with ⟨h1, rfl⟩ | ⟨h1, rfl⟩
  · rw [Bool.false_or] at h1
    rw [if_pos h1]; rfl
  · rw [Bool.false_or] at h1
    rw [if_neg (by rw [h1]; simp), txtS_sg]; rfl
theorem sg_z (z : Int) : sgI (decide (z < 0)) z.natAbs = z := by
  unfold sgI
  by_cases h : z < 0
  · rw [decide_eq_true h, if_pos rfl]; omega
  · rw [decide_eq_false h]; simp; omega
theorem lims_of_tool {n : Nat} (h : tooL n = false) : n < 2 ^ k2008 := by
  have h1 := of_decide_eq_false h
  have := p2
  omega

/-- A function value that reckons f. -/
def Does (K : FuncId) (f : Int → Int → Int) : Prop :=
  (∀ args w, (callFunc K args).run Tryd.prog w = .ok (.enter K args) w) ∧
  ∀ (B1 B2 m k : Nat) (va vb : Value) (s t l1 o1 l2 o2 : Bool) (w : World), NatIs w B1 va m → NatIs w B2 vb k → (lims 4294967296 m).length ≤ 100000 → (lims 4294967296 k).length ≤ 100000 →
    Calls Tryd.prog K #[.agg #[.bool s, va, .bool l1, .bool o1], .agg #[.bool t, vb, .bool l2, .bool o2]] w fun e w' => (∃ r n, NumIs w.heap.size r n w' e ∧ sgI r n = f (sgI s m) (sgI t k)) ∧ Below w.heap.size w w'
/-- What comes of two numbers that are not too long is not far too long. -/
def Tame (f : Int → Int → Int) : Prop := ∀ x y : Int, tooL x.natAbs = false → tooL y.natAbs = false → (lims 4294967296 (f x y).natAbs).length ≤ 100000
theorem short_of {n : Nat} (h : tooL n = false) : (lims 4294967296 n).length ≤ 100000 := by
  have h1 := lims_of_tool h
  have h2 : 2 ^ k2008 ≤ 4294967296 ^ k2008 := Nat.pow_le_pow_left (by omega) _
  exact lims_short (Nat.lt_of_lt_of_le h1 h2) (by unfold k2008; omega)

set_option maxRecDepth 100000 in
set_option maxHeartbeats 2000000 in
theorem two_any (K : FuncId) (f : Int → Int → Int) (hK : Does K f) (hf : Tame f) (a b : ByteArray) (w : World) (ha : a.size ≤ 1000) (hb : b.size ≤ 1000) :
    Calls Tryd.prog 58 #[.string a, .string b, .func (.func K) #[] #[]] w fun e w' => e = retS (opS f a.data.toList b.data.toList) ∧ Below w.heap.size w w' := by
  obtain ⟨hE, hC⟩ := hK
  have HC := Lib.hid hC
  clear hC
  go_enter Tryd.func58, Tryd.ntmps58
  go_wp2_with fail
  refine (parseTwo_any a b w ha hb).mono ?_
  rintro e w1 ⟨⟨s1, a1, n1, c1, g1, o1, t1, s2, a2, n2, c2, g2, o2, t2, rfl, hf1, hf2⟩, hb1⟩
  have hz1 := hb1.size
  have HF1 := Lib.hid hf1
  have HF2 := Lib.hid hf2
  clear hf1 hf2
  have hno : (t1 && t2) = false → retS (opS f a.data.toList b.data.toList) = .returned (.tuple #[.string ⟨#[]⟩, .int .i64 2]) := by
    intro h
    unfold opS
    rcases HF1.out with ⟨rfl, z, hz, _⟩ | ⟨rfl, hz⟩
    · rcases HF2.out with ⟨rfl, z2, hz2, _⟩ | ⟨rfl, hz2⟩
      · simp at h
      · rw [hz, hz2]; rfl
    · rw [hz]; rfl
  have HNO := Lib.hid hno
  clear hno
  have hbel : ∀ x y, Below w.heap.size w ((w1.alloc x).alloc y) := fun x y => (hb1.alloc hz1 x).alloc (by simp; omega) y
  have HBE := Lib.hid hbel
  clear hbel
  cases t1 <;> cases t2
  case true.true =>
    obtain ⟨z1, hz1', hs1, hg1, hn1⟩ : ∃ z : Int, numOf a.data.toList = some z ∧ s1 = decide (z < 0) ∧ g1 = tooL z.natAbs ∧ NatIs w1 w.heap.size (.slice a1 n1 c1) z.natAbs := by
      rcases HF1.out with ⟨_, h⟩ | ⟨h, _⟩
      · exact h
      · cases h
    obtain ⟨z2, hz2', hs2, hg2, hn2⟩ : ∃ z : Int, numOf b.data.toList = some z ∧ s2 = decide (z < 0) ∧ g2 = tooL z.natAbs ∧ NatIs w1 w.heap.size (.slice a2 n2 c2) z.natAbs := by
      rcases HF2.out with ⟨_, h⟩ | ⟨h, _⟩
      · exact h
      · cases h
    have HOP := Lib.hid (show opS f a.data.toList b.data.toList = if tooL z1.natAbs || tooL z2.natAbs then ([], 4) else told (f z1 z2) by unfold opS; rw [hz1', hz2'])
    have HS := Lib.hid (And.intro hs1 hs2)
    have HG := Lib.hid (And.intro hg1 hg2)
    have HN1 := Lib.hid (fun x y => (hn1.alloc x).alloc y)
    have HN2 := Lib.hid (fun x y => (hn2.alloc x).alloc y)
    clear hz1' hz2' hs1 hs2 hg1 hg2 hn1 hn2 HNO HF1 HF2
    cases g1 <;> cases g2
    case false.false =>
      have hl1 := short_of HG.out.1.symm
      have hl2 := short_of HG.out.2.symm
      have HT := Lib.hid (hf z1 z2 HG.out.1.symm HG.out.2.symm)
      go_wp2_with fail
      refine (HC.out w.heap.size w.heap.size z1.natAbs z2.natAbs _ _ _ _ _ _ _ _ _ (HN1.out _ _) (HN2.out _ _) hl1 hl2).mono ?_
      rintro e w2 ⟨⟨r, n, ⟨v, rfl, hn⟩, hsg⟩, hb2⟩
      rw [HS.out.1, HS.out.2, sg_z, sg_z] at hsg
      have hz2 := hb2.size
      have hnl : (lims 4294967296 n).length ≤ 100000 := by
        have h := HT.out
        rwa [← hsg, sg_abs] at h
      have HSG := Lib.hid hsg
      obtain ⟨v9, c9, rfl⟩ := hn.slice
      clear hsg
      go_wp2_with fail
      refine (text_any _ n _ _ _ _ _ hn hnl).mono ?_
      rintro e w3 ⟨ht, hb3⟩
      have htd := ht.told
      rw [HSG.out] at htd
      have HOP2 := Lib.hid (show opS f a.data.toList b.data.toList = told (f z1 z2) by rw [HOP.out, ← HG.out.1, ← HG.out.2]; rfl)
      clear ht
      unfold retS at htd
      subst htd
      go_wp2
      go_ret2
      exact ⟨by rw [HOP2.out]; rfl, ((HBE.out _ _).trans (hb2.mono (by simp; omega))).trans (hb3.mono (by simp at hz2; omega))⟩
    all_goals
      have HOP2 := Lib.hid (show opS f a.data.toList b.data.toList = ([], 4) by rw [HOP.out, ← HG.out.1, ← HG.out.2]; rfl)
      go_wp2
      go_ret2
      exact ⟨by rw [HOP2.out]; rfl, HBE.out _ _⟩
  all_goals
    go_wp2
    go_ret2
    exact ⟨(HNO.out rfl).symm, HBE.out _ _⟩
end Go.Proofs.YtmnibfdenmeepaaDoor
/- Add, Sub, Mul, Canonical of the program. -/
namespace Go.Proofs.YtmnibfdenmeepaaDoor
open Go.RowKit Go.Shelf Big

theorem short_pow {n : Nat} (h : n < 2 ^ (k2008 + k2008)) : (lims 4294967296 n).length ≤ 100000 :=
  lims_short (Nat.lt_of_lt_of_le h (Nat.pow_le_pow_left (by omega) _)) (by unfold k2008; omega)
theorem sum_pow {a b : Nat} (ha : a < 2 ^ k2008) (hb : b < 2 ^ k2008) : a + b < 2 ^ (k2008 + k2008) := by
  have h1 : 2 ^ (k2008 + k2008) = 2 ^ k2008 * 2 ^ k2008 := Nat.pow_add _ _ _
  have h2 : 2 ≤ 2 ^ k2008 := by
    have : 2 ^ 1 ≤ 2 ^ k2008 := Nat.pow_le_pow_right (by omega) (by unfold k2008; omega)
    omega
  have h3 : 2 ^ k2008 * 2 ≤ 2 ^ k2008 * 2 ^ k2008 := Nat.mul_le_mul_left _ h2
  omega
theorem tame_add : Tame (fun x y => x + y) := fun x y hx hy => by
  have h1 := lims_of_tool hx
  have h2 := lims_of_tool hy
  exact short_pow (Nat.lt_of_le_of_lt (Int.natAbs_add_le x y) (sum_pow h1 h2))
theorem tame_sub : Tame (fun x y => x - y) := fun x y hx hy => by
  have h1 := lims_of_tool hx
  have h2 := lims_of_tool hy
  have h3 : (x - y).natAbs ≤ x.natAbs + y.natAbs := by omega
  exact short_pow (Nat.lt_of_le_of_lt h3 (sum_pow h1 h2))
theorem tame_mul : Tame (fun x y => x * y) := fun x y hx hy => by
  have h1 := lims_of_tool hx
  have h2 := lims_of_tool hy
  refine short_pow ?_
  show (x * y).natAbs < _
  rw [Int.natAbs_mul, Nat.pow_add]
  exact Nat.mul_lt_mul'' h1 h2
theorem does_add : Does 59 (fun x y => x + y) := ⟨enters_of Tryd.func59 (by kernel_rfl) rfl, fun B1 B2 m k va vb s t l1 o1 l2 o2 w ha hb hla hlb => numPlus_any B1 B2 m k va vb s t l1 o1 l2 o2 w ha hb hla hlb⟩
theorem does_sub : Does 62 (fun x y => x - y) := ⟨enters_of Tryd.func62 (by kernel_rfl) rfl, fun B1 B2 m k va vb s t l1 o1 l2 o2 w ha hb hla hlb => numMinus_any B1 B2 m k va vb s t l1 o1 l2 o2 w ha hb hla hlb⟩
theorem does_mul : Does 68 (fun x y => x * y) := ⟨enters_of Tryd.func68 (by kernel_rfl) rfl, fun B1 B2 m k va vb s t l1 o1 l2 o2 w ha hb hla hlb => numTimes_any B1 B2 m k va vb s t l1 o1 l2 o2 w ha hb hla hlb⟩

theorem Add_any (a b : ByteArray) (w : World) (ha : a.size ≤ 1000) (hb : b.size ≤ 1000) :
    Calls Tryd.prog 16 #[.string a, .string b] w fun e w' => e = retS (opS (fun x y => x + y) a.data.toList b.data.toList) ∧ Below w.heap.size w w' := by
  have ht := two_any _ _ does_add tame_add a b w ha hb
  generalize opS (fun x y => x + y) a.data.toList b.data.toList = p at ht ⊢
  obtain ⟨l, c⟩ := p
  unfold retS at ht ⊢
  go_enter Tryd.func16, Tryd.ntmps16
  go_wp2_with (go_at_call 58; refine ht.mono ?_; rintro e w1 ⟨rfl, hb1⟩)
  go_ret2
  exact ⟨rfl, hb1⟩
theorem Sub_any (a b : ByteArray) (w : World) (ha : a.size ≤ 1000) (hb : b.size ≤ 1000) :
    Calls Tryd.prog 18 #[.string a, .string b] w fun e w' => e = retS (opS (fun x y => x - y) a.data.toList b.data.toList) ∧ Below w.heap.size w w' := by
  have ht := two_any _ _ does_sub tame_sub a b w ha hb
  generalize opS (fun x y => x - y) a.data.toList b.data.toList = p at ht ⊢
  obtain ⟨l, c⟩ := p
  unfold retS at ht ⊢
  go_enter Tryd.func18, Tryd.ntmps18
  go_wp2_with (go_at_call 58; refine ht.mono ?_; rintro e w1 ⟨rfl, hb1⟩)
  go_ret2
  exact ⟨rfl, hb1⟩
theorem Mul_any (a b : ByteArray) (w : World) (ha : a.size ≤ 1000) (hb : b.size ≤ 1000) :
    Calls Tryd.prog 22 #[.string a, .string b] w fun e w' => e = retS (opS (fun x y => x * y) a.data.toList b.data.toList) ∧ Below w.heap.size w w' := by
  have ht := two_any _ _ does_mul tame_mul a b w ha hb
  generalize opS (fun x y => x * y) a.data.toList b.data.toList = p at ht ⊢
  obtain ⟨l, c⟩ := p
  unfold retS at ht ⊢
  go_enter Tryd.func22, Tryd.ntmps22
  go_wp2_with (go_at_call 58; refine ht.mono ?_; rintro e w1 ⟨rfl, hb1⟩)
  go_ret2
  exact ⟨rfl, hb1⟩

/-- What is told of one text. -/
def oneS (f : Int → Int) (a : List UInt8) : List UInt8 × Int :=
  match numOf a with
  | some x => if tooL x.natAbs then ([], 4) else told (f x)
  | none => ([], 2)
/-- A function value that reckons f of one number. -/
def Does1 (K : FuncId) (f : Int → Int) : Prop :=
  (∀ args w, (callFunc K args).run Tryd.prog w = .ok (.enter K args) w) ∧
  ∀ (B m : Nat) (va : Value) (s o : Bool) (w : World), NatIs w B va m → (lims 4294967296 m).length ≤ 100000 →
    Calls Tryd.prog K #[.agg #[.bool s, va, .bool false, .bool o]] w fun e w' => (∃ (r : Bool) (n : Nat) (v : Value) (o' : Bool) (B' : Nat), e = .returned (.agg #[.bool r, v, .bool false, .bool o']) ∧ NatIs w' B' v n ∧ sgI r n = f (sgI s m)) ∧ Below w.heap.size w w'
def Tame1 (f : Int → Int) : Prop := ∀ x : Int, tooL x.natAbs = false → (lims 4294967296 (f x).natAbs).length ≤ 100000

set_option maxRecDepth 100000 in
set_option maxHeartbeats 2000000 in
theorem one_any (K : FuncId) (f : Int → Int) (hK : Does1 K f) (hf : Tame1 f) (a : ByteArray) (w : World) (ha : a.size ≤ 1000) :
    Calls Tryd.prog 53 #[.string a, .func (.func K) #[] #[]] w fun e w' => e = retS (oneS f a.data.toList) ∧ Below w.heap.size w w' := by
  obtain ⟨hE, hC⟩ := hK
  have HC := Lib.hid hC
  clear hC
  go_enter Tryd.func53, Tryd.ntmps53
  go_wp2_with fail
  refine (parse_any a w ha).mono ?_
  rintro e w1 ⟨hp1, hb1⟩
  obtain ⟨s1, a1, n1, c1, g1, o1, t1, rfl, hf1⟩ := hp1.form
  have hz1 := hb1.size
  have hbel : ∀ x, Below w.heap.size w (w1.alloc x) := fun x => hb1.alloc hz1 x
  have HBE := Lib.hid hbel
  clear hbel
  rcases hf1 with ⟨rfl, z1, hz1', hs1, hg1, hn1⟩ | ⟨rfl, hz1'⟩
  · have HOP := Lib.hid (show oneS f a.data.toList = if tooL z1.natAbs then ([], 4) else told (f z1) by unfold oneS; rw [hz1'])
    have HS := Lib.hid hs1
    have HG := Lib.hid hg1
    have HN1 := Lib.hid (fun x => hn1.alloc x)
    clear hz1' hs1 hg1 hn1
    cases g1 with
    | false =>
      have hl1 := short_of HG.out.symm
      have HT := Lib.hid (hf z1 HG.out.symm)
      go_wp2_with fail
      refine (HC.out w.heap.size z1.natAbs _ _ _ _ (HN1.out _) hl1).mono ?_
      rintro e w2 ⟨⟨r, n, v, o', B', rfl, hn, hsg⟩, hb2⟩
      rw [HS.out, sg_z] at hsg
      have hz2 := hb2.size
      have hnl : (lims 4294967296 n).length ≤ 100000 := by
        have h := HT.out
        rwa [← hsg, sg_abs] at h
      have HSG := Lib.hid hsg
      obtain ⟨v9, c9, rfl⟩ := hn.slice
      clear hsg
      go_wp2_with fail
      refine (text_any _ n _ _ _ _ _ hn hnl).mono ?_
      rintro e w3 ⟨ht, hb3⟩
      have htd := ht.told
      rw [HSG.out] at htd
      have HOP2 := Lib.hid (show oneS f a.data.toList = told (f z1) by rw [HOP.out, ← HG.out]; rfl)
      clear ht
      unfold retS at htd
      subst htd
      go_wp2
      go_ret2
      exact ⟨by rw [HOP2.out]; rfl, ((HBE.out _).trans (hb2.mono (by simp; omega))).trans (hb3.mono (by simp at hz2; omega))⟩
    | true =>
      have HOP2 := Lib.hid (show oneS f a.data.toList = ([], 4) by rw [HOP.out, ← HG.out]; rfl)
      go_wp2
      go_ret2
      exact ⟨by rw [HOP2.out]; rfl, HBE.out _⟩
  · have HOP2 := Lib.hid (show oneS f a.data.toList = ([], 2) by unfold oneS; rw [hz1'])
    clear hz1'
    go_wp2
    go_ret2
    exact ⟨by rw [HOP2.out]; rfl, HBE.out _⟩

theorem does_id : Does1 54 (fun x => x) := ⟨enters_of Tryd.func54 (by kernel_rfl) rfl, fun B m va s o w ha hl => by
  have HK := Lib.hid (fun x y => (ha.alloc x).alloc y)
  obtain ⟨av, c, rfl⟩ := ha.slice
  obtain ⟨lv, hlv⟩ : ∃ lv, (lims 4294967296 m).length = lv := ⟨_, rfl⟩
  rw [hlv] at HK ⊢
  clear ha hlv hl
  go_enter Tryd.func54, Tryd.ntmps54
  go_wp2
  exact bodyPost_ret (v := .agg #[.bool s, .slice av lv c, .bool false, .bool o]) (by simp [results, Tryd.results54, go_sem]) rfl ⟨⟨s, m, _, o, B, rfl, HK.out _ _, rfl⟩, ((Below.refl _ w).alloc (Nat.le_refl _) _).alloc (by simp) _⟩⟩
theorem tame_id : Tame1 (fun x => x) := fun _ h => short_of h
theorem Canonical_any (a : ByteArray) (w : World) (ha : a.size ≤ 1000) :
    Calls Tryd.prog 12 #[.string a] w fun e w' => e = retS (oneS (fun x => x) a.data.toList) ∧ Below w.heap.size w w' := by
  have ht := one_any _ _ does_id tame_id a w ha
  generalize oneS (fun x => x) a.data.toList = p at ht ⊢
  obtain ⟨l, c⟩ := p
  unfold retS at ht ⊢
  go_enter Tryd.func12, Tryd.ntmps12
  go_wp2_with (go_at_call 53; refine ht.mono ?_; rintro e w1 ⟨rfl, hb1⟩)
  go_ret2
  exact ⟨rfl, hb1⟩
end Go.Proofs.YtmnibfdenmeepaaDoor
/- nat.by of the program, for a divisor of one word. -/
namespace Go.Proofs.YtmnibfdenmeepaaDoor
open Go.RowKit Go.Shelf Big

theorem lims_one {k : Nat} (h0 : 0 < k) (h : k < 4294967296) : lims 4294967296 k = [k] := by
  rw [lims_pos w32_ge h0, Nat.mod_eq_of_lt h, Nat.div_eq_of_lt h, lims_zero]
theorem one_row {W : World} {n : Nat} (B r : Nat) (hn : W.heap.size = n) (hB : B ≤ n) :
    (W.alloc (.cells #[.int .u32 (r : Int)] 75)).ownsRow B 75 1 (.slice (some ⟨n, 0, none⟩) 1 1) [r].length ([r].map u32v) := by
  subst hn
  exact World.ownsRow_lit (base := B) (e := 75) (size := 1) W #[.int .u32 (r : Int)] 1 hB (by unfold maxLen; omega) (by simp)
theorem small_one {r : Nat} (h : r < 4294967296) : Small [r] := by
  intro d hd
  rw [List.mem_singleton] at hd
  omega

set_option maxRecDepth 100000 in
set_option maxHeartbeats 1000000 in
theorem by_one (B1 B2 m k : Nat) (va vb : Value) (w : World) (ha : NatIs w B1 va m) (hb : NatIs w B2 vb k) (hla : (lims 4294967296 m).length ≤ 100000) (h0 : 0 < k) (hk : k < 4294967296) (hkm : k ≤ m) :
    Calls Tryd.prog 112 #[va, vb] w fun e w' => (∃ a1 n1 c1 a2 n2 c2, e = .returned (.tuple #[.slice a1 n1 c1, .slice a2 n2 c2]) ∧ NatIs w' w.heap.size (.slice a1 n1 c1) (m / k) ∧ NatIs w' w.heap.size (.slice a2 n2 c2) (m % k)) ∧ Below w.heap.size w w' := by
  have hlk : (lims 4294967296 k).length ≤ 100000 := by rw [lims_one h0 hk]; simp
  have HC := Lib.hid (compare_any B1 B2 m k va vb w ha hb hla hlk)
  have HB := Lib.hid (fun w' (h : Below w.heap.size w w') => And.intro (ha.kept h) (hb.kept h))
  have hc : (0 : Int) ≤ cmp m k := by
    unfold cmp
    split
    · omega
    · split <;> omega
  revert hc HC
  generalize cmp m k = C
  intro HC hc
  have hc2 : decide (C < 0) = false := by rw [decide_eq_false_iff_not]; omega
  have hrow : w.ownsRow B2 75 1 vb 1 [u32v k] := by
    have := hb
    unfold NatIs at this
    rw [lims_one h0 hk] at this
    exact this
  rcases hrow.2 with ⟨rfl, hz⟩ | ⟨g, cap, cur, rfl, hg1, hg2, -⟩
  · omega
  obtain ⟨av, ca, rfl⟩ := ha.slice
  obtain ⟨lv, hlv⟩ : ∃ lv, (lims 4294967296 m).length = lv := ⟨_, rfl⟩
  rw [hlv] at HC HB ⊢
  have HCell := Lib.hid (fun w' (h : NatIs w' B2 (.slice (some ⟨g, 0, none⟩) 1 cap) k) => show w'.cell? ⟨g, 0, none⟩ = some (.int .u32 (k : Int)) from by
    unfold NatIs at h
    rw [lims_one h0 hk] at h
    exact World.ownsRow.cellAt h 0 (by simp))
  have HLA := Lib.hid hla
  have HLV := Lib.hid hlv
  clear ha hb hrow hla hlv hlk
  obtain ⟨r, hr⟩ : ∃ r, m % k = r := ⟨_, rfl⟩
  have hmod : r < 4294967296 := hr ▸ Nat.lt_trans (Nat.mod_lt _ h0) hk
  rw [hr]
  go_enter Tryd.func112, Tryd.ntmps112
  go_wp2_with fail
  refine HC.out.mono ?_
  rintro e w1 ⟨rfl, hb1⟩
  have hcell := HCell.out w1 (HB.out w1 hb1).2
  have hz1 := hb1.size
  go_wp2_with fail
  have hBW := byWord_any B1 m k _ _ (HB.out w1 hb1).1 HLA.out h0 hk
  rw [hr] at hBW
  refine hBW.mono ?_
  rintro e w2 ⟨⟨q, rfl, hq⟩, hb2⟩
  have hz2 := hb2.size
  obtain ⟨aq, cq, rfl⟩ := hq.slice
  have hB2 := Lib.hid (Below.behind hb1 hb2)
  go_wp2_with fail
  refine (cut_any w.heap.size _ [r] _ (one_row _ _ rfl (by omega)) (small_one hmod) (by simp)).mono ?_
  rintro e w3 ⟨⟨v, rfl, hv⟩, rfl⟩
  have hev : ev 4294967296 [r] = r := by simp [ev]
  rw [hev] at hv
  obtain ⟨av2, cv2, rfl⟩ := hv.slice
  have HQ := Lib.hid (World.ownsRow.alloc hq (.cells #[.int .u32 (r : Int)] 75))
  go_wp2
  go_ret2
  exact ⟨⟨_, _, _, _, _, _, rfl, NatIs.mono HQ.out (by omega), hv⟩, hB2.out.alloc (by omega) _⟩
/-- by, of two numbers. -/
def ByIs (m k : Nat) : Prop := ∀ (B1 B2 : Nat) (va vb : Value) (w : World), NatIs w B1 va m → NatIs w B2 vb k →
    Calls Tryd.prog 112 #[va, vb] w fun e w' => (∃ a1 n1 c1 a2 n2 c2, e = .returned (.tuple #[.slice a1 n1 c1, .slice a2 n2 c2]) ∧ NatIs w' w.heap.size (.slice a1 n1 c1) (m / k) ∧ NatIs w' w.heap.size (.slice a2 n2 c2) (m % k)) ∧ Below w.heap.size w w'
theorem byIs_one {m k : Nat} (hla : (lims 4294967296 m).length ≤ 100000) (h0 : 0 < k) (hk : k < 4294967296) (hkm : k ≤ m) : ByIs m k :=
  fun B1 B2 va vb w ha hb => by_one B1 B2 m k va vb w ha hb hla h0 hk hkm
end Go.Proofs.YtmnibfdenmeepaaDoor
/- Division rounded down, of numbers with a sign. -/
namespace Go.Proofs.YtmnibfdenmeepaaDoor
open Go.RowKit Go.Shelf Big

def DivIs (x y q r : Int) : Prop := x = q * y + r ∧ (0 ≤ r ∧ r < y ∨ y < r ∧ r ≤ 0)
theorem div_plain (s t : Bool) (m k : Nat) (h0 : 0 < k) (h : (s != t) = false ∨ m % k = 0) : DivIs (sgI s m) (sgI t k) (sgI (s != t) (m / k)) (sgI t (m % k)) := by
  have e : (m : Int) = (k : Int) * ((m / k : Nat) : Int) + ((m % k : Nat) : Int) := by rw [← Int.natCast_mul, ← Int.natCast_add, Nat.div_add_mod]
  have hr := Nat.mod_lt m h0
  revert e hr h
  generalize m / k = Q
  generalize m % k = R
  intro h e hr
  have e2 : (Q : Int) * k = k * Q := Int.mul_comm _ _
  revert e e2
  generalize (k : Int) * (Q : Int) = P
  intro e e2
  unfold DivIs sgI
  cases s <;> cases t <;> simp at h ⊢ <;> (try rw [Int.neg_mul_neg]) <;> (try rw [Int.neg_mul]) <;> (try rw [Int.mul_neg]) <;> omega
theorem div_down (s t : Bool) (m k : Nat) (h0 : 0 < k) (h : (s != t) = true) (h1 : 0 < m % k) : DivIs (sgI s m) (sgI t k) (sgI (s != t) (m / k + 1)) (sgI t (k - m % k)) := by
  have e : (m : Int) = (k : Int) * ((m / k : Nat) : Int) + ((m % k : Nat) : Int) := by rw [← Int.natCast_mul, ← Int.natCast_add, Nat.div_add_mod]
  have hr := Nat.mod_lt m h0
  revert e hr h h1
  generalize m / k = Q
  generalize m % k = R
  intro h h1 e hr
  have e2 : ((Q + 1 : Nat) : Int) * k = k * Q + k := by rw [Int.natCast_add, Int.add_mul, Int.mul_comm]; simp
  unfold DivIs sgI
  revert e e2
  generalize (k : Int) * (Q : Int) = P
  generalize ((Q + 1 : Nat) : Int) = Q1
  intro e e2
  cases s <;> cases t <;> simp at h ⊢ <;> (try rw [Int.neg_mul_neg]) <;> (try rw [Int.neg_mul]) <;> (try rw [Int.mul_neg]) <;> omega
end Go.Proofs.YtmnibfdenmeepaaDoor
/- number.divide of the program. -/
namespace Go.Proofs.YtmnibfdenmeepaaDoor
open Go.RowKit Go.Shelf Big

/-- What divide answers. -/
def DvIs (B : Nat) (x y : Int) (w' : World) (e : Ending) : Prop :=
  ∃ (qs rs : Bool) (n j : Nat) (a1 : Option Addr) (n1 c1 : Nat) (a2 : Option Addr) (n2 c2 : Nat),
    e = .returned (.tuple #[.agg #[.bool qs, .slice a1 n1 c1, .bool false, .bool false], .agg #[.bool rs, .slice a2 n2 c2, .bool false, .bool false]]) ∧
    NatIs w' B (.slice a1 n1 c1) n ∧ NatIs w' B (.slice a2 n2 c2) j ∧ DivIs x y (sgI qs n) (sgI rs j)

theorem Has.put1 {w : World} {r : Nat} {t : TypeId} {a b c d : Value} (h : Has w r t #[a, b, c, d]) (y : Value) : Has (w.setCell ⟨r, 1, none⟩ y) r t #[a, y, c, d] := by
  have h' : w.heap[r]? = some (.cells #[a, b, c, d] t (0, 0)) := h
  show (w.setCell ⟨r, 1, none⟩ y).heap[r]? = _
  simp [World.setCell, Array.getElem?_modify, h']

set_option maxRecDepth 100000 in
set_option maxHeartbeats 2000000 in
theorem divide_any (B1 B2 m k : Nat) (va vb : Value) (s t l1 o1 l2 o2 : Bool) (w : World) (ha : NatIs w B1 va m) (hb : NatIs w B2 vb k) (hla : (lims 4294967296 m).length ≤ 100000) (hlb : (lims 4294967296 k).length ≤ 100000) (h0 : 0 < k) (hby : ByIs m k) :
    Calls Tryd.prog 70 #[.agg #[.bool s, va, .bool l1, .bool o1], .agg #[.bool t, vb, .bool l2, .bool o2]] w fun e w' => DvIs w.heap.size (sgI s m) (sgI t k) w' e ∧ Below w.heap.size w w' := by
  have HA := Lib.hid ha
  have HB := Lib.hid hb
  have HBY := Lib.hid hby
  obtain ⟨av, ca, rfl⟩ := ha.slice
  obtain ⟨bv, cb, rfl⟩ := hb.slice
  obtain ⟨lv, hlv⟩ : ∃ lv, (lims 4294967296 m).length = lv := ⟨_, rfl⟩
  obtain ⟨lu, hlu⟩ : ∃ lu, (lims 4294967296 k).length = lu := ⟨_, rfl⟩
  rw [hlv] at HA hla ⊢
  rw [hlu] at HB hlb ⊢
  have HLV := Lib.hid hlv
  have HLU := Lib.hid hlu
  clear ha hb hlv hlu hby
  have hrl : ((lims 4294967296 (m % k)).length = 0 ∧ m % k = 0) ∨ (0 < (lims 4294967296 (m % k)).length ∧ 0 < m % k) := by
    have : (lims 4294967296 (m % k)).length = 0 ↔ m % k = 0 := by rw [List.length_eq_zero_iff, lims_nil w32_ge]
    omega
  obtain ⟨D, hD⟩ : ∃ D, (s != t) = D := ⟨_, rfl⟩
  go_enter Tryd.func70, Tryd.ntmps70
  go_wp2_with fail
  obtain ⟨W0, hW0⟩ : ∃ W0, ((((w.alloc (.cells #[.bool s, .slice av lv ca, .bool l1, .bool o1] 46)).alloc (.cells #[.bool t, .slice bv lu cb, .bool l2, .bool o2] 46)).alloc (.cells #[.bool false, .slice none 0 0, .bool false, .bool false] 46)).alloc (.cells #[.bool false, .slice none 0 0, .bool false, .bool false] 46)) = W0 := ⟨_, rfl⟩
  rw [hW0]
  have hz0 : W0.heap.size = w.heap.size + 4 := by rw [← hW0]; simp
  have hA0 : NatIs W0 B1 (.slice av lv ca) m := by rw [← hW0]; exact (((HA.out.alloc _).alloc _).alloc _).alloc _
  have hB0 : NatIs W0 B2 (.slice bv lu cb) k := by rw [← hW0]; exact (((HB.out.alloc _).alloc _).alloc _).alloc _
  have hX : Has ((((w.alloc (.cells #[.bool s, .slice av lv ca, .bool l1, .bool o1] 46)).alloc (.cells #[.bool t, .slice bv lu cb, .bool l2, .bool o2] 46)).alloc (.cells #[.bool false, .slice none 0 0, .bool false, .bool false] 46)).alloc (.cells #[.bool false, .slice none 0 0, .bool false, .bool false] 46)) w.heap.size 46 #[.bool s, .slice av lv ca, .bool l1, .bool o1] := (((Has.new w _ _).alloc _).alloc _).alloc _
  have hY : Has ((((w.alloc (.cells #[.bool s, .slice av lv ca, .bool l1, .bool o1] 46)).alloc (.cells #[.bool t, .slice bv lu cb, .bool l2, .bool o2] 46)).alloc (.cells #[.bool false, .slice none 0 0, .bool false, .bool false] 46)).alloc (.cells #[.bool false, .slice none 0 0, .bool false, .bool false] 46)) (w.heap.size + 1) 46 #[.bool t, .slice bv lu cb, .bool l2, .bool o2] := ((Has.new' (n := w.heap.size + 1) (by simp) _ _).alloc _).alloc _
  have hQ : Has ((((w.alloc (.cells #[.bool s, .slice av lv ca, .bool l1, .bool o1] 46)).alloc (.cells #[.bool t, .slice bv lu cb, .bool l2, .bool o2] 46)).alloc (.cells #[.bool false, .slice none 0 0, .bool false, .bool false] 46)).alloc (.cells #[.bool false, .slice none 0 0, .bool false, .bool false] 46)) (w.heap.size + 1 + 1) 46 #[.bool false, .slice none 0 0, .bool false, .bool false] := (Has.new' (n := w.heap.size + 1 + 1) (by simp) _ _).alloc _
  have hR : Has ((((w.alloc (.cells #[.bool s, .slice av lv ca, .bool l1, .bool o1] 46)).alloc (.cells #[.bool t, .slice bv lu cb, .bool l2, .bool o2] 46)).alloc (.cells #[.bool false, .slice none 0 0, .bool false, .bool false] 46)).alloc (.cells #[.bool false, .slice none 0 0, .bool false, .bool false] 46)) (w.heap.size + 1 + 1 + 1) 46 #[.bool false, .slice none 0 0, .bool false, .bool false] := Has.new' (by simp) _ _
  have hBB : Below w.heap.size w W0 := by rw [← hW0]; exact ((((Below.refl _ w).alloc (Nat.le_refl _) _).alloc (by simp) _).alloc (by simp; omega) _).alloc (by simp; omega) _
  rw [hW0] at hX hY hQ hR
  clear hW0
  refine (HBY.out B1 B2 _ _ W0 hA0 hB0).mono ?_
  rintro e w1 ⟨⟨a1, n1, c1, a2, n2, c2, rfl, hq, hr⟩, hb1⟩
  have hz1 := hb1.size
  have hX1 := hX.below hb1
  have hY1 := hY.below hb1
  have hQ1 := hQ.below hb1
  have hR1 := hR.below hb1
  have hBB1 := Below.behind hBB hb1
  have hB1 := hB0.kept hb1
  have hn2 : n2 = (lims 4294967296 (m % k)).length := by
    obtain ⟨_, _, h⟩ := hr.slice
    injection h
  rw [← hn2] at hrl
  have HRL := Lib.hid hrl
  clear hn2 hrl
  clear hX hY hQ hR hBB hA0 hB0 hb1
  obtain ⟨x0, x1, x2, x3, -⟩ := hX1.four
  obtain ⟨y0, y1, y2, y3, y4, y5, y6, y7⟩ := hY1.four
  obtain ⟨q0, q1, q2, q3, q4, q5, q6, q7⟩ := hQ1.four
  obtain ⟨r0, r1, r2, r3, r4, r5, r6, r7⟩ := hR1.four
  go_wp2_with fail
  · have hst : (!s == t) = true := by assumption
    have hn : 0 < n2 := by assumption
    have hrp : 0 < m % k := by have := HRL.out; omega
    have hrk : m % k ≤ k := Nat.le_of_lt (Nat.mod_lt _ h0)
    have HDV : Hid (DivIs (sgI s m) (sgI t k) (sgI true (m / k + 1)) (sgI t (k - m % k))) := Lib.hid (by have h := div_down s t m k h0 hst hrp; rwa [show (s != t) = true from hst] at h)
    clear hst
    have hQ2 := hQ1.put4 (.bool true) (.slice a1 n1 c1) (.bool false) (.bool false)
    have hR2 : Has ((((w1.setCell ⟨w.heap.size + 1 + 1, 0, none⟩ (.bool true)).setCell ⟨w.heap.size + 1 + 1, 1, none⟩ (.slice a1 n1 c1)).setCell ⟨w.heap.size + 1 + 1, 2, none⟩ (.bool false)).setCell ⟨w.heap.size + 1 + 1, 3, none⟩ (.bool false)) (w.heap.size + 1 + 1 + 1) 46 _ := (((hR1.far (by simp) _).far (by simp) _).far (by simp) _).far (by simp) _
    have hY2 : Has ((((w1.setCell ⟨w.heap.size + 1 + 1, 0, none⟩ (.bool true)).setCell ⟨w.heap.size + 1 + 1, 1, none⟩ (.slice a1 n1 c1)).setCell ⟨w.heap.size + 1 + 1, 2, none⟩ (.bool false)).setCell ⟨w.heap.size + 1 + 1, 3, none⟩ (.bool false)) (w.heap.size + 1) 46 _ := (((hY1.far (by simp) _).far (by simp) _).far (by simp) _).far (by simp) _
    have hq2 := hq.apart4 (hq.new (show w.heap.size + 1 + 1 < W0.heap.size by omega)) (.bool true) (.slice a1 n1 c1) (.bool false) (.bool false)
    have hr2 := hr.apart4 (hr.new (show w.heap.size + 1 + 1 < W0.heap.size by omega)) (.bool true) (.slice a1 n1 c1) (.bool false) (.bool false)
    have hBB2 := Below.four hBB1 (show w.heap.size ≤ w.heap.size + 1 + 1 by omega) (.bool true) (.slice a1 n1 c1) (.bool false) (.bool false)
    have hs2 : ((((w1.setCell ⟨w.heap.size + 1 + 1, 0, none⟩ (.bool true)).setCell ⟨w.heap.size + 1 + 1, 1, none⟩ (.slice a1 n1 c1)).setCell ⟨w.heap.size + 1 + 1, 2, none⟩ (.bool false)).setCell ⟨w.heap.size + 1 + 1, 3, none⟩ (.bool false)).heap.size = w1.heap.size := by simp
    revert hs2 hQ2 hR2 hY2 hq2 hr2 hBB2
    generalize ((((w1.setCell ⟨w.heap.size + 1 + 1, 0, none⟩ (.bool true)).setCell ⟨w.heap.size + 1 + 1, 1, none⟩ (.slice a1 n1 c1)).setCell ⟨w.heap.size + 1 + 1, 2, none⟩ (.bool false)).setCell ⟨w.heap.size + 1 + 1, 3, none⟩ (.bool false)) = W2
    intro hQ2 hR2 hY2 hq2 hr2 hBB2 hs2
    clear x0 x1 x2 x3 y0 y1 y2 y3 y4 y5 y6 y7 q0 q1 q2 q3 q4 q5 q6 q7 r0 r1 r2 r3 r4 r5 r6 r7 hQ1 hR1 hY1 hX1 hq hr hBB1
    obtain ⟨y0, y1, y2, y3, -⟩ := hY2.four
    obtain ⟨q0, q1, q2, q3, q4, q5, q6, q7⟩ := hQ2.four
    obtain ⟨r0, r1, r2, r3, r4, r5, r6, r7⟩ := hR2.four
    have hlq : (lims 4294967296 (m / k)).length ≤ 100000 := Nat.le_trans (lims_len_mono (Nat.div_le_self m k)) (by rw [HLV.out]; exact hla)
    have hone : NatIs (W2.alloc (.cells #[.int .u32 1] 75)) w1.heap.size (.slice (some ⟨w1.heap.size, 0, none⟩) 1 1) 1 := by
      unfold NatIs
      rw [lims_one (by omega) (by omega)]
      exact one_row w1.heap.size 1 hs2 (Nat.le_refl _)
    refine (plus_any W0.heap.size w1.heap.size (m / k) 1 _ _ _ (hq2.alloc _) hone hlq (by rw [lims_one (by omega) (by omega)]; simp)).mono ?_
    rintro e w3 ⟨⟨v, rfl, hv⟩, hb3⟩
    obtain ⟨a3, c3, rfl⟩ := hv.slice
    have hz3 := hb3.size
    have hQ3 := (hQ2.alloc (.cells #[.int .u32 1] 75)).below hb3
    have hR3 := (hR2.alloc (.cells #[.int .u32 1] 75)).below hb3
    have hY3 := (hY2.alloc (.cells #[.int .u32 1] 75)).below hb3
    have hr3 := (hr2.alloc (.cells #[.int .u32 1] 75)).kept hb3
    have hBB3 := Below.behind (hBB2.alloc (by omega) (.cells #[.int .u32 1] 75)) hb3
    rw [World.size_alloc] at hz3 hv
    clear y0 y1 y2 y3 q0 q1 q2 q3 q4 q5 q6 q7 r0 r1 r2 r3 r4 r5 r6 r7 hQ2 hR2 hY2 hq2 hr2 hBB2 hone hb3
    obtain ⟨y0, y1, y2, y3, -⟩ := hY3.four
    obtain ⟨q0, q1, q2, q3, q4, q5, q6, q7⟩ := hQ3.four
    go_wp2_with fail
    obtain ⟨n3, hn3⟩ : ∃ n3, (lims 4294967296 (m / k + 1)).length = n3 := ⟨_, rfl⟩
    rw [hn3] at hv ⊢
    clear hn3
    have hQ4 := hQ3.put1 (.slice a3 n3 c3)
    have hR4 := hR3.far (p := ⟨w.heap.size + 1 + 1, 1, none⟩) (by simp) (.slice a3 n3 c3)
    have hY4 := hY3.far (p := ⟨w.heap.size + 1 + 1, 1, none⟩) (by simp) (.slice a3 n3 c3)
    have hv4 := hv.apart (hv.new (show w.heap.size + 1 + 1 < W2.heap.size + 1 by omega)) 1 (.slice a3 n3 c3)
    have hr4 := hr3.apart (hr3.new (show w.heap.size + 1 + 1 < W0.heap.size by omega)) 1 (.slice a3 n3 c3)
    have hBB4 := hBB3.setCell (p := ⟨w.heap.size + 1 + 1, 1, none⟩) (by show w.heap.size ≤ w.heap.size + 1 + 1; omega) (.slice a3 n3 c3)
    have hz4 : (w3.setCell ⟨w.heap.size + 1 + 1, 1, none⟩ (.slice a3 n3 c3)).heap.size = w3.heap.size := by simp
    clear y0 y1 y2 y3 q0 q1 q2 q3 q4 q5 q6 q7 hQ3 hR3 hY3 hv hr3 hBB3
    revert hQ4 hR4 hY4 hv4 hr4 hBB4 hz4
    generalize (w3.setCell ⟨w.heap.size + 1 + 1, 1, none⟩ (.slice a3 n3 c3)) = W4
    intro hQ4 hR4 hY4 hv4 hr4 hBB4 hz4
    refine (minus_any B2 W0.heap.size k (m % k) _ _ _ (HB.out.kept hBB4) hr4 (by rw [HLU.out]; exact hlb) hrk).mono ?_
    rintro e w5 ⟨⟨v5, rfl, hv5⟩, hb5⟩
    obtain ⟨a5, c5, rfl⟩ := hv5.slice
    obtain ⟨n5, hn5⟩ : ∃ n5, (lims 4294967296 (k - m % k)).length = n5 := ⟨_, rfl⟩
    rw [hn5] at hv5 ⊢
    clear hn5
    have hz5 := hb5.size
    have hQ2 := hQ4.below hb5
    have hR2 := hR4.below hb5
    have hY2 := hY4.below hb5
    have hq2 := hv4.kept hb5
    have hr2 := hv5
    have hBB2 := Below.behind hBB4 hb5
    clear hQ4 hR4 hY4 hv4 hv5 hr4 hBB4 hb5
    obtain ⟨y0, y1, y2, y3, -⟩ := hY2.four
    obtain ⟨q0, q1, q2, q3, q4, q5, q6, q7⟩ := hQ2.four
    obtain ⟨r0, r1, r2, r3, r4, r5, r6, r7⟩ := hR2.four
    go_wp2_with fail
    go_region
    have hQ3 := ((((hQ2.put4 (.bool true) (.slice a3 n3 c3) (.bool false) (.bool false)).far (p := ⟨w.heap.size + 1 + 1 + 1, 0, none⟩) (by simp) (.bool t)).far (p := ⟨w.heap.size + 1 + 1 + 1, 1, none⟩) (by simp) (.slice a5 n5 c5)).far (p := ⟨w.heap.size + 1 + 1 + 1, 2, none⟩) (by simp) (.bool false)).far (p := ⟨w.heap.size + 1 + 1 + 1, 3, none⟩) (by simp) (.bool false)
    have hR3 := ((((hR2.far (p := ⟨w.heap.size + 1 + 1, 0, none⟩) (by simp) (.bool true)).far (p := ⟨w.heap.size + 1 + 1, 1, none⟩) (by simp) (.slice a3 n3 c3)).far (p := ⟨w.heap.size + 1 + 1, 2, none⟩) (by simp) (.bool false)).far (p := ⟨w.heap.size + 1 + 1, 3, none⟩) (by simp) (.bool false)).put4 (.bool t) (.slice a5 n5 c5) (.bool false) (.bool false)
    have hq3a := hq2.apart4 (hq2.new (show w.heap.size + 1 + 1 < W2.heap.size + 1 by omega)) (.bool true) (.slice a3 n3 c3) (.bool false) (.bool false)
    have hq3 := hq3a.apart4 (hq3a.new (show w.heap.size + 1 + 1 + 1 < W2.heap.size + 1 by omega)) (.bool t) (.slice a5 n5 c5) (.bool false) (.bool false)
    have hr3a := hr2.apart4 (hr2.new (show w.heap.size + 1 + 1 < W4.heap.size by omega)) (.bool true) (.slice a3 n3 c3) (.bool false) (.bool false)
    have hr3 := hr3a.apart4 (hr3a.new (show w.heap.size + 1 + 1 + 1 < W4.heap.size by omega)) (.bool t) (.slice a5 n5 c5) (.bool false) (.bool false)
    have hBB3 := Below.four (Below.four hBB2 (show w.heap.size ≤ w.heap.size + 1 + 1 by omega) (.bool true) (.slice a3 n3 c3) (.bool false) (.bool false)) (show w.heap.size ≤ w.heap.size + 1 + 1 + 1 by omega) (.bool t) (.slice a5 n5 c5) (.bool false) (.bool false)
    have hQ4 := hQ3.drew
    have hR4 := hR3.drew
    have hq4 := hq3.drew
    have hr4 := hr3.drew
    have hBB4 := hBB3.drew
    clear hQ3 hR3 hq3 hr3 hBB3 hq3a hr3a y0 y1 y2 y3 q0 q1 q2 q3 q4 q5 q6 q7 r0 r1 r2 r3 r4 r5 r6 r7 hQ2 hR2 hY2 hq2 hr2 hBB2
    revert hQ4 hR4 hq4 hr4 hBB4
    generalize ((((((((w5.setCell ⟨w.heap.size + 1 + 1, 0, none⟩ (.bool true)).setCell ⟨w.heap.size + 1 + 1, 1, none⟩ (.slice a3 n3 c3)).setCell ⟨w.heap.size + 1 + 1, 2, none⟩ (.bool false)).setCell ⟨w.heap.size + 1 + 1, 3, none⟩ (.bool false)).setCell ⟨w.heap.size + 1 + 1 + 1, 0, none⟩ (.bool t)).setCell ⟨w.heap.size + 1 + 1 + 1, 1, none⟩ (.slice a5 n5 c5)).setCell ⟨w.heap.size + 1 + 1 + 1, 2, none⟩ (.bool false)).setCell ⟨w.heap.size + 1 + 1 + 1, 3, none⟩ (.bool false)).drew = F
    intro hQ4 hR4 hq4 hr4 hBB4
    obtain ⟨q0, q1, q2, q3, -⟩ := hQ4.four
    obtain ⟨r0, r1, r2, r3, -⟩ := hR4.four
    go_wp2
    refine bodyPost_ret (v := .tuple #[.agg #[.bool true, .slice a3 n3 c3, .bool false, .bool false], .agg #[.bool t, .slice a5 n5 c5, .bool false, .bool false]]) (by simp [results, Tryd.results70, go_sem, q0, q1, q2, q3, r0, r1, r2, r3]; try rfl) rfl ⟨⟨true, t, m / k + 1, k - m % k, _, _, _, _, _, _, rfl, NatIs.mono hq4 (by omega), NatIs.mono hr4 (by omega), HDV.out⟩, hBB4⟩
  · have hst : (!s == t) = false := by assumption
    obtain ⟨D0, hD0⟩ : ∃ D0, (!s == t) = D0 := ⟨_, rfl⟩
    have HDV : Hid (DivIs (sgI s m) (sgI t k) (sgI D0 (m / k)) (sgI t (m % k))) := Lib.hid (hD0 ▸ div_plain s t m k h0 (.inl hst))
    rw [hD0] at hst
    subst hst
    rw [hD0]
    clear hD0
    have hQ2 := hQ1.put4 (.bool false) (.slice a1 n1 c1) (.bool false) (.bool false)
    have hR2 : Has ((((w1.setCell ⟨w.heap.size + 1 + 1, 0, none⟩ (.bool false)).setCell ⟨w.heap.size + 1 + 1, 1, none⟩ (.slice a1 n1 c1)).setCell ⟨w.heap.size + 1 + 1, 2, none⟩ (.bool false)).setCell ⟨w.heap.size + 1 + 1, 3, none⟩ (.bool false)) (w.heap.size + 1 + 1 + 1) 46 _ := (((hR1.far (by simp) _).far (by simp) _).far (by simp) _).far (by simp) _
    have hY2 : Has ((((w1.setCell ⟨w.heap.size + 1 + 1, 0, none⟩ (.bool false)).setCell ⟨w.heap.size + 1 + 1, 1, none⟩ (.slice a1 n1 c1)).setCell ⟨w.heap.size + 1 + 1, 2, none⟩ (.bool false)).setCell ⟨w.heap.size + 1 + 1, 3, none⟩ (.bool false)) (w.heap.size + 1) 46 _ := (((hY1.far (by simp) _).far (by simp) _).far (by simp) _).far (by simp) _
    have hq2 := hq.apart4 (hq.new (show w.heap.size + 1 + 1 < W0.heap.size by omega)) (.bool false) (.slice a1 n1 c1) (.bool false) (.bool false)
    have hr2 := hr.apart4 (hr.new (show w.heap.size + 1 + 1 < W0.heap.size by omega)) (.bool false) (.slice a1 n1 c1) (.bool false) (.bool false)
    have hBB2 := Below.four hBB1 (show w.heap.size ≤ w.heap.size + 1 + 1 by omega) (.bool false) (.slice a1 n1 c1) (.bool false) (.bool false)
    revert hQ2 hR2 hY2 hq2 hr2 hBB2
    generalize ((((w1.setCell ⟨w.heap.size + 1 + 1, 0, none⟩ (.bool false)).setCell ⟨w.heap.size + 1 + 1, 1, none⟩ (.slice a1 n1 c1)).setCell ⟨w.heap.size + 1 + 1, 2, none⟩ (.bool false)).setCell ⟨w.heap.size + 1 + 1, 3, none⟩ (.bool false)) = W2
    intro hQ2 hR2 hY2 hq2 hr2 hBB2
    clear x0 x1 x2 x3 y0 y1 y2 y3 y4 y5 y6 y7 q0 q1 q2 q3 q4 q5 q6 q7 r0 r1 r2 r3 r4 r5 r6 r7 hQ1 hR1 hY1 hX1 hq hr hBB1
    obtain ⟨y0, y1, y2, y3, -⟩ := hY2.four
    obtain ⟨q0, q1, q2, q3, q4, q5, q6, q7⟩ := hQ2.four
    obtain ⟨r0, r1, r2, r3, r4, r5, r6, r7⟩ := hR2.four
    go_region
    have hQ3 := ((((hQ2.put4 (.bool false) (.slice a1 n1 c1) (.bool false) (.bool false)).far (p := ⟨w.heap.size + 1 + 1 + 1, 0, none⟩) (by simp) (.bool t)).far (p := ⟨w.heap.size + 1 + 1 + 1, 1, none⟩) (by simp) (.slice a2 n2 c2)).far (p := ⟨w.heap.size + 1 + 1 + 1, 2, none⟩) (by simp) (.bool false)).far (p := ⟨w.heap.size + 1 + 1 + 1, 3, none⟩) (by simp) (.bool false)
    have hR3 := ((((hR2.far (p := ⟨w.heap.size + 1 + 1, 0, none⟩) (by simp) (.bool false)).far (p := ⟨w.heap.size + 1 + 1, 1, none⟩) (by simp) (.slice a1 n1 c1)).far (p := ⟨w.heap.size + 1 + 1, 2, none⟩) (by simp) (.bool false)).far (p := ⟨w.heap.size + 1 + 1, 3, none⟩) (by simp) (.bool false)).put4 (.bool t) (.slice a2 n2 c2) (.bool false) (.bool false)
    have hq3a := hq2.apart4 (hq2.new (show w.heap.size + 1 + 1 < W0.heap.size by omega)) (.bool false) (.slice a1 n1 c1) (.bool false) (.bool false)
    have hq3 := hq3a.apart4 (hq3a.new (show w.heap.size + 1 + 1 + 1 < W0.heap.size by omega)) (.bool t) (.slice a2 n2 c2) (.bool false) (.bool false)
    have hr3a := hr2.apart4 (hr2.new (show w.heap.size + 1 + 1 < W0.heap.size by omega)) (.bool false) (.slice a1 n1 c1) (.bool false) (.bool false)
    have hr3 := hr3a.apart4 (hr3a.new (show w.heap.size + 1 + 1 + 1 < W0.heap.size by omega)) (.bool t) (.slice a2 n2 c2) (.bool false) (.bool false)
    have hBB3 := Below.four (Below.four hBB2 (show w.heap.size ≤ w.heap.size + 1 + 1 by omega) (.bool false) (.slice a1 n1 c1) (.bool false) (.bool false)) (show w.heap.size ≤ w.heap.size + 1 + 1 + 1 by omega) (.bool t) (.slice a2 n2 c2) (.bool false) (.bool false)
    have hQ4 := hQ3.drew
    have hR4 := hR3.drew
    have hq4 := hq3.drew
    have hr4 := hr3.drew
    have hBB4 := hBB3.drew
    clear hQ3 hR3 hq3 hr3 hBB3 hq3a hr3a y0 y1 y2 y3 q0 q1 q2 q3 q4 q5 q6 q7 r0 r1 r2 r3 r4 r5 r6 r7 hQ2 hR2 hY2 hq2 hr2 hBB2
    revert hQ4 hR4 hq4 hr4 hBB4
    generalize ((((((((W2.setCell ⟨w.heap.size + 1 + 1, 0, none⟩ (.bool false)).setCell ⟨w.heap.size + 1 + 1, 1, none⟩ (.slice a1 n1 c1)).setCell ⟨w.heap.size + 1 + 1, 2, none⟩ (.bool false)).setCell ⟨w.heap.size + 1 + 1, 3, none⟩ (.bool false)).setCell ⟨w.heap.size + 1 + 1 + 1, 0, none⟩ (.bool t)).setCell ⟨w.heap.size + 1 + 1 + 1, 1, none⟩ (.slice a2 n2 c2)).setCell ⟨w.heap.size + 1 + 1 + 1, 2, none⟩ (.bool false)).setCell ⟨w.heap.size + 1 + 1 + 1, 3, none⟩ (.bool false)).drew = F
    intro hQ4 hR4 hq4 hr4 hBB4
    obtain ⟨q0, q1, q2, q3, -⟩ := hQ4.four
    obtain ⟨r0, r1, r2, r3, -⟩ := hR4.four
    go_wp2
    refine bodyPost_ret (v := .tuple #[.agg #[.bool false, .slice a1 n1 c1, .bool false, .bool false], .agg #[.bool t, .slice a2 n2 c2, .bool false, .bool false]]) (by simp [results, Tryd.results70, go_sem, q0, q1, q2, q3, r0, r1, r2, r3]; try rfl) rfl ⟨⟨false, t, m / k, m % k, _, _, _, _, _, _, rfl, NatIs.mono hq4 (by omega), NatIs.mono hr4 (by omega), HDV.out⟩, hBB4⟩
  · have hn : ¬ 0 < n2 := by assumption
    obtain ⟨D0, hD0⟩ : ∃ D0, (!s == t) = D0 := ⟨_, rfl⟩
    have HDV : Hid (DivIs (sgI s m) (sgI t k) (sgI D0 (m / k)) (sgI t (m % k))) := Lib.hid (hD0 ▸ div_plain s t m k h0 (.inr (by have := HRL.out; omega)))
    rw [hD0]
    clear hD0
    have hQ2 := hQ1.put4 (.bool D0) (.slice a1 n1 c1) (.bool false) (.bool false)
    have hR2 : Has ((((w1.setCell ⟨w.heap.size + 1 + 1, 0, none⟩ (.bool D0)).setCell ⟨w.heap.size + 1 + 1, 1, none⟩ (.slice a1 n1 c1)).setCell ⟨w.heap.size + 1 + 1, 2, none⟩ (.bool false)).setCell ⟨w.heap.size + 1 + 1, 3, none⟩ (.bool false)) (w.heap.size + 1 + 1 + 1) 46 _ := (((hR1.far (by simp) _).far (by simp) _).far (by simp) _).far (by simp) _
    have hY2 : Has ((((w1.setCell ⟨w.heap.size + 1 + 1, 0, none⟩ (.bool D0)).setCell ⟨w.heap.size + 1 + 1, 1, none⟩ (.slice a1 n1 c1)).setCell ⟨w.heap.size + 1 + 1, 2, none⟩ (.bool false)).setCell ⟨w.heap.size + 1 + 1, 3, none⟩ (.bool false)) (w.heap.size + 1) 46 _ := (((hY1.far (by simp) _).far (by simp) _).far (by simp) _).far (by simp) _
    have hq2 := hq.apart4 (hq.new (show w.heap.size + 1 + 1 < W0.heap.size by omega)) (.bool D0) (.slice a1 n1 c1) (.bool false) (.bool false)
    have hr2 := hr.apart4 (hr.new (show w.heap.size + 1 + 1 < W0.heap.size by omega)) (.bool D0) (.slice a1 n1 c1) (.bool false) (.bool false)
    have hBB2 := Below.four hBB1 (show w.heap.size ≤ w.heap.size + 1 + 1 by omega) (.bool D0) (.slice a1 n1 c1) (.bool false) (.bool false)
    revert hQ2 hR2 hY2 hq2 hr2 hBB2
    generalize ((((w1.setCell ⟨w.heap.size + 1 + 1, 0, none⟩ (.bool D0)).setCell ⟨w.heap.size + 1 + 1, 1, none⟩ (.slice a1 n1 c1)).setCell ⟨w.heap.size + 1 + 1, 2, none⟩ (.bool false)).setCell ⟨w.heap.size + 1 + 1, 3, none⟩ (.bool false)) = W2
    intro hQ2 hR2 hY2 hq2 hr2 hBB2
    clear x0 x1 x2 x3 y0 y1 y2 y3 y4 y5 y6 y7 q0 q1 q2 q3 q4 q5 q6 q7 r0 r1 r2 r3 r4 r5 r6 r7 hQ1 hR1 hY1 hX1 hq hr hBB1
    obtain ⟨y0, y1, y2, y3, -⟩ := hY2.four
    obtain ⟨q0, q1, q2, q3, q4, q5, q6, q7⟩ := hQ2.four
    obtain ⟨r0, r1, r2, r3, r4, r5, r6, r7⟩ := hR2.four
    go_region
    have hQ3 := ((((hQ2.put4 (.bool D0) (.slice a1 n1 c1) (.bool false) (.bool false)).far (p := ⟨w.heap.size + 1 + 1 + 1, 0, none⟩) (by simp) (.bool t)).far (p := ⟨w.heap.size + 1 + 1 + 1, 1, none⟩) (by simp) (.slice a2 n2 c2)).far (p := ⟨w.heap.size + 1 + 1 + 1, 2, none⟩) (by simp) (.bool false)).far (p := ⟨w.heap.size + 1 + 1 + 1, 3, none⟩) (by simp) (.bool false)
    have hR3 := ((((hR2.far (p := ⟨w.heap.size + 1 + 1, 0, none⟩) (by simp) (.bool D0)).far (p := ⟨w.heap.size + 1 + 1, 1, none⟩) (by simp) (.slice a1 n1 c1)).far (p := ⟨w.heap.size + 1 + 1, 2, none⟩) (by simp) (.bool false)).far (p := ⟨w.heap.size + 1 + 1, 3, none⟩) (by simp) (.bool false)).put4 (.bool t) (.slice a2 n2 c2) (.bool false) (.bool false)
    have hq3a := hq2.apart4 (hq2.new (show w.heap.size + 1 + 1 < W0.heap.size by omega)) (.bool D0) (.slice a1 n1 c1) (.bool false) (.bool false)
    have hq3 := hq3a.apart4 (hq3a.new (show w.heap.size + 1 + 1 + 1 < W0.heap.size by omega)) (.bool t) (.slice a2 n2 c2) (.bool false) (.bool false)
    have hr3a := hr2.apart4 (hr2.new (show w.heap.size + 1 + 1 < W0.heap.size by omega)) (.bool D0) (.slice a1 n1 c1) (.bool false) (.bool false)
    have hr3 := hr3a.apart4 (hr3a.new (show w.heap.size + 1 + 1 + 1 < W0.heap.size by omega)) (.bool t) (.slice a2 n2 c2) (.bool false) (.bool false)
    have hBB3 := Below.four (Below.four hBB2 (show w.heap.size ≤ w.heap.size + 1 + 1 by omega) (.bool D0) (.slice a1 n1 c1) (.bool false) (.bool false)) (show w.heap.size ≤ w.heap.size + 1 + 1 + 1 by omega) (.bool t) (.slice a2 n2 c2) (.bool false) (.bool false)
    have hQ4 := hQ3.drew
    have hR4 := hR3.drew
    have hq4 := hq3.drew
    have hr4 := hr3.drew
    have hBB4 := hBB3.drew
    clear hQ3 hR3 hq3 hr3 hBB3 hq3a hr3a y0 y1 y2 y3 q0 q1 q2 q3 q4 q5 q6 q7 r0 r1 r2 r3 r4 r5 r6 r7 hQ2 hR2 hY2 hq2 hr2 hBB2
    revert hQ4 hR4 hq4 hr4 hBB4
    generalize ((((((((W2.setCell ⟨w.heap.size + 1 + 1, 0, none⟩ (.bool D0)).setCell ⟨w.heap.size + 1 + 1, 1, none⟩ (.slice a1 n1 c1)).setCell ⟨w.heap.size + 1 + 1, 2, none⟩ (.bool false)).setCell ⟨w.heap.size + 1 + 1, 3, none⟩ (.bool false)).setCell ⟨w.heap.size + 1 + 1 + 1, 0, none⟩ (.bool t)).setCell ⟨w.heap.size + 1 + 1 + 1, 1, none⟩ (.slice a2 n2 c2)).setCell ⟨w.heap.size + 1 + 1 + 1, 2, none⟩ (.bool false)).setCell ⟨w.heap.size + 1 + 1 + 1, 3, none⟩ (.bool false)).drew = F
    intro hQ4 hR4 hq4 hr4 hBB4
    obtain ⟨q0, q1, q2, q3, -⟩ := hQ4.four
    obtain ⟨r0, r1, r2, r3, -⟩ := hR4.four
    go_wp2
    refine bodyPost_ret (v := .tuple #[.agg #[.bool D0, .slice a1 n1 c1, .bool false, .bool false], .agg #[.bool t, .slice a2 n2 c2, .bool false, .bool false]]) (by simp [results, Tryd.results70, go_sem, q0, q1, q2, q3, r0, r1, r2, r3]; try rfl) rfl ⟨⟨D0, t, m / k, m % k, _, _, _, _, _, _, rfl, NatIs.mono hq4 (by omega), NatIs.mono hr4 (by omega), HDV.out⟩, hBB4⟩
end Go.Proofs.YtmnibfdenmeepaaDoor
/- Div of the program, where nothing is too long. -/
namespace Go.Proofs.YtmnibfdenmeepaaDoor
open Go.RowKit Go.Shelf Big

set_option maxRecDepth 100000 in
set_option maxHeartbeats 2000000 in
theorem Div_of (a b : ByteArray) (w : World) (ha : a.size ≤ 1000) (hb : b.size ≤ 1000) (z1 z2 : Int) (h1 : numOf a.data.toList = some z1) (h2 : numOf b.data.toList = some z2)
    (ht1 : tooL z1.natAbs = false) (ht2 : tooL z2.natAbs = false) (hz : z2 ≠ 0) (hby : ByIs z1.natAbs z2.natAbs) (hs : ∀ q r, DivIs z1 z2 q r → tooL q.natAbs = false ∧ tooL r.natAbs = false) :
    Calls Tryd.prog 24 #[.string a, .string b] w fun e w' => (∃ q r, DivIs z1 z2 q r ∧ e = .returned (.tuple #[.string ⟨(txt q).toArray⟩, .string ⟨(txt r).toArray⟩, .int .i64 0])) ∧ Below w.heap.size w w' := by
  have HS := Lib.hid hs
  have HBY := Lib.hid hby
  have H1 := Lib.hid h1
  have H2 := Lib.hid h2
  have HT1 := Lib.hid ht1
  have HT2 := Lib.hid ht2
  have HZ := Lib.hid hz
  clear hs hby h1 h2 ht1 ht2 hz
  go_enter Tryd.func24, Tryd.ntmps24
  go_wp2_with fail
  refine (parseTwo_any a b w ha hb).mono ?_
  rintro e w1 ⟨⟨s1, a1, n1, c1, g1, o1, t1, s2, a2, n2, c2, g2, o2, t2, rfl, hf1, hf2⟩, hb1⟩
  have hz1 := hb1.size
  have HBE := Lib.hid (fun x y => (hb1.alloc hz1 x).alloc (by simp; omega) y)
  rcases hf1 with ⟨rfl, z1', hz1', hs1, hg1, hn1⟩ | ⟨rfl, hz1'⟩
  case inr => rw [H1.out] at hz1'; cases hz1'
  rcases hf2 with ⟨rfl, z2', hz2', hs2, hg2, hn2⟩ | ⟨rfl, hz2'⟩
  case inr => rw [H2.out] at hz2'; cases hz2'
  rw [H1.out] at hz1'
  rw [H2.out] at hz2'
  injection hz1' with hz1'
  injection hz2' with hz2'
  subst hz1' hz2'
  rw [HT1.out] at hg1
  rw [HT2.out] at hg2
  subst hg1 hg2
  have hn2p : 0 < n2 := by
    obtain ⟨_, _, h⟩ := hn2.slice
    injection h with _ h _
    have : (lims 4294967296 z2.natAbs).length = 0 ↔ z2.natAbs = 0 := by rw [List.length_eq_zero_iff, lims_nil w32_ge]
    have := HZ.out
    omega
  have hn2e : (n2 == 0) = false := by rw [beq_eq_false_iff_ne]; omega
  have hn2i : ((n2 : Int) == 0) = false := by rw [beq_eq_false_iff_ne]; omega
  have HN1 := Lib.hid (fun x y => (hn1.alloc x).alloc y)
  have HN2 := Lib.hid (fun x y => (hn2.alloc x).alloc y)
  have HS1 := Lib.hid hs1
  have HS2 := Lib.hid hs2
  clear hs1 hs2 hn1 hn2
  have hl1 := short_of HT1.out
  have hl2 := short_of HT2.out
  go_wp2_with fail
  have hkp : 0 < z2.natAbs := by have := HZ.out; omega
  refine (divide_any w.heap.size w.heap.size z1.natAbs z2.natAbs _ _ _ _ _ _ _ _ _ (HN1.out _ _) (HN2.out _ _) hl1 hl2 hkp HBY.out).mono ?_
  rintro e w2 ⟨⟨qs, rs, n, j, a3, n3, c3, a4, n4, c4, rfl, hq, hr, hdv⟩, hb2⟩
  rw [HS1.out, HS2.out, sg_z, sg_z] at hdv
  have hb2z := hb2.size
  have htt := HS.out _ _ hdv
  have HTT := Lib.hid htt
  rw [sg_abs, sg_abs] at htt
  have hnl := short_of htt.1
  have hjl := short_of htt.2
  have HDV := Lib.hid hdv
  have HQ := Lib.hid (fun x y => (hq.alloc x).alloc y)
  have HR := Lib.hid (fun x y => (hr.alloc x).alloc y)
  have HB2 := Lib.hid ((HBE.out (.cells #[.bool s1, .slice a1 n1 c1, .bool false, .bool o1] 46) (.cells #[.bool s2, .slice a2 n2 c2, .bool false, .bool o2] 46)).trans (hb2.mono (by simp; omega)))
  have HB3 := Lib.hid (fun x y => (HB2.out.alloc (by simp at hb2z; omega) x).alloc (by simp at hb2z ⊢; omega) y)
  simp only [World.size_alloc] at hb2z
  clear htt hdv hq hr hb2
  go_wp2_with fail
  refine (text_any _ n _ _ _ _ _ (HQ.out _ _) hnl).mono ?_
  rintro e w3 ⟨ht, hb3⟩
  have htd := ht.told
  have hz3 := hb3.size
  have HR3 := Lib.hid ((HR.out _ _).kept hb3)
  have HB4 := Lib.hid ((HB3.out _ _).trans (hb3.mono (by simp; omega)))
  unfold told retS at htd
  rw [HTT.out.1, if_neg (by simp)] at htd
  subst htd
  have hcR := (Has.new' (n := w2.heap.size + 1) (w := w2.alloc (.cells #[.bool qs, .slice a3 n3 c3, .bool false, .bool false] 46)) (by simp) 46 #[.bool rs, .slice a4 n4 c4, .bool false, .bool false]).below hb3
  clear ht hb3
  obtain ⟨r0, r1, r2, r3, -⟩ := hcR.four
  go_wp2_with fail
  refine (text_any _ j _ _ _ _ _ HR3.out hjl).mono ?_
  rintro e w4 ⟨ht, hb4⟩
  have htd := ht.told
  unfold told retS at htd
  rw [HTT.out.2, if_neg (by simp)] at htd
  subst htd
  simp only [World.size_alloc] at hz3
  have HB5 := Lib.hid (HB4.out.trans (hb4.mono (by omega)))
  clear ht hb4
  go_wp2
  go_ret3
  exact ⟨⟨_, _, HDV.out, rfl⟩, HB5.out⟩
end Go.Proofs.YtmnibfdenmeepaaDoor
/- Base of the program; the sanity check. -/
namespace Go.Proofs.YtmnibfdenmeepaaDoor
open Go.RowKit Go.Shelf Big

set_option maxRecDepth 100000 in
set_option maxHeartbeats 2000000 in
theorem Base_of (a : ByteArray) (b : Nat) (w : World) (ha : a.size ≤ 1000) (hb : 2 ≤ b) (hb2 : b ≤ 36) (z : Int) (h1 : numOf a.data.toList = some z) (ht1 : tooL z.natAbs = false) (hp : 0 ≤ z) (hN : (lims b z.natAbs).length ≤ 4000000) :
    Calls Tryd.prog 44 #[.string a, .int .i64 (b : Int)] w fun e w' => e = .returned (.tuple #[.string ⟨(digs b z.natAbs).toArray⟩, .int .i64 0]) ∧ Below w.heap.size w w' := by
  have H1 := Lib.hid h1
  have HT1 := Lib.hid ht1
  have HP := Lib.hid hp
  have HN := Lib.hid hN
  clear h1 ht1 hp hN
  have hi1 : decide ((b : Int) < 2) = false := by rw [decide_eq_false_iff_not]; omega
  have hi2 : decide ((36 : Int) < (b : Int)) = false := by rw [decide_eq_false_iff_not]; omega
  have hi3 : decide (b < 2) = false := by rw [decide_eq_false_iff_not]; omega
  have hi4 : decide (36 < b) = false := by rw [decide_eq_false_iff_not]; omega
  go_enter Tryd.func44, Tryd.ntmps44
  go_wp2_with fail
  refine (parse_any a w ha).mono ?_
  rintro e w1 ⟨hp1, hb1⟩
  obtain ⟨s1, a1, n1, c1, g1, o1, t1, rfl, hf1⟩ := hp1.form
  have hz1 := hb1.size
  have HBE := Lib.hid (fun x => hb1.alloc hz1 x)
  rcases hf1 with ⟨rfl, z1', hz1', hs1, hg1, hn1⟩ | ⟨rfl, hz1'⟩
  case inr => rw [H1.out] at hz1'; cases hz1'
  rw [H1.out] at hz1'
  injection hz1' with hz1'
  subst hz1'
  rw [HT1.out] at hg1
  rw [decide_eq_false (Int.not_lt.2 HP.out)] at hs1
  subst hg1 hs1
  have HN1 := Lib.hid (fun x => hn1.alloc x)
  clear hn1 hp1 hb1
  have hl1 := short_of HT1.out
  go_wp2_with fail
  refine (digits_any w.heap.size _ b z.natAbs _ (HN1.out _) hb hb2 hl1 HN.out).mono ?_
  rintro e w2 ⟨rfl, hb2⟩
  have HB2 := Lib.hid ((HBE.out _).trans (hb2.mono (by simp; omega)))
  clear hb2
  go_wp2
  go_ret2
  exact ⟨rfl, HB2.out⟩

theorem num_m7 : numOf (⟨#[45, 55]⟩ : ByteArray).data.toList = some (-7) := by decide
theorem num_2 : numOf (⟨#[50]⟩ : ByteArray).data.toList = some 2 := by decide
theorem num_255 : numOf (⟨#[50, 53, 53]⟩ : ByteArray).data.toList = some 255 := by decide
theorem tool_small {n : Nat} (h : n < 1000) : tooL n = false := by
  unfold tooL
  rw [decide_eq_false_iff_not]
  have h1 := p1
  have h2 : 2 ^ 10 ≤ 2 ^ k1987 := Nat.pow_le_pow_right (by omega) (by unfold k1987; omega)
  omega
end Go.Proofs.YtmnibfdenmeepaaDoor
/- The sanity check. -/
namespace Go.Proofs.YtmnibfdenmeepaaDoor
open Go.RowKit Go.Shelf Big

theorem div_at (q r : Int) (h : DivIs (-7) 2 q r) : q = -4 ∧ r = 1 := by
  unfold DivIs at h
  omega
theorem digs_one {b n : Nat} (hb : 2 ≤ b) (h0 : 0 < n) (h : n < b) : digs b n = [chr n] := by
  unfold digs
  rw [if_neg (by omega), lims_pos hb h0, Nat.mod_eq_of_lt h, Nat.div_eq_of_lt h, lims_zero]; rfl
theorem digs_ff : digs 16 (255 : Int).natAbs = [102, 102] := by
  show digs 16 255 = _
  unfold digs
  rw [if_neg (by omega), lims_pos (by omega) (by omega), lims_pos (by omega) (by omega)]
  rw [show 255 / 16 / 16 = 0 from rfl, lims_zero]; rfl
set_option maxRecDepth 100000 in
set_option maxHeartbeats 2000000 in
theorem awake_any (w : World) :
    Calls Tryd.prog 11 #[] w fun e w' => e = .returned (.bool true) ∧ Below w.heap.size w w' := by
  have hDv := Lib.hid (Div_of ⟨#[45, 55]⟩ ⟨#[50]⟩ w (by decide) (by decide) (-7) 2 num_m7 num_2 (tool_small (by decide)) (tool_small (by decide)) (by decide)
    (byIs_one (by show (lims 4294967296 7).length ≤ _; rw [lims_one (by omega) (by omega)]; simp) (by decide) (by decide) (by decide))
    (fun q r h => by obtain ⟨rfl, rfl⟩ := div_at q r h; exact ⟨tool_small (by decide), tool_small (by decide)⟩))
  have h16 : (lims 16 255).length ≤ 4000000 := by
    have := (lims_len_le (B := 16) (by omega) 255 2).2 (by decide)
    omega
  have hBs := Lib.hid (fun W => Base_of ⟨#[50, 53, 53]⟩ 16 W (by decide) (by omega) (by omega) 255 num_255 (tool_small (by decide)) (by decide) h16)
  have ht4 : txt (-4) = [45, 52] := by
    unfold txt
    rw [if_pos (by decide), show (-4 : Int).natAbs = 4 from rfl, digs_one (by omega) (by omega) (by omega)]; rfl
  have ht1 : txt 1 = [49] := by
    unfold txt
    rw [if_neg (by decide), show (1 : Int).natAbs = 1 from rfl, digs_one (by omega) (by omega) (by omega)]; rfl
  have htf : digs 16 (255 : Int).natAbs = [102, 102] := digs_ff
  have HT4 := Lib.hid ht4
  have HT1 := Lib.hid ht1
  have HTF := Lib.hid htf
  clear ht4 ht1 htf h16
  go_enter Tryd.func11, Tryd.ntmps11
  go_wp2_with fail
  refine hDv.out.mono ?_
  rintro e w1 ⟨⟨q, r, hd, rfl⟩, hb1⟩
  obtain ⟨rfl, rfl⟩ := div_at q r hd
  rw [HT4.out, HT1.out]
  have hz1 := hb1.size
  clear hd
  go_wp2_with fail
  refine (hBs.out w1).mono ?_
  rintro e w2 ⟨rfl, hb2⟩
  rw [HTF.out]
  have HB := Lib.hid (Below.behind hb1 hb2)
  clear hb1 hb2
  go_wp2
  go_ret
  exact ⟨rfl, HB.out⟩
end Go.Proofs.YtmnibfdenmeepaaDoor
/- within, small, Digit of the reference of layer 1. -/
namespace Go.Proofs.YtmnibfdenmeepaaDoor
open Go.RowKit Go.Shelf Big

theorem within_any (n lo hi : Int) (w : World) (b : Bool) (hb : b = (decide (lo ≤ n) && decide (n ≤ hi))) :
    Calls Tryd.prog 143 #[.int .i64 n, .int .i64 lo, .int .i64 hi] w fun e w' => e = .returned (.bool b) ∧ w = w' := by
  by_cases h1 : lo ≤ n <;> by_cases h2 : n ≤ hi
  all_goals
    have H : Hid (b = (decide (lo ≤ n) && decide (n ≤ hi))) := Lib.hid hb
    clear hb
    go_enter Tryd.func143, Tryd.ntmps143
    go_wp2
    go_ret
    exact ⟨by rw [H.out]; simp [h1, h2], rfl⟩
def sml (n : Nat) : Nat := if 65 ≤ n ∧ n ≤ 90 then n + 32 else n
theorem refSmall_any (n : Nat) (hn : n < 256) (w : World) : Calls Tryd.prog 144 #[.int .u8 (n : Int)] w fun e w' => e = .returned (.int .u8 (sml n : Int)) ∧ w = w' := by
  have hw := Lib.hid (fun W => within_any (n : Int) 65 90 W _ rfl)
  by_cases h : 65 ≤ n ∧ n ≤ 90
  · have H := Lib.hid (show (sml n : Int) = (n : Int) + 32 by unfold sml; rw [if_pos h]; omega)
    have hT : (decide ((65 : Int) ≤ (n : Int)) && decide ((n : Int) ≤ 90)) = true := by simp; omega
    have HT := Lib.hid hT
    clear hT
    go_enter Tryd.func144, Tryd.ntmps144
    go_wp2_with (go_at_call 143; refine (hw.out _).mono ?_; rintro e w' ⟨rfl, rfl⟩; rw [HT.out])
    go_ret
    exact ⟨by rw [H.out]; rfl, rfl⟩
  · have H := Lib.hid (show (sml n : Int) = (n : Int) by unfold sml; rw [if_neg h])
    have hT : (decide ((65 : Int) ≤ (n : Int)) && decide ((n : Int) ≤ 90)) = false := by simp; omega
    have HT := Lib.hid hT
    clear hT h
    go_enter Tryd.func144, Tryd.ntmps144
    go_wp2_with (go_at_call 143; refine (hw.out _).mono ?_; rintro e w' ⟨rfl, rfl⟩; rw [HT.out])
    go_ret
    exact ⟨by rw [H.out]; rfl, rfl⟩
/-- What a digit of a base is worth; -1 for another byte. -/
def rdg (c : UInt8) (b : Nat) : Int := if dg c < b then (dg c : Int) else -1
set_option maxRecDepth 100000 in
set_option maxHeartbeats 1000000 in
theorem rdigit_any (c : UInt8) (b : Nat) (hb : b ≤ 36) (w : World) : Calls Tryd.prog 136 #[.int .u8 (c.toNat : Int), .int .i64 (b : Int)] w fun e w' => e = .returned (.int .i64 (rdg c b)) ∧ w = w' := by
  have hc := c.toNat_lt
  have HD : Hid (dg c = if 48 ≤ c.toNat ∧ c.toNat ≤ 57 then c.toNat - 48 else if 97 ≤ c.toNat ∧ c.toNat ≤ 122 then c.toNat - 87 else if 65 ≤ c.toNat ∧ c.toNat ≤ 90 then c.toNat - 55 else 99) := Lib.hid rfl
  have HR : Hid (rdg c b = if dg c < b then (dg c : Int) else -1) := Lib.hid rfl
  revert HD HR hc
  generalize rdg c b = R
  generalize dg c = r
  generalize c.toNat = n
  intro hc HD HR
  have hw1 := Lib.hid (fun W => within_any (n : Int) 48 57 W _ rfl)
  have hw2 := Lib.hid (fun W => within_any (sml n : Int) 97 122 W _ rfl)
  have hsm := Lib.hid (fun W => refSmall_any n hc W)
  by_cases h1 : 48 ≤ n ∧ n ≤ 57
  · have hr : r = n - 48 := by rw [HD.out, if_pos h1]
    have HT1 := Lib.hid (show (decide ((48 : Int) ≤ (n : Int)) && decide ((n : Int) ≤ 57)) = true by simp; omega)
    obtain ⟨h1a, h1b⟩ := h1
    by_cases h2 : r < b
    · have H := Lib.hid (show R = (n : Int) - 48 by rw [HR.out, if_pos h2]; omega)
      have g : (n : Int) - 48 < (b : Int) := by omega
      clear hr h2
      go_enter Tryd.func136, Tryd.ntmps136
      go_wp2_with (go_at_call 143; refine (hw1.out _).mono ?_; rintro e w' ⟨rfl, rfl⟩; rw [HT1.out])
      go_ret
      exact ⟨by rw [H.out]; rfl, rfl⟩
    · have H := Lib.hid (show R = -1 by rw [HR.out, if_neg h2])
      have g : (b : Int) ≤ (n : Int) - 48 := by omega
      clear hr h2
      go_enter Tryd.func136, Tryd.ntmps136
      go_wp2_with (go_at_call 143; refine (hw1.out _).mono ?_; rintro e w' ⟨rfl, rfl⟩; rw [HT1.out])
      go_ret
      exact ⟨by rw [H.out]; rfl, rfl⟩
  · have HT1 := Lib.hid (show (decide ((48 : Int) ≤ (n : Int)) && decide ((n : Int) ≤ 57)) = false by simp; omega)
    by_cases h2 : 97 ≤ sml n ∧ sml n ≤ 122
    · have hr : r = sml n - 87 := by
        rw [HD.out, if_neg h1]
        unfold sml at h2 ⊢
        split at h2
        · rename_i h3
          rw [if_neg (by omega), if_pos h3, if_pos h3]; omega
        · rename_i h3
          rw [if_pos h2, if_neg h3]
      have hs : sml n < 256 := by omega
      have HT2 := Lib.hid (show (decide ((97 : Int) ≤ (sml n : Int)) && decide ((sml n : Int) ≤ 122)) = true by simp; omega)
      obtain ⟨h2a, h2b⟩ := h2
      revert hr hw2 hsm HT2 h2a h2b hs
      generalize sml n = m
      intro hw2 hsm hr hs HT2 h2a h2b
      by_cases h3 : r < b
      · have H := Lib.hid (show R = (m : Int) - 97 + 10 by rw [HR.out, if_pos h3]; omega)
        have g : (m : Int) - 97 + 10 < (b : Int) := by omega
        clear hr h3 h1
        go_enter Tryd.func136, Tryd.ntmps136
        go_wp2_with (first | (go_at_call 144; refine (hsm.out _).mono ?_; rintro e w' ⟨rfl, rfl⟩) | (go_at_call 143; refine (within_any _ _ _ _ _ rfl).mono ?_; rintro e w' ⟨rfl, rfl⟩; first | rw [HT1.out] | rw [HT2.out]))
        go_ret
        exact ⟨by rw [H.out]; rfl, rfl⟩
      · have H := Lib.hid (show R = -1 by rw [HR.out, if_neg h3])
        have g : (b : Int) ≤ (m : Int) - 97 + 10 := by omega
        clear hr h3 h1
        go_enter Tryd.func136, Tryd.ntmps136
        go_wp2_with (first | (go_at_call 144; refine (hsm.out _).mono ?_; rintro e w' ⟨rfl, rfl⟩) | (go_at_call 143; refine (within_any _ _ _ _ _ rfl).mono ?_; rintro e w' ⟨rfl, rfl⟩; first | rw [HT1.out] | rw [HT2.out]))
        go_ret
        exact ⟨by rw [H.out]; rfl, rfl⟩
    · have H := Lib.hid (show R = -1 by
        have hr : r = 99 := by
          rw [HD.out, if_neg h1]
          unfold sml at h2
          split at h2
          · omega
          · rename_i h3
            rw [if_neg h2, if_neg h3]
        rw [HR.out, if_neg (by omega)])
      have HT2 := Lib.hid (show (decide ((97 : Int) ≤ (sml n : Int)) && decide ((sml n : Int) ≤ 122)) = false by simp; omega)
      have g : ¬ (b : Int) ≤ -1 := by omega
      have g2 : (-1 : Int) < (b : Int) := by omega
      have g3 : decide ((b : Int) ≤ -1) = false := by rw [decide_eq_false_iff_not]; exact g
      have hs : sml n < 256 := by unfold sml; split <;> omega
      clear h1 h2
      revert hsm HT2 hw2 hs
      generalize sml n = m
      intro hw2 hsm HT2 hs
      go_enter Tryd.func136, Tryd.ntmps136
      go_wp2_with (first | (go_at_call 144; refine (hsm.out _).mono ?_; rintro e w' ⟨rfl, rfl⟩) | (go_at_call 143; refine (within_any _ _ _ _ _ rfl).mono ?_; rintro e w' ⟨rfl, rfl⟩; first | rw [HT1.out] | rw [HT2.out]))
      go_ret
      exact ⟨by rw [H.out]; rfl, rfl⟩
theorem rDigit_any (c : UInt8) (b : Nat) (hb : b ≤ 36) (w : World) : Calls Tryd.prog 122 #[.int .u8 (c.toNat : Int), .int .i64 (b : Int)] w fun e w' => e = .returned (.int .i64 (rdg c b)) ∧ w = w' := by
  have h := Lib.hid (fun W => rdigit_any c b hb W)
  go_enter Tryd.func122, Tryd.ntmps122
  go_wp2_with (go_at_call 136; refine (h.out _).mono ?_; rintro e w' ⟨rfl, rfl⟩)
  go_ret
  exact ⟨rfl, rfl⟩
end Go.Proofs.YtmnibfdenmeepaaDoor
/- has, Trim, Strip of the reference of layer 1, for the white bytes. -/
namespace Go.Proofs.YtmnibfdenmeepaaDoor
open Go.RowKit Go.Shelf Big

def whs : ByteArray := ⟨#[9, 10, 11, 12, 13, 32]⟩
theorem whs_size : whs.size = 6 := rfl
theorem whs_get (c : UInt8) : (∃ k, ∃ h : k < whs.size, whs[k] = c) ↔ wht c = true := by
  constructor
  · rintro ⟨k, hk, rfl⟩
    have : k < 6 := hk
    rcases (show k = 0 ∨ k = 1 ∨ k = 2 ∨ k = 3 ∨ k = 4 ∨ k = 5 by omega) with rfl | rfl | rfl | rfl | rfl | rfl <;> (clear this; revert hk; decide)
  · intro h
    unfold wht at h
    simp only [Bool.or_eq_true, decide_eq_true_eq] at h
    have e : ∀ d : UInt8, d.toNat = c.toNat → d = c := fun d hd => UInt8.toNat_inj.1 hd
    rcases (show c.toNat = 9 ∨ c.toNat = 10 ∨ c.toNat = 11 ∨ c.toNat = 12 ∨ c.toNat = 13 ∨ c.toNat = 32 by omega) with h | h | h | h | h | h
    · exact ⟨0, by decide, e 9 h.symm⟩
    · exact ⟨1, by decide, e 10 h.symm⟩
    · exact ⟨2, by decide, e 11 h.symm⟩
    · exact ⟨3, by decide, e 12 h.symm⟩
    · exact ⟨4, by decide, e 13 h.symm⟩
    · exact ⟨5, by decide, e 32 h.symm⟩
theorem has_g (s : ByteArray) (c : UInt8) (b : Bool) (w : World) (hs : s.size ≤ 400) (hb : (∃ k, ∃ h : k < s.size, s[k] = c) ↔ b = true) :
    Calls Tryd.prog 137 #[.string s, .int .u8 (c.toNat : Int)] w fun e w' => e = .returned (.bool b) ∧ w = w' := by
  have HB := Lib.hid hb
  clear hb
  go_enter Tryd.func137, Tryd.ntmps137
  go_wp2
  go_loopg [8] s.size (fun g v wx => ∃ k : Nat, v = .int .i64 k ∧ k + g = s.size ∧ (∀ j, ∀ h : j < s.size, j < k → s[j] ≠ c) ∧ w = wx)
  case atStart => exact ⟨0, rfl, by omega, fun _ _ h => absurd h (Nat.not_lt_zero _), rfl⟩
  case round =>
    obtain ⟨k, rfl, hkg, hno, rfl⟩ := hrel
    by_cases hk : k < s.size
    · have hk1 : (k : Int) < (s.size : Int) := by omega
      have hk0 : (0 : Int) ≤ (k : Int) := by omega
      by_cases he : s[k] = c
      · have H := Lib.hid (show b = true from HB.out.1 ⟨k, hk, he⟩)
        have hq : ((s[k].toNat : Int) == (c.toNat : Int)) = true := by rw [he]; simp
        clear hno
        go_wp2
        go_ret
        exact ⟨by rw [H.out]; rfl, rfl⟩
      · have hq : ((s[k].toNat : Int) == (c.toNat : Int)) = false := by
          simp only [beq_eq_false_iff_ne, ne_eq]
          intro h
          exact he (UInt8.toNat_inj.1 (by omega))
        have HN := Lib.hid (show ∀ j, ∀ h : j < s.size, j < k + 1 → s[j] ≠ c from fun j h hj => by
          rcases Nat.lt_or_ge j k with h1 | h1
          · exact hno j h h1
          · obtain rfl : j = k := by omega
            exact he)
        obtain ⟨g, rfl⟩ : ∃ g, gk = g + 1 := ⟨gk - 1, by omega⟩
        clear hno
        go_wp2
        go_roundg g
        case measure => omega
        case rel => exact ⟨k + 1, rfl, by omega, HN.out, rfl⟩
    · have hk1 : ¬ (k : Int) < (s.size : Int) := by omega
      have H := Lib.hid (show b = false by
        cases b with
        | false => rfl
        | true =>
          obtain ⟨j, h, e⟩ := HB.out.2 rfl
          exact absurd e (hno j h (by omega)))
      clear hno
      go_wp2
      go_ret
      exact ⟨by rw [H.out]; rfl, rfl⟩
theorem has_white (c : UInt8) (w : World) :
    Calls Tryd.prog 137 #[.string whs, .int .u8 (c.toNat : Int)] w fun e w' => e = .returned (.bool (wht c)) ∧ w = w' :=
  has_g whs c (wht c) w (by rw [whs_size]; omega) (whs_get c)

set_option maxHeartbeats 4000000 in
set_option maxRecDepth 100000 in
theorem trim_white (s : ByteArray) (w : World) (hs : s.size ≤ 1000000000000000000) :
    Calls Tryd.prog 127 #[.string s, .string whs, .bool true, .bool true] w fun e w' => (∃ T : ByteArray, e = .returned (.string T) ∧ T.size ≤ s.size ∧ T.data.toList = strip s.data.toList) ∧ w = w' := by
  have HW := Lib.hid has_white
  generalize whs = X at HW ⊢
  go_enter Tryd.func127, Tryd.ntmps127
  go_upto_block 0 with fail
  go_cut [0] from 9 to 21 (fun v0 wx => w = wx ∧ ∃ S : ByteArray, v0 = .string S ∧ S.size ≤ s.size ∧ S.data.toList = s.data.toList.dropWhile wht)
  case first =>
    go_wp2_with fail
    go_loopg [0] s.size (fun g v0 wx => w = wx ∧ ∃ S : ByteArray, v0 = .string S ∧ S.size = g ∧ g ≤ s.size ∧ S.data.toList.dropWhile wht = s.data.toList.dropWhile wht)
    case atStart => exact ⟨rfl, s, rfl, rfl, Nat.le_refl _, rfl⟩
    case round =>
      obtain ⟨rfl, S, rfl, hg, hg4, hT⟩ := hrel
      have HT := Lib.hid hT
      clear hT
      by_cases hE : S.toList.isEmpty = true
      · go_wp2
        go_meet
        refine ⟨rfl, S, rfl, by omega, ?_⟩
        rw [← HT.out, (empty_iff S).1 hE]
        rfl
      have hp := size_pos hE
      have hE' : S.toList.isEmpty = false := by simpa using hE
      clear hE
      have hp1 : (0 : Int) < (S.size : Int) := by omega
      have hp2 : (1 : Int) ≤ (S.size : Int) := by omega
      obtain ⟨c, hc0⟩ : ∃ c, S[0] = c := ⟨_, rfl⟩
      have HC0 := Lib.hid hc0
      have hc := fun W => HW.out c W
      cases hh : wht c with
      | true =>
        simp only [hh] at hc
        have HC := Lib.hid hc
        have HN := Lib.hid (show (S.extract 1 S.size).data.toList.dropWhile wht = s.data.toList.dropWhile wht by
          rw [← HT.out, Lib.extract_data, List.take_of_length_le (by rw [List.length_drop, ← Lib.size_eq]; exact Nat.le_refl _)]
          conv => rhs; rw [head_split S hp, List.dropWhile_cons_of_pos (by rw [hc0]; exact hh)])
        obtain ⟨g, rfl⟩ : ∃ g, gk = g + 1 := ⟨gk - 1, by omega⟩
        have HG := Lib.hid hg
        clear hc hh hc0 hg
        go_wp2_with (go_at_call 137; rw [HC0.out]; refine (HC.out _).mono ?_; rintro e w' ⟨rfl, rfl⟩)
        go_roundg g
        case measure => omega
        case rel => exact ⟨rfl, S.extract 1 S.size, rfl, by have := HG.out; simp; omega, by omega, HN.out⟩
      | false =>
        simp only [hh] at hc
        have HC := Lib.hid hc
        have HN := Lib.hid (show S.data.toList = s.data.toList.dropWhile wht by
          rw [← HT.out]
          conv => rhs; rw [head_split S hp, List.dropWhile_cons_of_neg (by rw [hc0, hh]; simp), ← head_split S hp])
        clear hc hh hc0
        go_wp2_with (go_at_call 137; rw [HC0.out]; refine (HC.out _).mono ?_; rintro e w' ⟨rfl, rfl⟩)
        go_meet
        exact ⟨rfl, S, rfl, by omega, HN.out⟩
  case rest =>
    obtain ⟨rfl, S1, rfl, hS1, hD⟩ := hcut
    have HD := Lib.hid hD
    clear hD
    go_wp2_with fail
    go_loopg [0] S1.size (fun g v0 wx => w = wx ∧ ∃ T : ByteArray, v0 = .string T ∧ T.size = g ∧ g ≤ s.size ∧ stripR T.data.toList = strip s.data.toList)
    case atStart => exact ⟨rfl, S1, rfl, rfl, hS1, by rw [strip_eq, HD.out]⟩
    case round =>
      obtain ⟨rfl, T, rfl, hg, hg4, hT⟩ := hrel
      have HT := Lib.hid hT
      clear hT
      by_cases hE : T.toList.isEmpty = true
      · go_wp2
        go_ret
        refine ⟨⟨T, rfl, by omega, ?_⟩, rfl⟩
        rw [← HT.out, (empty_iff T).1 hE]
        rfl
      have hp := size_pos hE
      have hE' : T.toList.isEmpty = false := by simpa using hE
      clear hE
      obtain ⟨j, hj⟩ : ∃ j, T.size = j + 1 := ⟨T.size - 1, by omega⟩
      have hjl : j < T.size := by omega
      have hp0 : (0 : Int) ≤ (j : Int) := by omega
      have hp1 : (j : Int) < (T.size : Int) := by omega
      have hp2 : (T.size : Int) - 1 = (j : Int) := by omega
      have hp3 : (j : Int) ≤ (T.size : Int) := by omega
      have hpw : wrap64 (j : Int) = (j : Int) := by unfold wrap64; omega
      obtain ⟨c, hc0⟩ : ∃ c, T[j] = c := ⟨_, rfl⟩
      have HC0 := Lib.hid hc0
      have hc := fun W => HW.out c W
      have HJ := Lib.hid hj
      have HG := Lib.hid hg
      cases hh : wht c with
      | true =>
        simp only [hh] at hc
        have HC := Lib.hid hc
        have HN := Lib.hid (show stripR (T.extract 0 j).data.toList = strip s.data.toList by
          rw [← HT.out, Lib.extract_data, List.drop_zero, Nat.sub_zero]
          unfold stripR
          conv => rhs; rw [last_split T j hjl hj, List.dropWhile_cons_of_pos (by rw [hc0]; exact hh)])
        obtain ⟨g, rfl⟩ : ∃ g, gk = g + 1 := ⟨gk - 1, by omega⟩
        clear hc hh hj hg hc0
        go_wp2_with (go_at_call 137; rw [HC0.out]; refine (HC.out _).mono ?_; rintro e w' ⟨rfl, rfl⟩)
        go_roundg g
        case measure => omega
        case rel => exact ⟨rfl, T.extract 0 j, rfl, by have := HG.out; have := HJ.out; simp; omega, by omega, HN.out⟩
      | false =>
        simp only [hh] at hc
        have HC := Lib.hid hc
        have HN := Lib.hid (show T.data.toList = strip s.data.toList by
          rw [← HT.out]
          unfold stripR
          rw [last_split T j hjl hj, List.dropWhile_cons_of_neg (by rw [hc0, hh]; simp), ← last_split T j hjl hj, List.reverse_reverse])
        clear hc hh hj hg hc0
        go_wp2_with (go_at_call 137; rw [HC0.out]; refine (HC.out _).mono ?_; rintro e w' ⟨rfl, rfl⟩)
        go_ret
        exact ⟨⟨T, rfl, by have := HG.out; omega, HN.out⟩, rfl⟩
theorem Strip_any (s : ByteArray) (w : World) (hs : s.size ≤ 1000000000000000000) :
    Calls Tryd.prog 104 #[.string s] w fun e w' => (∃ T : ByteArray, e = .returned (.string T) ∧ T.size ≤ s.size ∧ T.data.toList = strip s.data.toList) ∧ w = w' := by
  have h := Lib.hid (trim_white s w hs)
  go_enter Tryd.func104, Tryd.ntmps104
  go_wp2_with (go_at_call 127; refine h.out.mono ?_; rintro e w' ⟨⟨T, rfl, hT1, hT2⟩, rfl⟩)
  go_ret
  exact ⟨⟨T, rfl, hT1, hT2⟩, rfl⟩
end Go.Proofs.YtmnibfdenmeepaaDoor
/- trimmed, num of the reference: decimal digits, the lowest first. -/
namespace Go.Proofs.YtmnibfdenmeepaaDoor
open Go.RowKit Go.Shelf Big

theorem ten_ge : 2 ≤ 10 := by decide
def i64v (d : Nat) : Value := .int .i64 (d : Int)
/-- A slice holds a number's decimal digits. -/
def DecIs (w : World) (B : Nat) (v : Value) (n : Nat) : Prop := w.ownsRow B 3 1 v (lims 10 n).length ((lims 10 n).map i64v)
def Ten (ds : List Nat) : Prop := ∀ d ∈ ds, d < 10
theorem DecIs.kept {w w' : World} {B : Nat} {v : Value} {n : Nat} (h : DecIs w B v n) (hb : Below w.heap.size w w') : DecIs w' B v n := own_below h hb
theorem DecIs.slice {w : World} {B : Nat} {v : Value} {n : Nat} (h : DecIs w B v n) : ∃ ao c, v = .slice ao (lims 10 n).length c := slice_of_own h
theorem DecIs.alloc {w : World} {B n : Nat} {v : Value} (h : DecIs w B v n) (o : Obj) : DecIs (w.alloc o) B v n := World.ownsRow.alloc h o
theorem trim_owns {w : World} {B g cap k : Nat} {ds : List Nat} (h : w.ownsRow B 3 1 (.slice (some ⟨g, 0, none⟩) ds.length cap) ds.length (ds.map i64v)) (ht : lims 10 (ev 10 ds) = ds.take k) (hk : k ≤ ds.length) :
    DecIs w B (.slice (some ⟨g, 0, none⟩) k cap) (ev 10 ds) := by
  unfold DecIs
  rw [ht]
  have hl : (ds.take k).length = k := by simp; omega
  rw [hl]
  rcases h.2 with ⟨e, _⟩ | ⟨g', cap', cur, e, hb, hg, hn, hc, hz, hx⟩
  · cases e
  · cases e
    refine ⟨by simp; omega, .inr ⟨g, cap, cur, rfl, hb, hg, by omega, hc, hz, ?_⟩⟩
    have : cur.toList.take (k * 1) = (cur.toList.take (ds.length * 1)).take k := by rw [List.take_take]; congr 1; omega
    rw [this, hx, List.map_take]

set_option maxHeartbeats 800000 in
theorem trimmed_any (B : Nat) (v : Value) (ds : List Nat) (w : World) (h : w.ownsRow B 3 1 v ds.length (ds.map i64v)) (hs : Ten ds) (hl : ds.length ≤ 1000000000000000000) :
    Calls Tryd.prog 89 #[v] w fun e w' => (∃ v', e = .returned v' ∧ DecIs w B v' (ev 10 ds)) ∧ w = w' := by
  rcases h.2 with ⟨rfl, h0⟩ | ⟨g, cap, cur, rfl, hb, hg, hn, hc, hz, ht⟩
  · have e : ds = [] := List.eq_nil_of_length_eq_zero h0
    subst e
    go_enter Tryd.func89, Tryd.ntmps89
    go_wp2
    go_loop [0] (fun v => v = .slice none 0 0) (fun _ => 0)
    case atStart => rfl
    case round =>
      subst hrel
      go_wp2
      go_ret
      refine ⟨⟨_, rfl, ?_⟩, rfl⟩
      show w.ownsRow _ _ _ _ (lims 10 0).length ((lims 10 0).map i64v)
      rw [lims_zero]
      exact World.ownsRow_nil _ _ _ _
  · have hcell : ∀ j, (hj : j < ds.length) → w.cell? ⟨g, j, none⟩ = some (.int .i64 (ds[j] : Int)) := fun j hj => by
      rw [World.ownsRow.cellAt h j (by omega), List.getElem?_map, List.getElem?_eq_getElem hj]; rfl
    have HC := Lib.hid hcell
    have HH := Lib.hid h
    clear hcell h ht
    go_enter Tryd.func89, Tryd.ntmps89
    go_wp2
    go_loopg [0] ds.length (fun k v wx => w = wx ∧ v = .slice (some ⟨g, 0, none⟩) k cap ∧ k ≤ ds.length ∧ ev 10 (ds.take k) = ev 10 ds)
    case atStart => exact ⟨rfl, rfl, Nat.le_refl _, by rw [List.take_length]⟩
    case round =>
      obtain ⟨rfl, rfl, hk, he⟩ := hrel
      have HE := Lib.hid he
      clear he
      cases gk with
      | zero =>
        have HT := Lib.hid (lims_take ten_ge hs (Nat.zero_le _) HE.out (by simp))
        go_wp2
        go_ret
        exact ⟨⟨_, rfl, trim_owns HH.out HT.out (by omega)⟩, rfl⟩
      | succ k =>
        have hk1 : k < ds.length := by omega
        have hcell := HC.out k hk1
        obtain ⟨d, hd⟩ : ∃ d, ds[k] = d := ⟨_, rfl⟩
        rw [hd] at hcell
        have hgd : ds.getD (k + 1 - 1) 0 = d := by rw [Nat.add_sub_cancel, List.getD_eq_getElem?_getD, List.getElem?_eq_getElem hk1, hd]; rfl
        have hi1 : ((k + 1 : Nat) : Int) - 1 = (k : Int) := by omega
        have hi2 : ((k + 1 : Nat) : Int) > 0 := by omega
        have hi3 : (0 : Int) ≤ (k : Int) := by omega
        have hi4 : (k : Int) < ((k + 1 : Nat) : Int) := by omega
        by_cases hz0 : d = 0
        · subst hz0
          have HN := Lib.hid ((ev_take_pred 10 ds (k + 1) (by omega) hgd).trans HE.out)
          rw [show ((0 : Nat) : Int) = 0 from rfl] at hcell
          clear hd hgd HE
          go_wp2
          go_roundg k
          case rel => exact ⟨rfl, by rfl, by omega, HN.out⟩
          case measure => omega
        · have hdz : ((d : Int) == 0) = false := by simp; omega
          have HT := Lib.hid (lims_take ten_ge hs hk HE.out (fun _ => by rw [hgd]; exact hz0))
          clear hd hgd
          go_wp2
          go_ret
          exact ⟨⟨_, rfl, trim_owns HH.out HT.out (by omega)⟩, rfl⟩
theorem dec_len {n : Nat} : ((lims 10 n).length = 0 ∧ n = 0) ∨ (0 < (lims 10 n).length ∧ 0 < n) := by
  have : (lims 10 n).length = 0 ↔ n = 0 := by rw [List.length_eq_zero_iff, lims_nil ten_ge]
  omega
theorem num_any (B n : Nat) (v : Value) (s : Bool) (w : World) (h : DecIs w B v n) :
    Calls Tryd.prog 77 #[.bool s, v] w fun e w' => e = .returned (.agg #[.bool (s && decide (0 < n)), v]) ∧ Below w.heap.size w w' := by
  obtain ⟨av, c, rfl⟩ := h.slice
  have hl := dec_len (n := n)
  revert hl
  generalize (lims 10 n).length = l
  intro hl
  clear h
  cases s with
  | false =>
    clear hl
    go_enter Tryd.func77, Tryd.ntmps77
    go_wp2
    exact bodyPost_ret (v := .agg #[.bool false, .slice av l c]) (by simp [results, Tryd.results77, go_sem]) rfl ⟨rfl, (Below.refl _ w).alloc (Nat.le_refl _) _⟩
  | true =>
    rcases hl with ⟨rfl, h2⟩ | ⟨h1, h2⟩
    · have H := Lib.hid h2
      clear h2
      go_enter Tryd.func77, Tryd.ntmps77
      go_wp2
      exact bodyPost_ret (v := .agg #[.bool false, .slice av 0 c]) (by simp [results, Tryd.results77, go_sem]) rfl ⟨by rw [H.out]; rfl, (Below.refl _ w).alloc (Nat.le_refl _) _⟩
    · have H := Lib.hid h2
      clear h2
      go_enter Tryd.func77, Tryd.ntmps77
      go_wp2
      exact bodyPost_ret (v := .agg #[.bool true, .slice av l c]) (by simp [results, Tryd.results77, go_sem]) rfl ⟨by rw [decide_eq_true H.out]; rfl, (Below.refl _ w).alloc (Nat.le_refl _) _⟩
end Go.Proofs.YtmnibfdenmeepaaDoor
/- decimal of the reference. -/
namespace Go.Proofs.YtmnibfdenmeepaaDoor
open Go.RowKit Go.Shelf Big

theorem Tryd.info3 : (Tryd.prog.info? 3).map (fun i => (i.zero, i.size, i.bytes)) = some (some (.int .i64 0), 1, 8) := by kernel_rfl
theorem DecIs.apart {w : World} {B n b : Nat} {v : Value} (h : DecIs w B v n) (hb : ∀ g, v.ownBlock = some g → g ≠ b) (i : Nat) (u : Value) : DecIs (w.setCell ⟨b, i, none⟩ u) B v n :=
  World.ownsRow.kept h (grown_put (grownBy_refl w (some b)) i u) (by
    rcases hv : v.ownBlock with _ | g
    · exact .inl rfl
    · refine .inr ?_
      intro e
      cases e
      exact hb _ hv rfl)
theorem DecIs.new {w : World} {B n : Nat} {v : Value} (h : DecIs w B v n) {b : Nat} (hb : b < B) : ∀ g, v.ownBlock = some g → g ≠ b := fun g hg => by
  have := (World.ownsRow.lt h g hg).1
  omega
theorem DecIs.mono {w : World} {B B' : Nat} {v : Value} {n : Nat} (h : DecIs w B v n) (hb : B' ≤ B) : DecIs w B' v n := by
  refine ⟨h.1, ?_⟩
  rcases h.2 with hn | ⟨g, cap, cur, rfl, h1, hg, h3⟩
  · exact .inl hn
  · exact .inr ⟨g, cap, cur, rfl, by omega, hg, h3⟩
/-- What reading digits answers. -/
def DecRes (B b : Nat) (s : Bool) (l : List UInt8) (w' : World) (e : Ending) : Prop :=
  ∃ v n sg, e = .returned (.tuple #[.agg #[.bool sg, v], .bool (okn b l)]) ∧ DecIs w' B v n ∧ (okn b l = true → n = rdn b l ∧ sg = (s && decide (0 < n)))
/-- The digits of a text's end, the last first. -/
def back (l : List UInt8) (k : Nat) : List Nat := (l.drop k).reverse.map dg
theorem back_step (s : ByteArray) (k : Nat) (hk : k < s.size) : back s.data.toList k = back s.data.toList (k + 1) ++ [dg s[k]] := by
  have hl : k < s.data.toList.length := by rw [← Lib.size_eq]; exact hk
  unfold back
  rw [List.drop_eq_getElem_cons hl, List.reverse_cons, List.map_append]
  rfl
theorem back_len (s : ByteArray) (k : Nat) (_hk : k ≤ s.size) : (back s.data.toList k).length = s.size - k := by
  unfold back
  rw [List.length_map, List.length_reverse, List.length_drop, ← Lib.size_eq]
theorem dg_lt {c : UInt8} {b : Nat} (h : ¬ rdg c b < 0) : dg c < b ∧ rdg c b = (dg c : Int) := by
  unfold rdg at h ⊢
  split at h
  · rename_i h1
    exact ⟨h1, by rw [if_pos h1]⟩
  · omega
theorem dg_ge {c : UInt8} {b : Nat} (h : rdg c b < 0) : ¬ dg c < b := by
  unfold rdg at h
  split at h
  · omega
  · assumption
theorem okn_bad (b : Nat) (s : ByteArray) (k : Nat) (hk : k < s.size) (h : ¬ dg s[k] < b) : okn b s.data.toList = false := by
  have hm : s[k] ∈ s.data.toList := List.getElem_mem (l := s.data.toList) (by rw [← Lib.size_eq]; exact hk)
  unfold okn
  rw [Bool.and_eq_false_iff]
  right
  rw [List.all_eq_false]
  exact ⟨s[k], hm, by simpa using h⟩

theorem okn_ten {l : List UInt8} (h : Ten (back l 0)) : okn 10 l = !l.isEmpty := by
  unfold okn
  have : l.all (fun c => decide (dg c < 10)) = true := by
    rw [List.all_eq_true]
    intro c hc
    rw [decide_eq_true_eq]
    refine h (dg c) ?_
    unfold back
    rw [List.drop_zero]
    exact List.mem_map_of_mem (List.mem_reverse.2 hc)
  rw [this, Bool.and_true]

set_option maxRecDepth 100000 in
set_option maxHeartbeats 2000000 in
theorem decimal_any (s : ByteArray) (b : Bool) (w : World) (hs : s.size ≤ 1000000000000) :
    Calls Tryd.prog 105 #[.bool b, .string s] w fun e w' => DecRes w.heap.size 10 b s.data.toList w' e ∧ Below w.heap.size w w' := by
  obtain ⟨i0, hi, hz0, hz1, hz2⟩ := info_parts Tryd.info3
  have HDg := Lib.hid (fun c W => rDigit_any c 10 (by omega) W)
  go_enter Tryd.func105, Tryd.ntmps105
  go_wp2_with fail
  obtain ⟨W0, hW0⟩ : ∃ W0, w.alloc (.cells #[.bool false, .slice none 0 0] 51) = W0 := ⟨_, rfl⟩
  rw [hW0]
  have hz00 : W0.heap.size = w.heap.size + 1 := by rw [← hW0]; simp
  have HX0 := Lib.hid (show Has W0 w.heap.size 51 #[.bool false, .slice none 0 0] by rw [← hW0]; exact Has.new w _ _)
  have HBB := Lib.hid (show Below w.heap.size w W0 by rw [← hW0]; exact (Below.refl _ w).alloc (Nat.le_refl _) _)
  clear hW0
  go_loopg [6, 7] s.size (fun g v6 v7 wx => v7 = .int .i64 ((g : Int) - 1) ∧ g ≤ s.size ∧ Ten (back s.data.toList g) ∧ wx.ownsRow (w.heap.size + 1) 3 1 v6 (back s.data.toList g).length ((back s.data.toList g).map i64v) ∧ Below (w.heap.size + 1) W0 wx)
  case atStart =>
    have e : back s.data.toList s.size = [] := List.eq_nil_of_length_eq_zero (by rw [back_len s _ (Nat.le_refl _)]; omega)
    refine ⟨rfl, Nat.le_refl _, ?_, ?_, Below.refl _ _⟩
    · rw [e]; intro d hd; cases hd
    · rw [e]; exact World.ownsRow_nil _ _ _ _
  case round =>
    obtain ⟨rfl, hg, hten, hrow, hbx⟩ := hrel
    have hX := (hbx.block w.heap.size (by omega)).trans HX0.out
    have hzx := hbx.size
    have c0 : wr.cell? ⟨w.heap.size, 0, none⟩ = some (.bool false) := Has.cell hX 0
    have c1 : wr.cell? ⟨w.heap.size, 1, none⟩ = some (.slice none 0 0) := Has.cell hX 1
    have f0 := Has.free hX 0
    have f1 := Has.free hX 1
    have HBX := Lib.hid hbx
    have HT := Lib.hid hten
    have HX := Lib.hid hX
    obtain ⟨ao, cc, rfl⟩ := slice_of_own hrow
    cases gk with
    | zero =>
      have HR := Lib.hid hrow
      clear hrow hten hbx hX
      have hN : ev 10 (back s.data.toList 0) = rdn 10 s.data.toList := by rw [rdn_ev]; unfold back; rw [List.drop_zero, List.map_reverse]
      have HOK := Lib.hid (okn_ten HT.out)
      have HN := Lib.hid hN
      clear hN
      go_wp2_with fail
      refine (trimmed_any (w.heap.size + 1) _ (back s.data.toList 0) wr HR.out HT.out (by rw [back_len s 0 (by omega)]; omega)).mono ?_
      rintro e w' ⟨⟨v', rfl, hv⟩, rfl⟩
      rw [HN.out] at hv
      obtain ⟨av, cv, rfl⟩ := hv.slice
      generalize (lims 10 (rdn 10 s.data.toList)).length = L at hv ⊢
      have HV := Lib.hid hv
      clear hv
      go_wp2_with fail
      refine (num_any _ (rdn 10 s.data.toList) _ b _ HV.out).mono ?_
      rintro e w2 ⟨rfl, hb2⟩
      have hX2 := (hb2.block w.heap.size (by omega)).trans HX.out
      have hz2 := hb2.size
      have d0 : w2.cell? ⟨w.heap.size, 0, none⟩ = some (.bool false) := Has.cell hX2 0
      have d1 : w2.cell? ⟨w.heap.size, 1, none⟩ = some (.slice none 0 0) := Has.cell hX2 1
      have g0 := Has.free hX2 0
      have g1 := Has.free hX2 1
      have HV2 := Lib.hid (HV.out.kept hb2)
      have HBF := Lib.hid ((HBB.out.trans (HBX.out.mono (by omega))).trans (hb2.mono (by omega)))
      clear hb2 c0 c1 f0 f1 hX2
      have HD2 := Lib.hid (fun a b => ((HV2.out.apart (HV2.out.new (show w.heap.size < w.heap.size + 1 by omega)) 0 a).apart (b := w.heap.size) (fun g hg => by have := HV2.out.new (show w.heap.size < w.heap.size + 1 by omega) g hg; exact this) 1 b))
      by_cases hE : s.toList.isEmpty = true
      · have HE := Lib.hid ((empty_iff s).1 hE)
        go_wp2
        refine bodyPost_ret (v := .tuple #[.agg #[.bool (b && decide (0 < rdn 10 s.data.toList)), .slice av L cv], .bool false]) (by simp [results, Tryd.results105, go_sem, World.cell?_setCell_same', d0, d1]) rfl ⟨⟨_, _, _, by rw [HOK.out, HE.out]; rfl, DecIs.mono (HD2.out _ _) (by omega), fun _ => ⟨rfl, rfl⟩⟩, (HBF.out.setCell (p := ⟨w.heap.size, 0, none⟩) (Nat.le_refl _) _).setCell (p := ⟨w.heap.size, 1, none⟩) (Nat.le_refl _) _⟩
      · have HE := Lib.hid (show s.data.toList.isEmpty = false by
          cases h : s.data.toList.isEmpty with
          | false => rfl
          | true => exact absurd ((empty_iff s).2 (List.isEmpty_iff.1 h)) hE)
        have hE' : s.toList.isEmpty = false := by simpa using hE
        clear hE
        go_wp2
        refine bodyPost_ret (v := .tuple #[.agg #[.bool (b && decide (0 < rdn 10 s.data.toList)), .slice av L cv], .bool true]) (by simp [results, Tryd.results105, go_sem, World.cell?_setCell_same', d0, d1]) rfl ⟨⟨_, _, _, by rw [HOK.out, HE.out]; rfl, DecIs.mono (HD2.out _ _) (by omega), fun _ => ⟨rfl, rfl⟩⟩, (HBF.out.setCell (p := ⟨w.heap.size, 0, none⟩) (Nat.le_refl _) _).setCell (p := ⟨w.heap.size, 1, none⟩) (Nat.le_refl _) _⟩
    | succ k =>
      have hlen := back_len s (k + 1) hg
      have hi1 : ((k + 1 : Nat) : Int) - 1 = (k : Int) := by omega
      have hi2 : (0 : Int) ≤ (k : Int) := by omega
      have hi3 : (k : Int) < (s.size : Int) := by omega
      have hk : k < s.size := by omega
      obtain ⟨c, hc⟩ : ∃ c, s[k] = c := ⟨_, rfl⟩
      have hst := back_step s k hk
      rw [hc] at hst
      have HC := Lib.hid hc
      have HST := Lib.hid hst
      by_cases hr : rdg c 10 < 0
      · have hbad := okn_bad 10 s k hk (by rw [hc]; exact dg_ge hr)
        have HOK := Lib.hid hbad
        clear hrow hten hbx hX hst hc hbad
        go_wp2_with (go_at_call 122; rw [HC.out]; refine (HDg.out _ _).mono ?_; rintro e w' ⟨rfl, rfl⟩)
        refine bodyPost_ret (v := .tuple #[.agg #[.bool false, .slice none 0 0], .bool false]) (by simp [results, Tryd.results105, go_sem, World.cell?_setCell_same', c0, c1]) rfl ⟨⟨.slice none 0 0, 0, false, by rw [HOK.out], ?_, fun h => by rw [HOK.out] at h; cases h⟩, ((HBB.out.trans (HBX.out.mono (by omega))).setCell (p := ⟨w.heap.size, 0, none⟩) (Nat.le_refl _) _).setCell (p := ⟨w.heap.size, 1, none⟩) (Nat.le_refl _) _⟩
        unfold DecIs
        rw [lims_zero]
        exact World.ownsRow_nil _ _ _ _
      · obtain ⟨hd1, hd2⟩ := dg_lt hr
        obtain ⟨d, hdd⟩ : ∃ d, dg c = d := ⟨_, rfl⟩
        rw [hdd] at hd1 hd2 hst
        have HTN := Lib.hid (show Ten (back s.data.toList k) by
          rw [hst]
          intro x hx
          rcases List.mem_append.1 hx with h | h
          · exact hten x h
          · rw [List.mem_singleton] at h
            omega)
        have HST2 := Lib.hid hst
        obtain ⟨L, hL⟩ : ∃ L, (back s.data.toList (k + 1)).length = L := ⟨_, rfl⟩
        rw [hL] at hrow hlen ⊢
        have HL := Lib.hid hL
        have HLT := Lib.hid (fun g hg => (World.ownsRow.lt hrow g hg).1)
        clear hL
        have HD2 := Lib.hid hd2
        have hd3 : ¬ (d : Int) < 0 := by omega
        have hzw := hzx
        have HLEN := Lib.hid hlen
        have hLb : L ≤ 1000000000000 := by omega
        clear hr hten hbx hX hst hc hdd HST hlen
        go_wp2_with (first
          | (go_at_call 122; rw [HC.out]; refine (HDg.out _ _).mono ?_; rintro e w' ⟨rfl, rfl⟩; rw [HD2.out])
          | (at_builtin; refine wpList_append_own _ rfl _ _ 49 rfl (w.heap.size + 1) 3 i0 (.int .i64 0) 1 8 Tryd.underlying49 hi hz0 hz1 hz2 rfl (by decide) (.slice ao L cc) L _ rfl (hrow.alloc _) ⟨wr.heap.size, 0, none⟩ 1 1 [.int .i64 (d : Int)] rfl rfl (cell_one_new _ _ _) (by intro u hu; simp at hu; subst hu; rfl) (by unfold maxLen; omega) (by omega) (by simp; omega) ?_; intro v' w2 hown2 hgrow _))
        go_roundg k
        case measure => omega
        case rel =>
          refine ⟨rfl, by omega, HTN.out, ?_, ?_⟩
          · rw [HST2.out, List.length_append, List.length_singleton, List.map_append, HL.out]
            exact hown2
          · exact (HBX.out.alloc (by omega) _).grown hgrow (by simp; omega) (fun q hq => HLT.out q hq)
end Go.Proofs.YtmnibfdenmeepaaDoor
/- digit, natOf of the reference. -/
namespace Go.Proofs.YtmnibfdenmeepaaDoor
open Go.RowKit Go.Shelf Big

theorem rdig_any (B n : Nat) (v : Value) (i : Nat) (w : World) (h : DecIs w B v n) (hi : i ≤ 100000000000000) :
    Calls Tryd.prog 94 #[v, .int .i64 (i : Int)] w fun e w' => e = .returned (.int .i64 ((n / 10 ^ i % 10 : Nat) : Int)) ∧ w = w' := by
  have HG := Lib.hid (lims_getD ten_ge n i)
  by_cases hlt : i < (lims 10 n).length
  · have hrow := h
    unfold DecIs at hrow
    rcases hrow.2 with ⟨rfl, hz⟩ | ⟨g, cap, cur, rfl, hg1, hg2, -⟩
    · omega
    have hcell : w.cell? ⟨g, i, none⟩ = some (.int .i64 ((n / 10 ^ i % 10 : Nat) : Int)) := by
      rw [World.ownsRow.cellAt hrow i (by omega), List.getElem?_map, List.getElem?_eq_getElem hlt, ← HG.out, List.getD_eq_getElem?_getD, List.getElem?_eq_getElem hlt]
      rfl
    obtain ⟨r, hr⟩ : ∃ r, n / 10 ^ i % 10 = r := ⟨_, rfl⟩
    rw [hr] at hcell ⊢
    revert hlt
    generalize (lims 10 n).length = l
    intro hlt
    have h1 : (i : Int) < (l : Int) := by omega
    have h2 : (0 : Int) ≤ (i : Int) := by omega
    clear h hrow hr HG
    go_enter Tryd.func94, Tryd.ntmps94
    go_wp2
    go_ret
    exact ⟨rfl, rfl⟩
  · have hz : n / 10 ^ i % 10 = 0 := by
      rw [← HG.out, List.getD_eq_getElem?_getD, List.getElem?_eq_none (by omega)]; rfl
    rw [hz]
    obtain ⟨av, c, rfl⟩ := h.slice
    revert hlt
    generalize (lims 10 n).length = l
    intro hlt
    have h1 : ¬ (i : Int) < (l : Int) := by omega
    clear h hz HG
    go_enter Tryd.func94, Tryd.ntmps94
    go_wp2
    go_ret
    exact ⟨rfl, rfl⟩

set_option maxRecDepth 100000 in
set_option maxHeartbeats 1000000 in
theorem natOf_any (n : Nat) (w : World) (hn : n < 1000000) :
    Calls Tryd.prog 78 #[.int .i64 (n : Int)] w fun e w' => (∃ v, e = .returned v ∧ DecIs w' w.heap.size v n) ∧ Below w.heap.size w w' := by
  obtain ⟨i0, hi, hz0, hz1, hz2⟩ := info_parts Tryd.info3
  have hlen : (lims 10 n).length ≤ 6 := (lims_len_le ten_ge n 6).2 (by omega)
  have HLE := Lib.hid hlen
  clear hlen
  go_enter Tryd.func78, Tryd.ntmps78
  go_wp2
  go_loopg [0, 3] n (fun g v0 v3 wx => v0 = .int .i64 (g : Int) ∧ g ≤ n ∧ ∃ ds : List Nat, lims 10 n = ds ++ lims 10 g ∧ wx.ownsRow w.heap.size 3 1 v3 ds.length (ds.map i64v) ∧ Below w.heap.size w wx)
  case atStart => exact ⟨rfl, Nat.le_refl _, [], rfl, World.ownsRow_nil _ _ _ _, Below.refl _ _⟩
  case round =>
    obtain ⟨rfl, hg, ds, hds, hrow, hb⟩ := hrel
    obtain ⟨ao, cc, rfl⟩ := slice_of_own hrow
    have hL : ds.length ≤ 6 := by
      have := congrArg List.length hds
      rw [List.length_append] at this
      have := HLE.out
      omega
    obtain ⟨L, hLL⟩ : ∃ L, ds.length = L := ⟨_, rfl⟩
    rw [hLL] at hrow hL ⊢
    have HL := Lib.hid hLL
    have HB := Lib.hid hb
    have hzx := hb.size
    clear hLL hb
    rcases Nat.eq_zero_or_pos gk with rfl | hp
    · have HD := Lib.hid (show lims 10 n = ds by rw [hds, lims_zero, List.append_nil])
      have HR := Lib.hid hrow
      clear hds hrow
      go_wp2
      go_ret
      refine ⟨⟨_, rfl, ?_⟩, HB.out⟩
      unfold DecIs
      rw [HD.out, HL.out]
      exact HR.out
    · have HD := Lib.hid (show lims 10 n = (ds ++ [gk % 10]) ++ lims 10 (gk / 10) by rw [hds, lims_pos ten_ge hp, List.append_assoc]; rfl)
      have h1 : (gk : Int) > 0 := by omega
      have h2 : (gk : Int) % 10 = ((gk % 10 : Nat) : Int) := by omega
      have h3 : (gk : Int) / 10 = ((gk / 10 : Nat) : Int) := by omega
      have H2 := Lib.hid h2
      have H3 := Lib.hid h3
      have hlt : gk / 10 < gk := by omega
      have hle : gk / 10 ≤ n := by omega
      have HLT := Lib.hid (fun g hg => (World.ownsRow.lt hrow g hg).1)
      clear hds h2 h3
      go_wp2_with (at_builtin; refine wpList_append_own _ rfl _ _ 49 rfl w.heap.size 3 i0 (.int .i64 0) 1 8 Tryd.underlying49 hi hz0 hz1 hz2 rfl (by decide) (.slice ao L cc) L _ rfl (hrow.alloc _) ⟨wr.heap.size, 0, none⟩ 1 1 [.int .i64 ((gk : Int) % 10)] rfl rfl (cell_one_new _ _ _) (by intro u hu; simp at hu; subst hu; rfl) (by unfold maxLen; omega) (by omega) (by simp; omega) ?_; intro v' w2 hown2 hgrow _)
      go_roundg (gk / 10)
      case measure => omega
      case rel =>
        refine ⟨by rw [H3.out], hle, ds ++ [gk % 10], HD.out, ?_, (HB.out.alloc (by omega) _).grown hgrow (by simp; omega) (fun q hq => HLT.out q hq)⟩
        rw [List.length_append, List.length_singleton, List.map_append, HL.out]
        rw [H2.out] at hown2
        exact hown2

/-- What plus has built after j digits. -/
def PlusTo (m k j : Nat) (ds : List Nat) (c : Nat) : Prop :=
  ds.length = j ∧ Ten ds ∧ c ≤ 1 ∧ ev 10 ds + 10 ^ j * c = m % 10 ^ j + k % 10 ^ j ∧ (∀ h : ds ≠ [], ds.getLast h ≠ 0 ∨ 0 < c ∨ j < (lims 10 m).length ∨ j < (lims 10 k).length)
theorem mod_step (m j : Nat) : m % 10 ^ (j + 1) = m % 10 ^ j + 10 ^ j * (m / 10 ^ j % 10) := by
  rw [Nat.pow_succ, Nat.mod_mul]
theorem top_ne {m j : Nat} (h : (lims 10 m).length = j + 1) : m / 10 ^ j % 10 ≠ 0 := by
  have h1 := lims_last ten_ge m (by intro e; rw [e] at h; cases h)
  rw [List.getLast_eq_getElem] at h1
  rw [← lims_getD ten_ge m j, List.getD_eq_getElem?_getD, List.getElem?_eq_getElem (by omega)]
  simpa [h] using h1
theorem PlusTo.step {m k j : Nat} {ds : List Nat} {c : Nat} (h : PlusTo m k j ds c) (hgo : j < (lims 10 m).length ∨ j < (lims 10 k).length ∨ 0 < c) :
    PlusTo m k (j + 1) (ds ++ [(m / 10 ^ j % 10 + k / 10 ^ j % 10 + c) % 10]) ((m / 10 ^ j % 10 + k / 10 ^ j % 10 + c) / 10) := by
  obtain ⟨h1, h2, h3, h4, h5⟩ := h
  have hx : m / 10 ^ j % 10 < 10 := Nat.mod_lt _ (by decide)
  have hy : k / 10 ^ j % 10 < 10 := Nat.mod_lt _ (by decide)
  have tm : (lims 10 m).length = j + 1 → m / 10 ^ j % 10 ≠ 0 := top_ne
  have tk : (lims 10 k).length = j + 1 → k / 10 ^ j % 10 ≠ 0 := top_ne
  have em := mod_step m j
  have ek := mod_step k j
  refine ⟨by rw [List.length_append, h1]; rfl, ?_, by omega, ?_, ?_⟩
  · intro d hd
    rcases List.mem_append.1 hd with h | h
    · exact h2 d h
    · rw [List.mem_singleton] at h; omega
  · rw [ev_snoc, h1, em, ek, Nat.pow_succ]
    generalize m / 10 ^ j % 10 = x at *
    generalize k / 10 ^ j % 10 = y at *
    have e1 : 10 ^ j * 10 * ((x + y + c) / 10) + 10 ^ j * ((x + y + c) % 10) = 10 ^ j * (x + y + c) := by
      rw [Nat.mul_assoc, ← Nat.mul_add, Nat.div_add_mod]
    have e2 : 10 ^ j * (x + y + c) = 10 ^ j * x + 10 ^ j * y + 10 ^ j * c := by rw [Nat.mul_add, Nat.mul_add]
    omega
  · intro h
    rw [List.getLast_append_of_ne_nil, List.getLast_singleton]
    · omega
    · simp
theorem PlusTo.done {m k j : Nat} {ds : List Nat} (h : PlusTo m k j ds 0) (hm : (lims 10 m).length ≤ j) (hk : (lims 10 k).length ≤ j) : lims 10 (m + k) = ds := by
  obtain ⟨h1, h2, h3, h4, h5⟩ := h
  rw [Nat.mul_zero, Nat.add_zero, Nat.mod_eq_of_lt ((lims_len_le ten_ge m j).1 hm), Nat.mod_eq_of_lt ((lims_len_le ten_ge k j).1 hk)] at h4
  rw [← h4]
  refine lims_ev ten_ge h2 (fun h => ?_)
  have := h5 h
  omega
theorem PlusTo.carry {m k j : Nat} {ds : List Nat} {c : Nat} (h : PlusTo m k j ds c) (hc : 0 < c) : j ≤ (lims 10 m).length + (lims 10 k).length := by
  obtain ⟨h1, h2, h3, h4, h5⟩ := h
  rcases Nat.lt_or_ge ((lims 10 m).length + (lims 10 k).length) j with hj | hj
  · obtain ⟨i, rfl⟩ : ∃ i, j = i + 1 := ⟨j - 1, by omega⟩
    have hm := (lims_len_le ten_ge m i).1 (by omega)
    have hk := (lims_len_le ten_ge k i).1 (by omega)
    have h6 := Nat.mod_le m (10 ^ (i + 1))
    have h7 := Nat.mod_le k (10 ^ (i + 1))
    have h8 : 10 ^ (i + 1) * 1 ≤ 10 ^ (i + 1) * c := Nat.mul_le_mul_left _ hc
    rw [Nat.pow_succ] at h4 h6 h7 h8
    omega
  · exact hj
theorem PlusTo.start (m k : Nat) : PlusTo m k 0 [] 0 := ⟨rfl, (fun _ h => nomatch h), Nat.zero_le _, by simp [ev, Nat.mod_one], fun h => absurd rfl h⟩

set_option maxRecDepth 100000 in
set_option maxHeartbeats 4000000 in
theorem rplus_any (B1 B2 m k : Nat) (va vb : Value) (w : World) (ha : DecIs w B1 va m) (hb : DecIs w B2 vb k) (hla : (lims 10 m).length ≤ 100000000) (hlb : (lims 10 k).length ≤ 100000000) :
    Calls Tryd.prog 109 #[va, vb] w fun e w' => (∃ v, e = .returned v ∧ DecIs w' w.heap.size v (m + k)) ∧ Below w.heap.size w w' := by
  obtain ⟨i0, hi, hz0, hz1, hz2⟩ := info_parts Tryd.info3
  obtain ⟨av, ca, rfl⟩ := ha.slice
  obtain ⟨bv, cb, rfl⟩ := hb.slice
  have HDA := Lib.hid (fun W (h : Below w.heap.size w W) i (hi : i ≤ 100000000000000) => rdig_any B1 m _ i W (ha.kept h) hi)
  have HDB := Lib.hid (fun W (h : Below w.heap.size w W) i (hi : i ≤ 100000000000000) => rdig_any B2 k _ i W (hb.kept h) hi)
  have HDone := Lib.hid (fun j ds (h : PlusTo m k j ds 0) => h.done)
  have HStep := Lib.hid (fun j ds c (h : PlusTo m k j ds c) => h.step)
  have HCar := Lib.hid (fun j ds c (h : PlusTo m k j ds c) => h.carry)
  revert hla hlb HDA HDB HDone HStep HCar
  generalize (lims 10 m).length = la
  generalize (lims 10 k).length = lb
  intro hla hlb HDA HDB HDone HStep HCar
  clear ha hb
  go_enter Tryd.func109, Tryd.ntmps109
  go_wp2_with fail
  go_loopg [5, 6, 7] (la + lb + 1) (fun g v5 v6 v7 wx => ∃ (i c : Nat) (ds : List Nat), v7 = .int .i64 (i : Int) ∧ v6 = .int .i64 (c : Int) ∧ i + g = la + lb + 1 ∧ PlusTo m k i ds c ∧ wx.ownsRow w.heap.size 3 1 v5 i (ds.map i64v) ∧ Below w.heap.size w wx)
  case atStart => exact ⟨0, 0, [], rfl, rfl, by omega, PlusTo.start m k, World.ownsRow_nil _ _ _ _, Below.refl _ _⟩
  case round =>
    obtain ⟨i, c, ds, rfl, rfl, hig, hpt, hrow, hbx⟩ := hrel
    obtain ⟨ao, cc, rfl⟩ := slice_of_own hrow
    have HB := Lib.hid hbx
    have hzx := hbx.size
    have HP := Lib.hid hpt
    have HLT := Lib.hid (fun g hg => (World.ownsRow.lt hrow g hg).1)
    have hc1 := hpt.2.2.1
    have hcar := HCar.out _ _ _ hpt
    clear hbx hpt
    by_cases hgo : i < la ∨ i < lb ∨ 0 < c
    · have HPN := Lib.hid (HStep.out _ _ _ HP.out hgo)
      have hx : m / 10 ^ i % 10 < 10 := Nat.mod_lt _ (by decide)
      have hy : k / 10 ^ i % 10 < 10 := Nat.mod_lt _ (by decide)
      have hdA := fun W h => HDA.out W h i (by omega)
      have hdB := fun W h => HDB.out W h i (by omega)
      revert hx hy hdA hdB HPN
      generalize m / 10 ^ i % 10 = x
      generalize k / 10 ^ i % 10 = y
      intro HPN hx hy hdA hdB
      have HdA := Lib.hid hdA
      have HdB := Lib.hid hdB
      have hil : i ≤ la + lb := by omega
      obtain ⟨g, rfl⟩ : ∃ g, gk = g + 1 := ⟨gk - 1, by omega⟩
      have e1 : ((x : Int) + y + c) % 10 = (((x + y + c) % 10 : Nat) : Int) := by omega
      have e2 : ((x : Int) + y + c) / 10 = (((x + y + c) / 10 : Nat) : Int) := by omega
      have E1 := Lib.hid e1
      have E2 := Lib.hid e2
      have hsum : 0 ≤ ((x : Int) + y + c) := by omega
      have hi9 : (i : Int) < 1000000000 := by omega
      clear e1 e2 hdA hdB
      rcases (show i < la ∨ (¬ i < la ∧ i < lb) ∨ (¬ i < la ∧ ¬ i < lb ∧ 0 < c) by omega) with h1 | ⟨h1, h2⟩ | ⟨h1, h2, h3⟩
      · have k1 : (i : Int) < (la : Int) := by omega
        clear hgo hcar
        go_wp2_with fail
        refine (HdA.out wr HB.out).mono ?_
        rintro e w' ⟨rfl, rfl⟩
        go_wp2_with fail
        refine (HdB.out _ HB.out).mono ?_
        rintro e w' ⟨rfl, rfl⟩
        go_wp2_with (at_builtin; refine wpList_append_own _ rfl _ _ 49 rfl w.heap.size 3 i0 (.int .i64 0) 1 8 Tryd.underlying49 hi hz0 hz1 hz2 rfl (by decide) (.slice ao i cc) i _ rfl (hrow.alloc _) ⟨wr.heap.size, 0, none⟩ 1 1 [.int .i64 (((x : Int) + y + c) % 10)] rfl rfl (cell_one_new _ _ _) (by intro u hu; simp at hu; subst hu; rfl) (by unfold maxLen; omega) (by omega) (by simp; omega) ?_; intro v' w2 hown2 hgrow _)
        go_roundg g
        case measure => omega
        case rel =>
          refine ⟨i + 1, (x + y + c) / 10, ds ++ [(x + y + c) % 10], by rfl, by rw [← E2.out], by omega, HPN.out, ?_, (HB.out.alloc (by omega) _).grown hgrow (by simp; omega) (fun q hq => HLT.out q hq)⟩
          rw [List.map_append]
          rw [E1.out] at hown2
          exact hown2
      · have k1 : ¬ (i : Int) < (la : Int) := by omega
        have k2 : (i : Int) < (lb : Int) := by omega
        clear hgo hcar
        go_wp2_with fail
        refine (HdA.out wr HB.out).mono ?_
        rintro e w' ⟨rfl, rfl⟩
        go_wp2_with fail
        refine (HdB.out _ HB.out).mono ?_
        rintro e w' ⟨rfl, rfl⟩
        go_wp2_with (at_builtin; refine wpList_append_own _ rfl _ _ 49 rfl w.heap.size 3 i0 (.int .i64 0) 1 8 Tryd.underlying49 hi hz0 hz1 hz2 rfl (by decide) (.slice ao i cc) i _ rfl (hrow.alloc _) ⟨wr.heap.size, 0, none⟩ 1 1 [.int .i64 (((x : Int) + y + c) % 10)] rfl rfl (cell_one_new _ _ _) (by intro u hu; simp at hu; subst hu; rfl) (by unfold maxLen; omega) (by omega) (by simp; omega) ?_; intro v' w2 hown2 hgrow _)
        go_roundg g
        case measure => omega
        case rel =>
          refine ⟨i + 1, (x + y + c) / 10, ds ++ [(x + y + c) % 10], by rfl, by rw [← E2.out], by omega, HPN.out, ?_, (HB.out.alloc (by omega) _).grown hgrow (by simp; omega) (fun q hq => HLT.out q hq)⟩
          rw [List.map_append]
          rw [E1.out] at hown2
          exact hown2
      · have k1 : ¬ (i : Int) < (la : Int) := by omega
        have k2 : ¬ (i : Int) < (lb : Int) := by omega
        have k3 : (c : Int) > 0 := by omega
        clear hgo hcar
        go_wp2_with fail
        refine (HdA.out wr HB.out).mono ?_
        rintro e w' ⟨rfl, rfl⟩
        go_wp2_with fail
        refine (HdB.out _ HB.out).mono ?_
        rintro e w' ⟨rfl, rfl⟩
        go_wp2_with (at_builtin; refine wpList_append_own _ rfl _ _ 49 rfl w.heap.size 3 i0 (.int .i64 0) 1 8 Tryd.underlying49 hi hz0 hz1 hz2 rfl (by decide) (.slice ao i cc) i _ rfl (hrow.alloc _) ⟨wr.heap.size, 0, none⟩ 1 1 [.int .i64 (((x : Int) + y + c) % 10)] rfl rfl (cell_one_new _ _ _) (by intro u hu; simp at hu; subst hu; rfl) (by unfold maxLen; omega) (by omega) (by simp; omega) ?_; intro v' w2 hown2 hgrow _)
        go_roundg g
        case measure => omega
        case rel =>
          refine ⟨i + 1, (x + y + c) / 10, ds ++ [(x + y + c) % 10], by rfl, by rw [← E2.out], by omega, HPN.out, ?_, (HB.out.alloc (by omega) _).grown hgrow (by simp; omega) (fun q hq => HLT.out q hq)⟩
          rw [List.map_append]
          rw [E1.out] at hown2
          exact hown2
    · have hc0 : c = 0 := by omega
      subst hc0
      have k1 : ¬ (i : Int) < (la : Int) := by omega
      have k2 : ¬ (i : Int) < (lb : Int) := by omega
      have HD := Lib.hid (HDone.out _ _ HP.out (by omega) (by omega))
      have HR := Lib.hid hrow
      have HLN := Lib.hid HP.out.1
      clear hgo hcar hrow
      go_wp2
      go_ret
      refine ⟨⟨_, rfl, ?_⟩, HB.out⟩
      unfold DecIs
      rw [HD.out, HLN.out]
      exact HR.out
end Go.Proofs.YtmnibfdenmeepaaDoor
