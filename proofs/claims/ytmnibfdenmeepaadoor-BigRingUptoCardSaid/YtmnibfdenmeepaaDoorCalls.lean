/- Add, Sub, Mul, Canonical of the program. -/
import Derived.Test.YtmnibfdenmeepaaDoorOps
namespace Go.Proofs.YtmnibfdenmeepaaDoor
open Go.RowKit Go.Shelf Big

theorem short_pow {n : Nat} (h : n < 2 ^ (k2008 + k2008)) : (lims 4294967296 n).length ≤ 100000 :=
  lims_short (Nat.lt_of_lt_of_le h (Nat.pow_le_pow_left (by omega) _)) (by unfold k2008; omega)
theorem sum_pow {a b : Nat} (ha : a < 2 ^ k2008) (hb : b < 2 ^ k2008) : a + b < 2 ^ (k2008 + k2008) := by
  have h1 : 2 ^ (k2008 + k2008) = 2 ^ k2008 * 2 ^ k2008 := Nat.pow_add _ _ _
  have h2 : 2 ≤ 2 ^ k2008 := by
    have : 2 ^ 1 ≤ 2 ^ k2008 := Nat.pow_le_pow_right (by omega) (by unfold k2008; omega)
    omega
  have h3 : 2 ^ k2008 * 2 ≤ 2 ^ k2008 * 2 ^ k2008 := Nat.mul_le_mul_left _ h2
  omega
theorem tame_add : Tame (fun x y => x + y) := fun x y hx hy => by
  have h1 := lims_of_tool hx
  have h2 := lims_of_tool hy
  exact short_pow (Nat.lt_of_le_of_lt (Int.natAbs_add_le x y) (sum_pow h1 h2))
theorem tame_sub : Tame (fun x y => x - y) := fun x y hx hy => by
  have h1 := lims_of_tool hx
  have h2 := lims_of_tool hy
  have h3 : (x - y).natAbs ≤ x.natAbs + y.natAbs := by omega
  exact short_pow (Nat.lt_of_le_of_lt h3 (sum_pow h1 h2))
theorem tame_mul : Tame (fun x y => x * y) := fun x y hx hy => by
  have h1 := lims_of_tool hx
  have h2 := lims_of_tool hy
  refine short_pow ?_
  show (x * y).natAbs < _
  rw [Int.natAbs_mul, Nat.pow_add]
  exact Nat.mul_lt_mul'' h1 h2
theorem does_add : Does 59 (fun x y => x + y) := ⟨enters_of Tryd.func59 (by kernel_rfl) rfl, fun B1 B2 m k va vb s t l1 o1 l2 o2 w ha hb hla hlb => numPlus_any B1 B2 m k va vb s t l1 o1 l2 o2 w ha hb hla hlb⟩
theorem does_sub : Does 62 (fun x y => x - y) := ⟨enters_of Tryd.func62 (by kernel_rfl) rfl, fun B1 B2 m k va vb s t l1 o1 l2 o2 w ha hb hla hlb => numMinus_any B1 B2 m k va vb s t l1 o1 l2 o2 w ha hb hla hlb⟩
theorem does_mul : Does 68 (fun x y => x * y) := ⟨enters_of Tryd.func68 (by kernel_rfl) rfl, fun B1 B2 m k va vb s t l1 o1 l2 o2 w ha hb hla hlb => numTimes_any B1 B2 m k va vb s t l1 o1 l2 o2 w ha hb hla hlb⟩

theorem Add_any (a b : ByteArray) (w : World) (ha : a.size ≤ 1000) (hb : b.size ≤ 1000) :
    Calls Tryd.prog 16 #[.string a, .string b] w fun e w' => e = retS (opS (fun x y => x + y) a.data.toList b.data.toList) ∧ Below w.heap.size w w' := by
  have ht := two_any _ _ does_add tame_add a b w ha hb
  generalize opS (fun x y => x + y) a.data.toList b.data.toList = p at ht ⊢
  obtain ⟨l, c⟩ := p
  unfold retS at ht ⊢
  go_enter Tryd.func16, Tryd.ntmps16
  go_wp2_with (go_at_call 58; refine ht.mono ?_; rintro e w1 ⟨rfl, hb1⟩)
  go_ret2
  exact ⟨rfl, hb1⟩
theorem Sub_any (a b : ByteArray) (w : World) (ha : a.size ≤ 1000) (hb : b.size ≤ 1000) :
    Calls Tryd.prog 18 #[.string a, .string b] w fun e w' => e = retS (opS (fun x y => x - y) a.data.toList b.data.toList) ∧ Below w.heap.size w w' := by
  have ht := two_any _ _ does_sub tame_sub a b w ha hb
  generalize opS (fun x y => x - y) a.data.toList b.data.toList = p at ht ⊢
  obtain ⟨l, c⟩ := p
  unfold retS at ht ⊢
  go_enter Tryd.func18, Tryd.ntmps18
  go_wp2_with (go_at_call 58; refine ht.mono ?_; rintro e w1 ⟨rfl, hb1⟩)
  go_ret2
  exact ⟨rfl, hb1⟩
theorem Mul_any (a b : ByteArray) (w : World) (ha : a.size ≤ 1000) (hb : b.size ≤ 1000) :
    Calls Tryd.prog 22 #[.string a, .string b] w fun e w' => e = retS (opS (fun x y => x * y) a.data.toList b.data.toList) ∧ Below w.heap.size w w' := by
  have ht := two_any _ _ does_mul tame_mul a b w ha hb
  generalize opS (fun x y => x * y) a.data.toList b.data.toList = p at ht ⊢
  obtain ⟨l, c⟩ := p
  unfold retS at ht ⊢
  go_enter Tryd.func22, Tryd.ntmps22
  go_wp2_with (go_at_call 58; refine ht.mono ?_; rintro e w1 ⟨rfl, hb1⟩)
  go_ret2
  exact ⟨rfl, hb1⟩

/-- What is told of one text. -/
def oneS (f : Int → Int) (a : List UInt8) : List UInt8 × Int :=
  match numOf a with
  | some x => if tooL x.natAbs then ([], 4) else told (f x)
  | none => ([], 2)
/-- A function value that reckons f of one number. -/
def Does1 (K : FuncId) (f : Int → Int) : Prop :=
  (∀ args w, (callFunc K args).run Tryd.prog w = .ok (.enter K args) w) ∧
  ∀ (B m : Nat) (va : Value) (s o : Bool) (w : World), NatIs w B va m → (lims 4294967296 m).length ≤ 100000 →
    Calls Tryd.prog K #[.agg #[.bool s, va, .bool false, .bool o]] w fun e w' => (∃ (r : Bool) (n : Nat) (v : Value) (o' : Bool) (B' : Nat), e = .returned (.agg #[.bool r, v, .bool false, .bool o']) ∧ NatIs w' B' v n ∧ sgI r n = f (sgI s m)) ∧ Below w.heap.size w w'
def Tame1 (f : Int → Int) : Prop := ∀ x : Int, tooL x.natAbs = false → (lims 4294967296 (f x).natAbs).length ≤ 100000

set_option maxRecDepth 100000 in
set_option maxHeartbeats 2000000 in
theorem one_any (K : FuncId) (f : Int → Int) (hK : Does1 K f) (hf : Tame1 f) (a : ByteArray) (w : World) (ha : a.size ≤ 1000) :
    Calls Tryd.prog 53 #[.string a, .func (.func K) #[] #[]] w fun e w' => e = retS (oneS f a.data.toList) ∧ Below w.heap.size w w' := by
  obtain ⟨hE, hC⟩ := hK
  have HC := Lib.hid hC
  clear hC
  go_enter Tryd.func53, Tryd.ntmps53
  go_wp2_with fail
  refine (parse_any a w ha).mono ?_
  rintro e w1 ⟨hp1, hb1⟩
  obtain ⟨s1, a1, n1, c1, g1, o1, t1, rfl, hf1⟩ := hp1.form
  have hz1 := hb1.size
  have hbel : ∀ x, Below w.heap.size w (w1.alloc x) := fun x => hb1.alloc hz1 x
  have HBE := Lib.hid hbel
  clear hbel
  rcases hf1 with ⟨rfl, z1, hz1', hs1, hg1, hn1⟩ | ⟨rfl, hz1'⟩
  · have HOP := Lib.hid (show oneS f a.data.toList = if tooL z1.natAbs then ([], 4) else told (f z1) by unfold oneS; rw [hz1'])
    have HS := Lib.hid hs1
    have HG := Lib.hid hg1
    have HN1 := Lib.hid (fun x => hn1.alloc x)
    clear hz1' hs1 hg1 hn1
    cases g1 with
    | false =>
      have hl1 := short_of HG.out.symm
      have HT := Lib.hid (hf z1 HG.out.symm)
      go_wp2_with fail
      refine (HC.out w.heap.size z1.natAbs _ _ _ _ (HN1.out _) hl1).mono ?_
      rintro e w2 ⟨⟨r, n, v, o', B', rfl, hn, hsg⟩, hb2⟩
      rw [HS.out, sg_z] at hsg
      have hz2 := hb2.size
      have hnl : (lims 4294967296 n).length ≤ 100000 := by
        have h := HT.out
        rwa [← hsg, sg_abs] at h
      have HSG := Lib.hid hsg
      obtain ⟨v9, c9, rfl⟩ := hn.slice
      clear hsg
      go_wp2_with fail
      refine (text_any _ n _ _ _ _ _ hn hnl).mono ?_
      rintro e w3 ⟨ht, hb3⟩
      have htd := ht.told
      rw [HSG.out] at htd
      have HOP2 := Lib.hid (show oneS f a.data.toList = told (f z1) by rw [HOP.out, ← HG.out]; rfl)
      clear ht
      unfold retS at htd
      subst htd
      go_wp2
      go_ret2
      exact ⟨by rw [HOP2.out]; rfl, ((HBE.out _).trans (hb2.mono (by simp; omega))).trans (hb3.mono (by simp at hz2; omega))⟩
    | true =>
      have HOP2 := Lib.hid (show oneS f a.data.toList = ([], 4) by rw [HOP.out, ← HG.out]; rfl)
      go_wp2
      go_ret2
      exact ⟨by rw [HOP2.out]; rfl, HBE.out _⟩
  · have HOP2 := Lib.hid (show oneS f a.data.toList = ([], 2) by unfold oneS; rw [hz1'])
    clear hz1'
    go_wp2
    go_ret2
    exact ⟨by rw [HOP2.out]; rfl, HBE.out _⟩

theorem does_id : Does1 54 (fun x => x) := ⟨enters_of Tryd.func54 (by kernel_rfl) rfl, fun B m va s o w ha hl => by
  have HK := Lib.hid (fun x y => (ha.alloc x).alloc y)
  obtain ⟨av, c, rfl⟩ := ha.slice
  obtain ⟨lv, hlv⟩ : ∃ lv, (lims 4294967296 m).length = lv := ⟨_, rfl⟩
  rw [hlv] at HK ⊢
  clear ha hlv hl
  go_enter Tryd.func54, Tryd.ntmps54
  go_wp2
  exact bodyPost_ret (v := .agg #[.bool s, .slice av lv c, .bool false, .bool o]) (by simp [results, Tryd.results54, go_sem]) rfl ⟨⟨s, m, _, o, B, rfl, HK.out _ _, rfl⟩, ((Below.refl _ w).alloc (Nat.le_refl _) _).alloc (by simp) _⟩⟩
theorem tame_id : Tame1 (fun x => x) := fun _ h => short_of h
theorem Canonical_any (a : ByteArray) (w : World) (ha : a.size ≤ 1000) :
    Calls Tryd.prog 12 #[.string a] w fun e w' => e = retS (oneS (fun x => x) a.data.toList) ∧ Below w.heap.size w w' := by
  have ht := one_any _ _ does_id tame_id a w ha
  generalize oneS (fun x => x) a.data.toList = p at ht ⊢
  obtain ⟨l, c⟩ := p
  unfold retS at ht ⊢
  go_enter Tryd.func12, Tryd.ntmps12
  go_wp2_with (go_at_call 53; refine ht.mono ?_; rintro e w1 ⟨rfl, hb1⟩)
  go_ret2
  exact ⟨rfl, hb1⟩
end Go.Proofs.YtmnibfdenmeepaaDoor
