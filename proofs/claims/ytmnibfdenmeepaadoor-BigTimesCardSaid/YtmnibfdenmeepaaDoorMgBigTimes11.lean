/- The texts Region RegRow ROpp RBoth RTell RAdd RSub Cmp RCmp, one behind the other. -/
import Derived.Test.YtmnibfdenmeepaaDoorMgBigTimes10
import Derived.Orders
import Derived.RegionTactic
/- A region that draws its order, by an invariant over what has come up. -/
namespace Go
section
variable {P : Program} {ops : Array Oper} {Q : Exit → Act → World → Prop}

theorem ready_spec {md : Region.Mode} {listed : Array Bool} {i : Nat} (h : i ∈ Region.ready md ops listed) :
    i < ops.size ∧ listed.getD i true = false ∧ ∀ (o : Oper), ops[i]? = some o → ∀ e ∈ o.after, Region.binds md e = true → listed.getD e.on false = true := by
  unfold Region.ready at h
  rw [List.mem_filter] at h
  obtain ⟨h1, h2⟩ := h
  rw [List.mem_range] at h1
  simp only [Bool.and_eq_true, Bool.not_eq_true'] at h2
  refine ⟨h1, h2.1, fun o ho e he hb => ?_⟩
  have h3 := h2.2
  rw [ho] at h3
  simp only [Option.map_some, Option.getD_some, Array.all_eq_true_iff_forall_mem, Bool.or_eq_true, Bool.not_eq_true'] at h3
  rcases h3 e he with h4 | h4
  · rw [hb] at h4; cases h4
  · exact h4

/-- How many have not come up. -/
def unlisted (listed : Array Bool) (n : Nat) : Nat := (List.range n).countP fun i => !listed.getD i true

theorem unlisted_set (listed : Array Bool) : ∀ (n i : Nat), i < n → listed.getD i true = false → unlisted (listed.setIfInBounds i true) n < unlisted listed n := by
  intro n
  induction n with
  | zero => intro i h; omega
  | succ n ih =>
    intro i hi h0
    have hlt : i < listed.size := by
      rcases Nat.lt_or_ge i listed.size with h | h
      · exact h
      · simp [Array.getD, Nat.not_lt.2 h] at h0
    unfold unlisted at *
    rw [List.range_succ, List.countP_append, List.countP_append]
    by_cases he : i = n
    · subst he
      have e1 : (List.range i).countP (fun k => !(listed.setIfInBounds i true).getD k true) = (List.range i).countP (fun k => !listed.getD k true) := by
        apply List.countP_congr
        intro k hk
        have hk' : k < i := by simpa using hk
        have : (listed.setIfInBounds i true).getD k true = listed.getD k true := by
          simp only [Array.getD_eq_getD_getElem?]
          rw [Array.getElem?_setIfInBounds_ne (by omega)]
        rw [this]
      rw [e1]
      have e2 : (listed.setIfInBounds i true).getD i true = true := by
        simp [Array.getD_eq_getD_getElem?, hlt]
      have e3 : (!listed.getD i true) = true := by rw [h0]; rfl
      simp only [List.countP_cons, List.countP_nil, e2, e3]
      simp
    · have h1 := ih i (by omega) h0
      have : (listed.setIfInBounds i true).getD n true = listed.getD n true := by
        simp only [Array.getD_eq_getD_getElem?]
        rw [Array.getElem?_setIfInBounds_ne he]
      simp only [List.countP_cons, List.countP_nil, this]
      omega

theorem wpAny_inv {Inv : Array Bool → Act → World → Prop}
    (hord : ∀ (i : Nat) (o : Oper), ops[i]? = some o → ∀ e ∈ o.after, e.on < i)
    (step : ∀ (listed : Array Bool) (a : Act) (w : World) (i : Nat), Inv listed a w → i < ops.size → listed.getD i true = false → (∀ (o : Oper), ops[i]? = some o → ∀ e ∈ o.after, Region.binds .any e = true → listed.getD e.on false = true) → wpOp P ops Q i (fun a' w' => Inv (listed.setIfInBounds i true) a' w') a w)
    (fin : ∀ listed a w, Inv listed a w → (∀ i, i < ops.size → listed.getD i false = true) → Q .normal a w) :
    ∀ (fuel : Nat) (listed : Array Bool) (a : Act) (w : World), listed.size = ops.size → unlisted listed ops.size ≤ fuel → Inv listed a w → wpAny P .any ops Q fuel listed a w := by
  have done : ∀ listed a w, listed.size = ops.size → Region.ready .any ops listed = [] → Inv listed a w → Q .normal a w := by
    intro listed a w hs hr hI
    refine fin listed a w hI ?_
    intro i
    induction i using Nat.strongRecOn with
    | _ i ih =>
      intro hi
      cases hl : listed.getD i false with
      | true => rfl
      | false =>
        exfalso
        have hd : listed.getD i true = false := by
          simp only [Array.getD_eq_getD_getElem?] at hl ⊢
          rw [Array.getElem?_eq_getElem (by omega)] at hl ⊢
          simpa using hl
        have hm : i ∈ Region.ready .any ops listed := by
          unfold Region.ready
          rw [List.mem_filter]
          refine ⟨List.mem_range.2 hi, ?_⟩
          rw [hd, Array.getElem?_eq_getElem hi]
          simp only [Bool.not_false, Bool.true_and, Option.map_some, Option.getD_some, Array.all_eq_true_iff_forall_mem, Bool.or_eq_true, Bool.not_eq_true']
          intro e he
          refine .inr (ih e.on (hord i _ (Array.getElem?_eq_getElem hi) e he) ?_)
          have := hord i _ (Array.getElem?_eq_getElem hi) e he
          omega
        rw [hr] at hm
        cases hm
  intro fuel
  induction fuel with
  | zero =>
    intro listed a w hs hu hI
    have hr : Region.ready .any ops listed = [] := by
      apply List.eq_nil_iff_forall_not_mem.2
      intro i hi
      obtain ⟨h1, h2, _⟩ := ready_spec hi
      have := unlisted_set listed ops.size i h1 h2
      omega
    exact ⟨hr, done listed a w hs hr hI⟩
  | succ fuel ih =>
    intro listed a w hs hu hI
    refine ⟨fun hr => done listed a w hs hr hI, fun i hi => ?_⟩
    obtain ⟨h1, h2, h3⟩ := ready_spec hi
    refine wpOp_mono (fun a' w' hI' => ih _ a' w' (by simpa using hs) ?_ hI') (step listed a w i hI h1 h2 h3)
    have := unlisted_set listed ops.size i h1 h2
    omega

def ordB (ops : Array Oper) : Bool := ops.toList.zipIdx.all fun x => x.1.after.all fun e => decide (e.on < x.2)
theorem ord_of (h : ordB ops = true) : ∀ (i : Nat) (o : Oper), ops[i]? = some o → ∀ e ∈ o.after, e.on < i := by
  intro i o ho e he
  have h1 := List.all_eq_true.1 h (o, i) (by
    rw [List.mem_zipIdx_iff_getElem?]
    simpa using ho)
  simpa using (Array.all_eq_true_iff_forall_mem.1 h1) e he

theorem set_true {listed : Array Bool} {i j : Nat} (h : (listed.setIfInBounds i true).getD j false = true) : j = i ∨ listed.getD j false = true := by
  by_cases e : j = i
  · exact .inl e
  · refine .inr ?_
    simp only [Array.getD_eq_getD_getElem?] at h ⊢
    rwa [Array.getElem?_setIfInBounds_ne (by omega)] at h
theorem set_false {listed : Array Bool} {i j : Nat} (hi : listed.getD i true = false) (h : (listed.setIfInBounds i true).getD j false = false) : listed.getD j false = false ∧ j ≠ i := by
  have hlt : i < listed.size := by
    rcases Nat.lt_or_ge i listed.size with h | h
    · exact h
    · simp [Array.getD, Nat.not_lt.2 h] at hi
  by_cases e : j = i
  · subst e
    simp [Array.getD_eq_getD_getElem?, hlt] at h
  · refine ⟨?_, e⟩
    simp only [Array.getD_eq_getD_getElem?] at h ⊢
    rwa [Array.getElem?_setIfInBounds_ne (by omega)] at h
theorem false_of {listed : Array Bool} {i : Nat} (hi : listed.getD i true = false) : listed.getD i false = false := by
  have hlt : i < listed.size := by
    rcases Nat.lt_or_ge i listed.size with h | h
    · exact h
    · simp [Array.getD, Nat.not_lt.2 h] at hi
  simp only [Array.getD_eq_getD_getElem?] at hi ⊢
  rw [Array.getElem?_eq_getElem hlt] at hi ⊢
  simpa using hi

theorem wpOp_by {i : Nat} {o : Oper} {a : Act} {w : World} {K : Act → World → Prop} (ho : ops[i]? = some o) (hg : o.guard = none)
    (h : ∀ K', (∀ a w, K a w → K' a w) → o.wp P a w K' Q) : wpOp P ops Q i K a w := by
  unfold wpOp
  rw [ho]
  simp only [Region.wanted, hg, if_true]
  exact .inl (h K fun _ _ h => h)

/-- A region that draws its order: an invariant that each operation keeps, whichever comes up. -/
theorem wp_region_inv {Inv : Array Bool → Act → World → Prop} {id : Nat} {a : Act} {w : World} (hm : P.follows .mixedOrders = true)
    (hord : ∀ (i : Nat) (o : Oper), ops[i]? = some o → ∀ e ∈ o.after, e.on < i) (h0 : Inv (Array.replicate ops.size false) a w.drew)
    (step : ∀ (listed : Array Bool) (a : Act) (w : World) (i : Nat), Inv listed a w → i < ops.size → listed.getD i true = false → (∀ (o : Oper), ops[i]? = some o → ∀ e ∈ o.after, Region.binds .any e = true → listed.getD e.on false = true) → wpOp P ops Q i (fun a' w' => Inv (listed.setIfInBounds i true) a' w') a w)
    (fin : ∀ listed a w, Inv listed a w → (∀ i, i < ops.size → listed.getD i false = true) → Q .normal a w) : (Code.region id ops true).wp P Q a w := by
  refine wp_region_any hm (wpAny_inv hord step fin ops.size _ a _ (by simp) ?_ h0)
  unfold unlisted
  have := List.countP_le_length (p := fun i => !(Array.replicate ops.size false).getD i true) (l := List.range ops.size)
  simpa using this
end
end Go
/- A region that draws its order: what each operation has given, kept while others come up. -/
namespace Go.Proofs.YtmnibfdenmeepaaDoor
open Go.RowKit Go.Shelf Big

def upd (u : Nat → Value) (s : Nat) (v : Value) : Nat → Value := fun k => if k = s then v else u k
theorem upd_ne {u : Nat → Value} {s k : Nat} {v : Value} (h : k ≠ s) : upd u s v k = u k := if_neg h
theorem upd_eq {u : Nat → Value} {s : Nat} {v : Value} : upd u s v s = v := if_pos rfl
/-- What is known while operations come up: Pr i of the slot s i, once i has come; behind the last one (if t: there is one), Fin. -/
structure RegRow (W0 : World) (n : Nat) (t : Bool) (s : Nat → Nat) (Pr : Nat → Value → World → Prop) (Fin : (Nat → Value) → World → Prop) (L : Nat → Bool) (u : Nat → Value) (w' : World) : Prop where
  below : Below W0.heap.size W0 w'
  each : ∀ i, i < n → (t = true → L n = false) → L i = true → Pr i (u (s i)) w'
  fin : t = true → L n = true → Fin u w'
  all : t = true → L n = true → ∀ i, i < n → L i = true
/-- What an operation has given stays while nothing old is written. -/
def Stays (n : Nat) (Pr : Nat → Value → World → Prop) : Prop := ∀ i v (w w' : World), i < n → Below w.heap.size w w' → Pr i v w → Pr i v w'
theorem RegRow.start {W0 : World} {n : Nat} {t : Bool} {s : Nat → Nat} {Pr : Nat → Value → World → Prop} {Fin : (Nat → Value) → World → Prop} {L : Nat → Bool} {u : Nat → Value} (h : ∀ i, L i = false) : RegRow W0 n t s Pr Fin L u W0.drew :=
  ⟨(Below.refl _ _).drew, fun i _ _ h1 => (by rw [h i] at h1; cases h1), fun _ h1 => (by rw [h n] at h1; cases h1), fun _ h1 => (by rw [h n] at h1; cases h1)⟩
theorem none_listed (n : Nat) : ∀ i : Nat, (Array.replicate n false).getD i false = false := fun i => by
  simp [Array.getD_eq_getD_getElem?, Array.getElem?_replicate]; split <;> rfl
theorem RegRow.put {W0 w1 w2 : World} {n : Nat} {t : Bool} {s : Nat → Nat} {Pr : Nat → Value → World → Prop} {Fin : (Nat → Value) → World → Prop} {L : Array Bool} {u : Nat → Value} {x : Value} (i : Nat) (F : RegRow W0 n t s Pr Fin (fun j => L.getD j false) u w1)
    (hst : Stays n Pr) (hi : i < n) (hs : ∀ j, j < n → j ≠ i → s j ≠ s i) (hnl : L.getD i true = false) (hb : Below w1.heap.size w1 w2) (hx : Pr i x w2) :
    RegRow W0 n t s Pr Fin (fun j => (L.setIfInBounds i true).getD j false) (upd u (s i) x) w2 := by
  have hln : t = true → L.getD n false = false := fun ht => by
    cases h : L.getD n false with
    | false => rfl
    | true => have h1 := F.all ht h i hi; have h2 := false_of hnl; rw [h2] at h1; cases h1
  have hn' : t = true → (L.setIfInBounds i true).getD n false = false := fun ht => by
    have h := hln ht
    simp only [Array.getD_eq_getD_getElem?] at h ⊢
    rwa [Array.getElem?_setIfInBounds_ne (by omega)]
  refine ⟨Below.behind F.below hb, fun j hj _ h1 => ?_, fun ht h => ?_, fun ht h => ?_⟩
  · by_cases e : j = i
    · subst e
      rw [upd_eq]
      exact hx
    · rw [upd_ne (hs j hj e)]
      rcases set_true h1 with h | h
      · exact absurd h e
      · exact hst j _ _ _ hj hb (F.each j hj hln h)
  · rw [hn' ht] at h
    cases h
  · rw [hn' ht] at h
    cases h
theorem RegRow.last {W0 w1 w2 : World} {n : Nat} {s : Nat → Nat} {Pr : Nat → Value → World → Prop} {Fin : (Nat → Value) → World → Prop} {L : Array Bool} {u u' : Nat → Value} (_F : RegRow W0 n true s Pr Fin (fun j => L.getD j false) u w1) (hnl : L.getD n true = false)
    (hall : ∀ i, i < n → L.getD i false = true) (hb : Below W0.heap.size W0 w2) (hx : Fin u' w2) : RegRow W0 n true s Pr Fin (fun j => (L.setIfInBounds n true).getD j false) u' w2 := by
  have hlt : n < L.size := by
    rcases Nat.lt_or_ge n L.size with h | h
    · exact h
    · simp [Array.getD, Nat.not_lt.2 h] at hnl
  refine ⟨hb, fun j _ h => ?_, fun _ _ => hx, fun _ _ i hi => ?_⟩
  · have := h rfl
    simp [Array.getD_eq_getD_getElem?, hlt] at this
  · have h := hall i hi
    simp only [Array.getD_eq_getD_getElem?] at h ⊢
    rw [Array.getElem?_setIfInBounds_ne (by omega)]
    exact h
/-- What the operations before the last one have given. -/
theorem RegRow.got {W0 w1 : World} {n : Nat} {s : Nat → Nat} {t : Bool} {Pr : Nat → Value → World → Prop} {Fin : (Nat → Value) → World → Prop} {L : Array Bool} {u : Nat → Value} (F : RegRow W0 n t s Pr Fin (fun j => L.getD j false) u w1) (i : Nat) (hi : i < n) (k : Nat) (hk : L.getD k true = false) (hkn : k ≤ n) (h : L.getD i false = true) : Pr i (u (s i)) w1 :=
  F.each i hi (fun ht => by
    cases h1 : L.getD n false with
    | false => rfl
    | true =>
      rcases Nat.lt_or_ge k n with h2 | h2
      · have h3 := F.all ht h1 k h2
        have h4 := false_of hk
        rw [h4] at h3
        cases h3
      · obtain rfl : k = n := by omega
        have h4 := false_of hk
        rw [h4] at h1
        cases h1) h
end Go.Proofs.YtmnibfdenmeepaaDoor
/- Opposite, Order of the reference. -/
namespace Go.Proofs.YtmnibfdenmeepaaDoor
open Go.RowKit Go.Shelf Big

theorem rOpp_any (n c : Nat) (av : Option Addr) (s : Bool) (w : World) :
    Calls Tryd.prog 63 #[.agg #[.bool s, .slice av (lims 10 n).length c]] w fun e w' => e = .returned (.agg #[.bool (!s && decide (0 < n)), .slice av (lims 10 n).length c]) ∧ Below w.heap.size w w' := by
  have HN := Lib.hid (fun W => num_len n c av (!s) W)
  revert HN
  generalize (lims 10 n).length = l
  intro HN
  go_enter Tryd.func63, Tryd.ntmps63
  go_wp2_with fail
  refine (HN.out _).mono ?_
  rintro e w2 ⟨rfl, hb2⟩
  have hX : Has w2 (w.heap.size + 1) 51 #[.bool false, .slice none 0 0] := (Has.new' (w := w.alloc (.cells #[.bool s, .slice av l c] 51)) (n := w.heap.size + 1) (by simp) 51 #[.bool false, .slice none 0 0]).below hb2
  obtain ⟨q0, q1, q2, q3⟩ := cells_two hX
  have HB2 := Lib.hid (Below.behind (((Below.refl _ w).alloc (Nat.le_refl _) (.cells #[.bool s, .slice av l c] 51)).alloc (by simp) (.cells #[.bool false, .slice none 0 0] 51)) hb2)
  clear hb2 hX
  go_wp2
  exact bodyPost_ret (v := .agg #[.bool (!s && decide (0 < n)), .slice av l c]) (by simp [results, Tryd.results63, go_sem, World.cell?_setCell_same', q0, q1]) rfl ⟨rfl, Below.two HB2.out (by omega) _ _⟩
theorem opp_z {s : Bool} {n : Nat} : sgI (!s && decide (0 < n)) n = -(sgI s n) := by
  unfold sgI
  cases s <;> rcases Nat.eq_zero_or_pos n with h | h <;> simp [h]

/-- Which of two numbers is greater. -/
def ordZ (x y : Int) : Int := if x < y then -1 else if y < x then 1 else 0
theorem ordZ_sub (x y : Int) : ordZ x y = if x - y < 0 then -1 else if x - y = 0 then 0 else 1 := by
  unfold ordZ
  split <;> split <;> first | omega | (split <;> omega)
def ordS : Nat → Nat
  | 0 => 6 | 1 => 7 | 2 => 8 | 3 => 9 | _ => 5
def ordPr (W0 : World) (s t : Bool) (lv lu : Nat) (av bv : Option Addr) (ca cb : Nat) (o : Bool) (z : Int) : Nat → Value → World → Prop
  | 0, v, _ => v = .agg #[.bool s, .slice av lv ca]
  | 1, v, _ => v = .agg #[.bool t, .slice bv lu cb]
  | 2, v, _ => v = .agg #[.bool o, .slice bv lu cb]
  | 3, v, w => ∃ a l c, v = .agg #[.bool (decide (z < 0)), .slice a l c] ∧ DecIs w W0.heap.size (.slice a l c) z.natAbs
  | _, v, w => ∃ g, v = .pointer (some ⟨g, 0, none⟩) ∧ W0.heap.size ≤ g ∧ Has w g 51 #[.bool false, .slice none 0 0]
theorem ordPr_stays (W0 : World) (s t : Bool) (lv lu : Nat) (av bv : Option Addr) (ca cb : Nat) (o : Bool) (z : Int) : Stays 5 (ordPr W0 s t lv lu av bv ca cb o z) := by
  intro i v w w' hi hb h
  match i, h with
  | 0, h => exact h
  | 1, h => exact h
  | 2, h => exact h
  | 3, h => obtain ⟨a, l, c, e, hd⟩ := h; exact ⟨a, l, c, e, hd.kept hb⟩
  | 4, h => obtain ⟨g, e, hg, hx⟩ := h; exact ⟨g, e, hg, hx.below hb⟩
  | n + 5, _ => omega
def ordFin (z : Int) (u : Nat → Value) (w : World) : Prop := ∃ (g : Nat) (v : Value), u 5 = .pointer (some ⟨g, 0, none⟩) ∧ Has w g 51 #[.bool (decide (z < 0)), v] ∧ ∃ B, DecIs w B v z.natAbs
theorem ord_keep {W0 : World} {b c : Nat} {x y z u : Value} (h : ∀ W, Below W0.heap.size W0 W → Has W b 51 #[x, y] ∧ Has W c 51 #[z, u]) {W : World} (hb : Below W0.heap.size W0 W) :
    W.cell? ⟨b, 0, none⟩ = some x ∧ W.cell? ⟨b, 1, none⟩ = some y ∧ W.cell? ⟨c, 0, none⟩ = some z ∧ W.cell? ⟨c, 1, none⟩ = some u ∧ Below W0.heap.size W0 W :=
  ⟨(h W hb).1.cell 0, (h W hb).1.cell 1, (h W hb).2.cell 0, (h W hb).2.cell 1, hb⟩
theorem Below.next {W0 W w' : World} (h : Below W0.heap.size W0 W) (hb : Below W.heap.size W w') : Below W0.heap.size W0 w' := Below.behind h hb
theorem Below.made {W0 W : World} (h : Below W0.heap.size W0 W) (o : Obj) : Below W0.heap.size W0 (W.alloc o) := h.alloc h.size o
theorem Below.made2 {W0 W : World} (h : Below W0.heap.size W0 W) (o : Obj) (x y : Value) : Below W0.heap.size W0 (((W.alloc o).setCell ⟨W.heap.size, 0, none⟩ x).setCell ⟨W.heap.size, 1, none⟩ y) := Below.two (Below.made h o) h.size x y
set_option maxRecDepth 100000 in
set_option maxHeartbeats 2000000 in
theorem rOrder_any (B1 B2 m k : Nat) (va vb : Value) (s t : Bool) (w : World) (ha : DecIs w B1 va m) (hb : DecIs w B2 vb k) (hla : (lims 10 m).length ≤ 100000000) (hlb : (lims 10 k).length ≤ 100000000) :
    Calls Tryd.prog 67 #[.agg #[.bool s, va], .agg #[.bool t, vb]] w fun e w' => e = .returned (.int .i64 (ordZ (sgI s m) (sgI t k))) ∧ Below w.heap.size w w' := by
  have HA := Lib.hid ha
  have HB := Lib.hid hb
  obtain ⟨av, ca, rfl⟩ := ha.slice
  obtain ⟨bv, cb, rfl⟩ := hb.slice
  have HOP := Lib.hid (fun W => rOpp_any k cb bv t W)
  obtain ⟨lv, hlv⟩ : ∃ lv, (lims 10 m).length = lv := ⟨_, rfl⟩
  obtain ⟨lu, hlu⟩ : ∃ lu, (lims 10 k).length = lu := ⟨_, rfl⟩
  rw [hlv] at HA hla ⊢
  rw [hlu] at HB HOP hlb ⊢
  have HLV := Lib.hid hlv
  have HLU := Lib.hid hlu
  clear ha hb hlv hlu
  go_enter Tryd.func67, Tryd.ntmps67
  go_wp2_with fail
  obtain ⟨W0, hW0⟩ : ∃ W0, (w.alloc (.cells #[.bool s, .slice av lv ca] 51)).alloc (.cells #[.bool t, .slice bv lu cb] 51) = W0 := ⟨_, rfl⟩
  rw [hW0]
  have hz0 : W0.heap.size = w.heap.size + 2 := by rw [← hW0]; simp
  have hA0 : DecIs W0 B1 (.slice av lv ca) m := by rw [← hW0]; exact (HA.out.alloc _).alloc _
  have hB0 : DecIs W0 B2 (.slice bv lu cb) k := by rw [← hW0]; exact (HB.out.alloc _).alloc _
  have hX : Has W0 w.heap.size 51 #[.bool s, .slice av lv ca] := by rw [← hW0]; exact (Has.new w _ _).alloc _
  have hY : Has W0 (w.heap.size + 1) 51 #[.bool t, .slice bv lu cb] := by rw [← hW0]; exact Has.new' (n := w.heap.size + 1) (by simp) _ _
  have hBB : Below w.heap.size w W0 := by rw [← hW0]; exact ((Below.refl _ w).alloc (Nat.le_refl _) _).alloc (by simp) _
  clear hW0
  obtain ⟨x0, x1, -⟩ := cells_two hX
  obtain ⟨y0, y1, -⟩ := cells_two hY
  have hM : Below W0.heap.size W0 W0 := Below.refl _ _
  have HA1 := Lib.hid (fun W (h : Below W0.heap.size W0 W) => hA0.kept h)
  have HB1 := Lib.hid (fun W (h : Below W0.heap.size W0 W) => hB0.kept h)
  clear hA0 hB0
  have hst : Stays 5 (ordPr W0 s t lv lu av bv ca cb (!t && decide (0 < k)) (sgI s m - sgI t k)) := ordPr_stays W0 s t lv lu av bv ca cb (!t && decide (0 < k)) (sgI s m - sgI t k)
  refine wp_region_inv (Inv := fun listed x w' => ∃ u, x = { tmps := #[.agg #[.bool s, .slice av lv ca], .agg #[.bool t, .slice bv lu cb], .pointer (some ⟨w.heap.size, 0, none⟩), .pointer (some ⟨w.heap.size + 1, 0, none⟩), .int .i64 0, u 5, u 6, u 7, u 8, u 9, undef, undef, undef, undef, undef, undef, undef, undef], defers := [] } ∧ RegRow W0 5 true ordS (ordPr W0 s t lv lu av bv ca cb (!t && decide (0 < k)) (sgI s m - sgI t k)) (ordFin (sgI s m - sgI t k)) (fun i => listed.getD i false) u w') (by kernel_rfl) (ord_of (by kernel_rfl)) ?h0 ?step ?fin
  case h0 => exact ⟨fun _ => undef, rfl, RegRow.start (none_listed _)⟩
  case fin =>
    rintro listed x w' ⟨u, rfl, F⟩ hall
    obtain ⟨g, v, e5, hg, B, hv⟩ := F.fin rfl (hall 5 (by decide))
    obtain ⟨a, c, rfl⟩ := hv.slice
    have hbF := hBB.trans (F.below.mono (show w.heap.size ≤ W0.heap.size by omega))
    obtain ⟨q0, q1, -⟩ := cells_two hg
    have hl := dec_len (n := (sgI s m - sgI t k).natAbs)
    have HOZ := Lib.hid (show ordZ (sgI s m) (sgI t k) = if sgI s m - sgI t k < 0 then -1 else if sgI s m - sgI t k = 0 then 0 else 1 from ordZ_sub _ _)
    clear hv hg F hall hBB
    revert q0 q1 hl HOZ
    generalize (lims 10 (sgI s m - sgI t k).natAbs).length = L
    generalize sgI s m - sgI t k = z
    intro q0 q1 hl HOZ
    have HBF := Lib.hid hbF
    clear hbF
    rcases (show z < 0 ∨ (¬ z < 0 ∧ z = 0 ∧ L = 0) ∨ (¬ z < 0 ∧ ¬ z = 0 ∧ 0 < L) by omega) with h1 | ⟨h1, h2, rfl⟩ | ⟨h1, h2, h3⟩
    · have HR := Lib.hid (show ordZ (sgI s m) (sgI t k) = -1 by rw [HOZ.out, if_pos h1])
      rw [decide_eq_true h1] at q0
      clear hl h1
      go_wp2
      go_ret
      exact ⟨by rw [HR.out]; rfl, HBF.out⟩
    · have HR := Lib.hid (show ordZ (sgI s m) (sgI t k) = 0 by rw [HOZ.out, if_neg h1, if_pos h2])
      rw [decide_eq_false h1] at q0
      clear hl h1 h2
      go_wp2
      go_ret
      exact ⟨by rw [HR.out]; rfl, HBF.out⟩
    · have HR := Lib.hid (show ordZ (sgI s m) (sgI t k) = 1 by rw [HOZ.out, if_neg h1, if_neg h2])
      rw [decide_eq_false h1] at q0
      have h3I : (L : Int) > 0 := by omega
      clear hl h1 h2
      go_wp2
      go_ret
      exact ⟨by rw [HR.out]; rfl, HBF.out⟩
  case step =>
    rintro listed x w' i ⟨u, rfl, F⟩ hi hn hd
    have h6 : i = 0 ∨ i = 1 ∨ i = 2 ∨ i = 3 ∨ i = 4 ∨ i = 5 := by
      have : i < 6 := hi
      omega
    have hXw := hX.below F.below
    have hYw := hY.below F.below
    obtain ⟨x0, x1, -⟩ := cells_two hXw
    obtain ⟨y0, y1, -⟩ := cells_two hYw
    rcases h6 with rfl | rfl | rfl | rfl | rfl | rfl
    · refine wpOp_by rfl rfl (fun K hK => ?_)
      go_simp
      exact hK _ _ ⟨_, rfl, F.put 0 hst (by decide) (by decide) hn (Below.refl _ _) rfl⟩
    · refine wpOp_by rfl rfl (fun K hK => ?_)
      go_simp
      exact hK _ _ ⟨_, rfl, F.put 1 hst (by decide) (by decide) hn (Below.refl _ _) rfl⟩
    · have e1 : u 7 = _ := F.got 1 (by decide) 2 hn (by decide) (hd _ rfl ⟨1, .data⟩ (by simp) rfl)
      refine wpOp_by rfl rfl (fun K hK => ?_)
      go_simp
      refine (HOP.out _).mono ?_
      rintro e w1 ⟨rfl, hb1⟩
      exact hK _ _ ⟨_, by simp [upd, ordS, e1], F.put 2 hst (by decide) (by decide) hn hb1 rfl⟩
    · have e1 : u 6 = _ := F.got 0 (by decide) 3 hn (by decide) (hd _ rfl ⟨0, .data⟩ (by simp) rfl)
      have e2 : u 8 = _ := F.got 2 (by decide) 3 hn (by decide) (hd _ rfl ⟨2, .data⟩ (by simp) rfl)
      refine wpOp_by rfl rfl (fun K hK => ?_)
      go_simp
      refine (rPlus_any B1 B2 m k _ _ _ _ _ (HA1.out _ F.below) (HB1.out _ F.below) (by rw [HLV.out]; exact hla) (by rw [HLU.out]; exact hlb)).mono ?_
      rintro e w1 ⟨⟨v, rfl, hv⟩, hb1⟩
      rw [opp_z, ← Int.sub_eq_add_neg] at hv ⊢
      obtain ⟨a, c, rfl⟩ := hv.slice
      exact hK _ _ ⟨_, by simp [upd, ordS, e1, e2], F.put 3 hst (by decide) (by decide) hn hb1 ⟨_, _, _, rfl, DecIs.mono hv F.below.size⟩⟩
    · refine wpOp_by rfl rfl (fun K hK => ?_)
      go_simp
      exact hK _ _ ⟨_, rfl, F.put 4 hst (by decide) (by decide) hn ((Below.refl _ _).alloc (Nat.le_refl _) _) ⟨_, rfl, F.below.size, Has.new _ _ _⟩⟩
    · obtain ⟨g, e1, hg, hx⟩ := F.got 4 (by decide) 5 hn (by decide) (hd _ rfl ⟨4, .data⟩ (by simp) rfl)
      obtain ⟨a, l, c, e2, hv⟩ := F.got 3 (by decide) 5 hn (by decide) (hd _ rfl ⟨3, .data⟩ (by simp) rfl)
      have e1 : u 5 = _ := e1
      have e2 : u 9 = _ := e2
      obtain ⟨q0, q1, q2, q3⟩ := cells_two hx
      have hne : ∀ b, (Value.slice a l c).ownBlock = some b → b ≠ g := by
        intro b hb e
        subst e
        rcases hv.2 with ⟨h1, _⟩ | ⟨g', cap, cur, h1, h2, h3, _⟩
        · cases h1; cases hb
        · cases h1
          have : g' = b := by
            have h : some g' = some b := hb
            injection h
          subst this
          have h4 : some (Obj.cells cur 3) = some (Obj.cells #[.bool false, .slice none 0 0] 51) := h3.symm.trans hx
          injection h4 with h5
          injection h5 with _ h6
          exact absurd h6 (by decide)
      refine wpOp_by rfl rfl (fun K hK => ?_)
      go_simp
      exact hK _ _ ⟨u, by simp [e1, e2], F.last hn (fun i hi => by
        have : i = 0 ∨ i = 1 ∨ i = 2 ∨ i = 3 ∨ i = 4 := by omega
        rcases this with rfl | rfl | rfl | rfl | rfl
        · exact hd _ rfl ⟨0, .phase⟩ (by simp) rfl
        · exact hd _ rfl ⟨1, .phase⟩ (by simp) rfl
        · exact hd _ rfl ⟨2, .phase⟩ (by simp) rfl
        · exact hd _ rfl ⟨3, .phase⟩ (by simp) rfl
        · exact hd _ rfl ⟨4, .phase⟩ (by simp) rfl) (Below.two F.below hg _ _) ⟨g, _, e1, hx.put2 _ _, _, (hv.apart hne 0 _).apart hne 1 _⟩⟩
end Go.Proofs.YtmnibfdenmeepaaDoor
/- both of the reference. -/
namespace Go.Proofs.YtmnibfdenmeepaaDoor
open Go.RowKit Go.Shelf Big

/-- A sign and digits are the number of a text, if it is one. -/
def NP (B : Nat) (l : List UInt8) (w' : World) (s : Bool) (v : Value) : Prop := ∃ n, DecIs w' B v n ∧ ∀ z, numOf l = some z → Tells n z ∧ s = decide (z < 0)
theorem NumRes.np {B : Nat} {l : List UInt8} {w' : World} {e : Ending} (h : NumRes B l w' e) : ∃ (s : Bool) (av : Option Addr) (n c : Nat), e = .returned (.tuple #[.agg #[.bool s, .slice av n c], .bool (numOf l).isSome]) ∧ NP B l w' s (.slice av n c) := by
  obtain ⟨v, n, g, rfl, hd, hk⟩ := h
  obtain ⟨av, c, rfl⟩ := hd.slice
  exact ⟨g, av, _, c, rfl, n, hd, hk⟩
theorem NP.kept {B : Nat} {l : List UInt8} {w w' : World} {s : Bool} {v : Value} (h : NP B l w s v) (hb : Below w.heap.size w w') : NP B l w' s v := by
  obtain ⟨n, hd, hk⟩ := h
  exact ⟨n, hd.kept hb, hk⟩
theorem NP.mono {B B' : Nat} {l : List UInt8} {w : World} {s : Bool} {v : Value} (h : NP B l w s v) (hb : B' ≤ B) : NP B' l w s v := by
  obtain ⟨n, hd, hk⟩ := h
  exact ⟨n, DecIs.mono hd hb, hk⟩
theorem NP.two {B : Nat} {l : List UInt8} {w : World} {s : Bool} {v : Value} (h : NP B l w s v) {r : Nat} (hr : r < B) (x y : Value) : NP B l ((w.setCell ⟨r, 0, none⟩ x).setCell ⟨r, 1, none⟩ y) s v := by
  obtain ⟨n, hd, hk⟩ := h
  exact ⟨n, (hd.apart (hd.new hr) 0 x).apart (hd.new hr) 1 y, hk⟩
theorem NP.drew {B : Nat} {l : List UInt8} {w : World} {s : Bool} {v : Value} (h : NP B l w s v) : NP B l w.drew s v := h
theorem NP.zero (l : List UInt8) (B : Nat) (w : World) (s : Bool) (h : numOf l = none) : NP B l w s (.slice none 0 0) :=
  ⟨0, by unfold DecIs; rw [lims_zero]; exact World.ownsRow_nil _ _ _ _, fun z hz => by rw [h] at hz; cases hz⟩
/-- What both answers. -/
def BothRes (B : Nat) (a b : List UInt8) (w' : World) (e : Ending) : Prop :=
  ∃ (s1 : Bool) (a1 : Option Addr) (n1 c1 : Nat) (s2 : Bool) (a2 : Option Addr) (n2 c2 : Nat),
    e = .returned (.tuple #[.agg #[.bool s1, .slice a1 n1 c1], .agg #[.bool s2, .slice a2 n2 c2], .int .i64 (if ((numOf a).isSome && (numOf b).isSome) = true then 0 else 2)]) ∧
    (((numOf a).isSome && (numOf b).isSome) = true → NP B a w' s1 (.slice a1 n1 c1) ∧ NP B b w' s2 (.slice a2 n2 c2))
theorem Has.far2 {W : World} {g k : Nat} {t : TypeId} {cs : Array Value} (h : Has W g t cs) (hne : g ≠ k) (x y : Value) : Has ((W.setCell ⟨k, 0, none⟩ x).setCell ⟨k, 1, none⟩ y) g t cs := (h.far hne x).far hne y

set_option maxRecDepth 100000 in
set_option maxHeartbeats 4000000 in
theorem rBoth_any (a b : ByteArray) (w : World) (ha : a.size ≤ 1000000000000) (hb : b.size ≤ 1000000000000) :
    Calls Tryd.prog 60 #[.string a, .string b] w fun e w' => BothRes w.heap.size a.data.toList b.data.toList w' e ∧ Below w.heap.size w w' := by
  go_enter Tryd.func60, Tryd.ntmps60
  go_wp2_with fail
  obtain ⟨W0, hW0⟩ : ∃ W0, (w.alloc (.cells #[.bool false, .slice none 0 0] 51)).alloc (.cells #[.bool false, .slice none 0 0] 51) = W0 := ⟨_, rfl⟩
  rw [hW0]
  have hz0 : W0.heap.size = w.heap.size + 2 := by rw [← hW0]; simp
  have hX : Has W0 w.heap.size 51 #[.bool false, .slice none 0 0] := by rw [← hW0]; exact (Has.new w _ _).alloc _
  have hY : Has W0 (w.heap.size + 1) 51 #[.bool false, .slice none 0 0] := by rw [← hW0]; exact Has.new' (by simp) _ _
  have hBB : Below w.heap.size w W0 := by rw [← hW0]; exact ((Below.refl _ w).alloc (Nat.le_refl _) _).alloc (by simp) _
  clear hW0
  refine (rNumber_any a W0 ha).mono ?_
  rintro e w1 ⟨hp1, hb1⟩
  obtain ⟨s1, a1, n1, c1, rfl, hn1⟩ := hp1.np
  have hz1 := hb1.size
  have hX1 := (hX.below hb1).alloc (.cells #[.bool s1, .slice a1 n1 c1] 51)
  have hY1 := (hY.below hb1).alloc (.cells #[.bool s1, .slice a1 n1 c1] 51)
  have hT1 := Has.new w1 51 #[.bool s1, .slice a1 n1 c1]
  have hB1 := (Below.behind hBB hb1).alloc (by omega) (.cells #[.bool s1, .slice a1 n1 c1] 51)
  have hn2 := hn1.kept ((Below.refl _ w1).alloc (Nat.le_refl _) (.cells #[.bool s1, .slice a1 n1 c1] 51))
  go_wp2_with fail
  obtain ⟨r1, hr1⟩ : ∃ r1, w1.heap.size = r1 := ⟨_, rfl⟩
  rw [hr1] at hT1 ⊢
  have hzz : (w1.alloc (.cells #[.bool s1, .slice a1 n1 c1] 51)).heap.size = r1 + 1 := by simp [hr1]
  revert hX1 hY1 hT1 hB1 hn2 hzz
  generalize w1.alloc (.cells #[.bool s1, .slice a1 n1 c1] 51) = W1
  intro hX1 hY1 hB1 hn2 hT1 hzz
  clear hX hY hBB hn1 hp1 hb1
  refine (rNumber_any b W1 hb).mono ?_
  rintro e w3 ⟨hp3, hb3⟩
  obtain ⟨s2, a2, n2, c2, rfl, hn3⟩ := hp3.np
  have hz3 := hb3.size
  have hX3 := (hX1.below hb3).alloc (.cells #[.bool s2, .slice a2 n2 c2] 51)
  have hY3 := (hY1.below hb3).alloc (.cells #[.bool s2, .slice a2 n2 c2] 51)
  have hT3 := (hT1.below hb3).alloc (.cells #[.bool s2, .slice a2 n2 c2] 51)
  have hT4 := Has.new w3 51 #[.bool s2, .slice a2 n2 c2]
  have hB3 := (Below.behind hB1 hb3).alloc (by omega) (.cells #[.bool s2, .slice a2 n2 c2] 51)
  have hn4 := (hn2.kept hb3).kept ((Below.refl _ w3).alloc (Nat.le_refl _) (.cells #[.bool s2, .slice a2 n2 c2] 51))
  have hn5 := hn3.kept ((Below.refl _ w3).alloc (Nat.le_refl _) (.cells #[.bool s2, .slice a2 n2 c2] 51))
  have HN4 := Lib.hid (hn4.mono (show w.heap.size + 2 ≤ W0.heap.size by omega))
  have HN5 := Lib.hid (hn5.mono (show w.heap.size + 2 ≤ W1.heap.size by omega))
  obtain ⟨r3, hr3⟩ : ∃ r3, w3.heap.size = r3 := ⟨_, rfl⟩
  rw [hr3] at hT4
  clear hX1 hY1 hT1 hB1 hn2 hn3 hn4 hn5 hp3 hb3
  have HBB := Lib.hid hB3
  have hX3' := hX3
  obtain ⟨q0, q1, q2, q3⟩ := cells_two hX3
  obtain ⟨y0, y1, y2, y3⟩ := cells_two hY3
  obtain ⟨t0, t1, -⟩ := cells_two hT3
  obtain ⟨u0, u1, -⟩ := cells_two hT4
  have HX3 := Lib.hid hX3
  have HY3 := Lib.hid hY3
  clear hX3 hY3 hT3 hT4 hB3 hX3'
  cases h1 : (numOf a.data.toList).isSome <;> cases h2 : (numOf b.data.toList).isSome
  case true.true =>
    have H1 := Lib.hid h1
    have H2 := Lib.hid h2
    clear h1 h2
    go_wp2_with fail
    revert HN4 HN5 HBB q0 q1 q2 q3 y0 y1 y2 y3 t0 t1 u0 u1 HX3 HY3
    generalize w3.alloc (.cells #[.bool s2, .slice a2 n2 c2] 51) = W3
    intro HN4 HN5 HBB q0 q1 q2 q3 y0 y1 y2 y3 t0 t1 u0 u1 HX3 HY3
    go_region
    have hfX : Has _ _ _ _ := ((HX3.out.put2 (.bool s1) (.slice a1 n1 c1)).far2 (show w.heap.size ≠ w.heap.size + 1 by omega) (.bool s2) (.slice a2 n2 c2)).drew
    have hfY : Has _ _ _ _ := (Has.put2 (HY3.out.far2 (show w.heap.size + 1 ≠ w.heap.size by omega) (.bool s1) (.slice a1 n1 c1)) (.bool s2) (.slice a2 n2 c2)).drew
    have HF1 := Lib.hid (((HN4.out.two (show w.heap.size < w.heap.size + 2 by omega) (.bool s1) (.slice a1 n1 c1)).two (show w.heap.size + 1 < w.heap.size + 2 by omega) (.bool s2) (.slice a2 n2 c2)).drew)
    have HF2 := Lib.hid (((HN5.out.two (show w.heap.size < w.heap.size + 2 by omega) (.bool s1) (.slice a1 n1 c1)).two (show w.heap.size + 1 < w.heap.size + 2 by omega) (.bool s2) (.slice a2 n2 c2)).drew)
    have HBF := Lib.hid ((Below.two (Below.two HBB.out (Nat.le_refl _) (.bool s1) (.slice a1 n1 c1)) (show w.heap.size ≤ w.heap.size + 1 by omega) (.bool s2) (.slice a2 n2 c2)).drew)
    obtain ⟨x0, x1, -⟩ := cells_two hfX
    obtain ⟨z0, z1, -⟩ := cells_two hfY
    clear hfX hfY q0 q1 q2 q3 y0 y1 y2 y3 t0 t1 u0 u1
    go_wp2
    exact bodyPost_ret (v := .tuple #[.agg #[.bool s1, .slice a1 n1 c1], .agg #[.bool s2, .slice a2 n2 c2], .int .i64 0]) (by simp [results, Tryd.results60, go_sem, x0, x1, z0, z1]) rfl ⟨⟨s1, a1, n1, c1, s2, a2, n2, c2, by rw [H1.out, H2.out]; rfl, fun _ => ⟨HF1.out.mono (by omega), HF2.out.mono (by omega)⟩⟩, HBF.out⟩
  all_goals
    have H1 := Lib.hid h1
    have H2 := Lib.hid h2
    clear h1 h2
    revert HN4 HN5 HBB q0 q1 q2 q3 y0 y1 y2 y3 t0 t1 u0 u1 HX3 HY3
    generalize hW3 : w3.alloc (.cells #[.bool s2, .slice a2 n2 c2] 51) = W3
    intro HN4 HN5 HBB q0 q1 q2 q3 y0 y1 y2 y3 t0 t1 u0 u1 HX3 HY3
    go_wp2
    obtain ⟨x0, x1, -⟩ := cells_two ((HX3.out.put2 (.bool false) (.slice none 0 0)).far2 (show w.heap.size ≠ w.heap.size + 1 by omega) (.bool false) (.slice none 0 0))
    obtain ⟨z0, z1, -⟩ := cells_two (Has.put2 (HY3.out.far2 (show w.heap.size + 1 ≠ w.heap.size by omega) (.bool false) (.slice none 0 0)) (.bool false) (.slice none 0 0))
    exact bodyPost_ret (v := .tuple #[.agg #[.bool false, .slice none 0 0], .agg #[.bool false, .slice none 0 0], .int .i64 2]) (by simp only [results, Tryd.results60, go_sem]; simp [go_sem, x0, x1, z0, z1]) rfl ⟨⟨false, none, 0, 0, false, none, 0, 0, by rw [H1.out, H2.out]; rfl, fun h => by rw [H1.out, H2.out] at h; cases h⟩, Below.two (Below.two HBB.out (Nat.le_refl _) _ _) (show w.heap.size ≤ w.heap.size + 1 by omega) _ _⟩
end Go.Proofs.YtmnibfdenmeepaaDoor
/- told of the reference, with others. -/
namespace Go.Proofs.YtmnibfdenmeepaaDoor
open Go.RowKit Go.Shelf Big

/-- A slice of numbers: each is too long or not. -/
def Others (w : World) (g K : Nat) (tl : Nat → Bool) : Prop := ∀ W, Below w.heap.size w W → ∀ i, i < K → ∃ s v n B, W.cell? ⟨g, i * 2, none⟩ = some (.bool s) ∧ W.cell? ⟨g, i * 2 + 1, none⟩ = some v ∧ DecIs W B v n ∧ tl i = tooL n
theorem Others.below {w w' : World} {g K : Nat} {tl : Nat → Bool} (h : Others w g K tl) (hb : Below w.heap.size w w') : Others w' g K tl := fun W hW i hi => h W (Below.behind hb hW) i hi
def anyL (tl : Nat → Bool) (K : Nat) : Bool := (List.range K).any tl
theorem anyL_yes {tl : Nat → Bool} {K i : Nat} (hi : i < K) (h : tl i = true) : anyL tl K = true := by
  unfold anyL
  rw [List.any_eq_true]
  exact ⟨i, List.mem_range.2 hi, h⟩
theorem anyL_no {tl : Nat → Bool} {K : Nat} (h : ∀ i, i < K → tl i = false) : anyL tl K = false := by
  unfold anyL
  rw [List.any_eq_false]
  intro i hi
  rw [h i (List.mem_range.1 hi)]
  simp
def tellS (tl : Nat → Bool) (K : Nat) (s : Bool) (n : Nat) : List UInt8 × Int := if anyL tl K then ([], 4) else toldS s n
set_option maxRecDepth 100000 in
set_option maxHeartbeats 2000000 in
theorem rTold_any (B n g K C : Nat) (tl : Nat → Bool) (s : Bool) (v : Value) (w : World) (h : DecIs w B v n) (hO : Others w g K tl) (hK : K ≤ 1000) :
    Calls Tryd.prog 56 #[.agg #[.bool s, v], .slice (some ⟨g, 0, none⟩) K C] w fun e w' => e = retS (tellS tl K s n) ∧ Below w.heap.size w w' := by
  obtain ⟨av, c, rfl⟩ := h.slice
  have HL := Lib.hid (fun W (hW : Below w.heap.size w W) => rLong_any B n s _ W (h.kept hW))
  have HX := Lib.hid (fun (ht : tooL n = false) W (hW : Below w.heap.size w W) => rText_any B n s _ W (h.kept hW) (dec_short ht))
  have HRet := Lib.hid (show retS (toldS s n) = if tooL n then .returned (.tuple #[.string ⟨#[]⟩, .int .i64 4]) else .returned (.tuple #[.string ⟨(txtS s n).toArray⟩, .int .i64 0]) by
    unfold toldS retS
    cases tooL n <;> rfl)
  have HO := Lib.hid hO
  have HYes := Lib.hid (fun i (hi : i < K) (h : tl i = true) => show retS (tellS tl K s n) = .returned (.tuple #[.string ⟨#[]⟩, .int .i64 4]) by unfold tellS; rw [anyL_yes hi h]; rfl)
  have HNo := Lib.hid (fun (h : ∀ i, i < K → tl i = false) => show retS (tellS tl K s n) = retS (toldS s n) by unfold tellS; rw [anyL_no h]; rfl)
  clear h hO
  revert HL HX HRet
  generalize (lims 10 n).length = l
  intro HL HX HRet
  have hB : ∀ o, Below w.heap.size w (w.alloc o) := fun o => (Below.refl _ w).alloc (Nat.le_refl _) o
  have HB := Lib.hid hB
  clear hB
  go_enter Tryd.func56, Tryd.ntmps56
  go_wp2_with fail
  go_loopg [10] K (fun gh v wx => ∃ i : Nat, v = .int .i64 (i : Int) ∧ i + gh = K ∧ (∀ j, j < i → tl j = false) ∧ Below w.heap.size w wx ∧ Has wx w.heap.size 51 #[.bool s, .slice av l c])
  case atStart => exact ⟨0, rfl, by omega, fun _ h => absurd h (Nat.not_lt_zero _), HB.out _, Has.new _ _ _⟩
  case round =>
    obtain ⟨i, rfl, hik, hno, hb, hH⟩ := hrel
    have HNO := Lib.hid hno
    have HBX := Lib.hid hb
    have HH := Lib.hid hH
    clear hno hb hH
    by_cases hi : i < K
    · obtain ⟨s2, v2, n2, B2, h0, h1, hd, htl⟩ := HO.out wr HBX.out i hi
      obtain ⟨a2, c2, rfl⟩ := hd.slice
      have hi1 : (i : Int) < (K : Int) := by omega
      have hi0 : (0 : Int) ≤ (i : Int) := by omega
      have HL2 := Lib.hid (fun W (hW : Below wr.heap.size wr W) => rLong_any B2 n2 s2 _ W (hd.kept hW))
      have hBW := fun o => (Below.refl wr.heap.size wr).alloc (Nat.le_refl _) o
      have HBW := Lib.hid hBW
      clear hd hBW
      revert h1 HL2
      generalize (lims 10 n2).length = l2
      intro h1 HL2
      rw [← htl] at HL2
      go_wp2_with fail
      refine (HL2.out _ (HBW.out _)).mono ?_
      rintro e w2 ⟨rfl, hb2⟩
      have HB2 := Lib.hid (Below.behind (Below.behind HBX.out (HBW.out (.cells #[.bool s2, .slice a2 l2 c2] 51))) hb2)
      have HH2 := Lib.hid ((HH.out.below (HBW.out (.cells #[.bool s2, .slice a2 l2 c2] 51))).below hb2)
      clear hb2
      cases ht : tl i with
      | true =>
        have HR := Lib.hid (HYes.out i hi ht)
        go_wp2
        go_ret2
        exact ⟨HR.out.symm, HB2.out⟩
      | false =>
        obtain ⟨G, rfl⟩ : ∃ G, gk = G + 1 := ⟨gk - 1, by omega⟩
        have HN2 := Lib.hid (show ∀ j, j < i + 1 → tl j = false from fun j hj => by
          rcases Nat.lt_or_ge j i with h | h
          · exact HNO.out j h
          · obtain rfl : j = i := by omega
            exact ht)
        clear ht
        go_wp2
        go_roundg G
        case measure => omega
        case rel => exact ⟨i + 1, by go_num, by omega, HN2.out, HB2.out, HH2.out⟩
    · obtain rfl : i = K := by omega
      have hi1 : ¬ (i : Int) < (i : Int) := by omega
      have HE := Lib.hid (HNo.out HNO.out)
      obtain ⟨x0, x1, -⟩ := cells_two HH.out
      go_wp2_with fail
      refine (HL.out _ HBX.out).mono ?_
      rintro e w2 ⟨rfl, hb2⟩
      obtain ⟨c0, c1, -⟩ := cells_two (HH.out.below hb2)
      have HB2 := Lib.hid (Below.behind HBX.out hb2)
      clear hb2
      cases ht : tooL n with
      | true =>
        have HR := Lib.hid (show retS (toldS s n) = .returned (.tuple #[.string ⟨#[]⟩, .int .i64 4]) by rw [HRet.out, ht]; rfl)
        clear ht
        go_wp2
        go_ret2
        exact ⟨(HE.out.trans HR.out).symm, HB2.out⟩
      | false =>
        have HR := Lib.hid (show retS (toldS s n) = .returned (.tuple #[.string ⟨(txtS s n).toArray⟩, .int .i64 0]) by rw [HRet.out, ht]; rfl)
        have HX2 := Lib.hid (HX.out ht)
        clear ht
        go_wp2_with fail
        refine (HX2.out _ HB2.out).mono ?_
        rintro e w3 ⟨rfl, hb3⟩
        have HB3 := Lib.hid (Below.behind HB2.out hb3)
        clear hb3
        go_wp2
        go_ret2
        exact ⟨(HE.out.trans HR.out).symm, HB3.out⟩

set_option maxRecDepth 100000 in
set_option maxHeartbeats 2000000 in
theorem rShort_any (g K C : Nat) (tl : Nat → Bool) (w : World) (hO : Others w g K tl) (hK : K ≤ 1000) :
    Calls Tryd.prog 66 #[.slice (some ⟨g, 0, none⟩) K C] w fun e w' => e = .returned (.bool (!anyL tl K)) ∧ Below w.heap.size w w' := by
  have HO := Lib.hid hO
  have HYes := Lib.hid (fun i (hi : i < K) (h : tl i = true) => show (!anyL tl K) = false by rw [anyL_yes hi h]; rfl)
  have HNo := Lib.hid (fun (h : ∀ i, i < K → tl i = false) => show (!anyL tl K) = true by rw [anyL_no h]; rfl)
  clear hO
  go_enter Tryd.func66, Tryd.ntmps66
  go_wp2_with fail
  go_loopg [7] K (fun gh v wx => ∃ i : Nat, v = .int .i64 (i : Int) ∧ i + gh = K ∧ (∀ j, j < i → tl j = false) ∧ Below w.heap.size w wx)
  case atStart => exact ⟨0, rfl, by omega, fun _ h => absurd h (Nat.not_lt_zero _), Below.refl _ _⟩
  case round =>
    obtain ⟨i, rfl, hik, hno, hb⟩ := hrel
    have HNO := Lib.hid hno
    have HBX := Lib.hid hb
    clear hno hb
    by_cases hi : i < K
    · obtain ⟨s2, v2, n2, B2, h0, h1, hd, htl⟩ := HO.out wr HBX.out i hi
      obtain ⟨a2, c2, rfl⟩ := hd.slice
      have hi1 : (i : Int) < (K : Int) := by omega
      have hi0 : (0 : Int) ≤ (i : Int) := by omega
      have HL2 := Lib.hid (fun W (hW : Below wr.heap.size wr W) => rLong_any B2 n2 s2 _ W (hd.kept hW))
      have HBW := Lib.hid (fun o => (Below.refl wr.heap.size wr).alloc (Nat.le_refl _) o)
      clear hd
      revert h1 HL2
      generalize (lims 10 n2).length = l2
      intro h1 HL2
      rw [← htl] at HL2
      go_wp2_with fail
      refine (HL2.out _ (HBW.out _)).mono ?_
      rintro e w2 ⟨rfl, hb2⟩
      have HB2 := Lib.hid (Below.behind (Below.behind HBX.out (HBW.out (.cells #[.bool s2, .slice a2 l2 c2] 51))) hb2)
      clear hb2
      cases ht : tl i with
      | true =>
        have HR := Lib.hid (HYes.out i hi ht)
        clear ht
        go_wp2
        go_ret
        exact ⟨by rw [HR.out]; rfl, HB2.out⟩
      | false =>
        obtain ⟨G, rfl⟩ : ∃ G, gk = G + 1 := ⟨gk - 1, by omega⟩
        have HN2 := Lib.hid (show ∀ j, j < i + 1 → tl j = false from fun j hj => by
          rcases Nat.lt_or_ge j i with h | h
          · exact HNO.out j h
          · obtain rfl : j = i := by omega
            exact ht)
        clear ht
        go_wp2
        go_roundg G
        case measure => omega
        case rel => exact ⟨i + 1, by go_num, by omega, HN2.out, HB2.out⟩
    · obtain rfl : i = K := by omega
      have hi1 : ¬ (i : Int) < (i : Int) := by omega
      have HE := Lib.hid (HNo.out HNO.out)
      go_wp2
      go_ret
      exact ⟨by rw [HE.out]; rfl, HBX.out⟩
end Go.Proofs.YtmnibfdenmeepaaDoor
/- Add of the reference. -/
namespace Go.Proofs.YtmnibfdenmeepaaDoor
open Go.RowKit Go.Shelf Big

/-- The number of a text of at most 900 bytes is not great enough for what is far too long. -/
def k900 : Nat := 900
def k1100 : Nat := 1100
theorem mid_le : 16 ^ k900 ≤ 10 ^ k1100 := by decide +kernel
theorem num_mid {l : List UInt8} {z : Int} (h : numOf l = some z) (hl : l.length ≤ k900) : z.natAbs < 16 ^ k900 := by
  unfold numOf at h
  split at h
  · rename_i hok
    obtain ⟨h1, h2, h3⟩ := bas_len (sgnOf (strip l)).2
    have h4 := sgn_len (strip l)
    have h5 := strip_len l
    generalize (basOf (sgnOf (strip l)).2).2 = r at *
    generalize (basOf (sgnOf (strip l)).2).1 = b at *
    have hz := Option.some.inj h
    subst hz
    rw [sg_abs]
    unfold okn at hok
    simp only [Bool.and_eq_true, List.all_eq_true, decide_eq_true_eq] at hok
    have h6 := rdn_lt hok.2
    have h7 : b ^ r.length ≤ 16 ^ r.length := Nat.pow_le_pow_left h3 _
    have h8 : 16 ^ r.length ≤ 16 ^ k900 := Nat.pow_le_pow_right (by omega) (by omega)
    exact Nat.lt_of_lt_of_le h6 (Nat.le_trans h7 h8)
  · cases h
theorem mid_len {n : Nat} (h : n < 16 ^ k900) : (lims 10 n).length ≤ 1100 := (lims_len_le ten_ge n k1100).2 (Nat.lt_of_lt_of_le h mid_le)
theorem tells_mid {n : Nat} {z : Int} (h : Tells n z) (hz : z.natAbs < 16 ^ k900) : n = z.natAbs := by
  rcases h with h | ⟨h1, h2⟩
  · exact h
  · have h3 : 10 ^ k1100 ≤ 10 ^ k1200 := le_far (show k1100 ≤ k1200 by decide)
    exact absurd (Nat.lt_of_lt_of_le hz (Nat.le_trans mid_le h3)) (Nat.not_lt.2 (Nat.le_trans h1 h2))
/-- A sign and digits are z. -/
def NZ (B : Nat) (z : Int) (w : World) (s : Bool) (v : Value) : Prop := s = decide (z < 0) ∧ DecIs w B v z.natAbs
theorem NP.nz {B : Nat} {l : List UInt8} {w : World} {s : Bool} {v : Value} {z : Int} (h : NP B l w s v) (hz : numOf l = some z) (hl : l.length ≤ k900) : NZ B z w s v ∧ (lims 10 z.natAbs).length ≤ 1100 := by
  obtain ⟨n, hd, hk⟩ := h
  obtain ⟨ht, hs⟩ := hk z hz
  have hm := num_mid hz hl
  have := tells_mid ht hm
  subst this
  exact ⟨⟨hs, hd⟩, mid_len hm⟩
theorem sgI_z (z : Int) : sgI (decide (z < 0)) z.natAbs = z := sg_z z
/-- What is told of z, if none of two is too long. -/
def tl2 (x y : Int) : Nat → Bool := fun i => if i = 0 then tooL x.natAbs else tooL y.natAbs
theorem tl2_any (x y : Int) : anyL (tl2 x y) 2 = (tooL x.natAbs || tooL y.natAbs) := by
  unfold anyL tl2
  simp [List.range_succ]
theorem tell_two (f : Int → Int → Int) {a b : List UInt8} {x y : Int} (ha : numOf a = some x) (hb : numOf b = some y) : tellS (tl2 x y) 2 (decide (f x y < 0)) (f x y).natAbs = opS f a b := by
  unfold tellS opS
  rw [tl2_any, ha, hb, toldS_sg, sg_z]
theorem op_none (f : Int → Int → Int) {a b : List UInt8} (h : ((numOf a).isSome && (numOf b).isSome) = false) : opS f a b = ([], 2) := by
  unfold opS
  cases ha : numOf a with
  | none => rfl
  | some x =>
    cases hb : numOf b with
    | none => rfl
    | some y => rw [ha, hb] at h; cases h
theorem op_some {a b : List UInt8} (h : ((numOf a).isSome && (numOf b).isSome) = true) : ∃ x y, numOf a = some x ∧ numOf b = some y := by
  rw [Bool.and_eq_true, Option.isSome_iff_exists, Option.isSome_iff_exists] at h
  obtain ⟨⟨x, hx⟩, y, hy⟩ := h
  exact ⟨x, y, hx, hy⟩
/-- A slice of two numbers. -/
theorem others_two {w : World} {g B1 B2 : Nat} {s1 s2 : Bool} {v1 v2 : Value} {x y : Int} (h : Has w g 51 #[.bool s1, v1, .bool s2, v2]) (h1 : DecIs w B1 v1 x.natAbs) (h2 : DecIs w B2 v2 y.natAbs) : Others w g 2 (tl2 x y) := by
  intro W hW i hi
  have hx := h.below hW
  rcases (show i = 0 ∨ i = 1 by omega) with rfl | rfl
  · exact ⟨s1, v1, x.natAbs, B1, hx.cell 0, hx.cell 1, h1.kept hW, by unfold tl2; rw [if_pos rfl]⟩
  · exact ⟨s2, v2, y.natAbs, B2, hx.cell 2, hx.cell 3, h2.kept hW, by unfold tl2; rw [if_neg (by decide)]⟩

def addS : Nat → Nat
  | 0 => 19 | 1 => 20 | 2 => 21 | 3 => 22 | 4 => 23 | 5 => 24 | 6 => 25 | 7 => 26 | 8 => 27 | 9 => 4 | _ => 5
def addPr (X Y : Value) (s1 s2 : Bool) (v1 v2 : Value) (z : Int) (rs rc : Value) : Nat → Value → World → Prop
  | 0, v, _ => v = X
  | 1, v, _ => v = Y
  | 2, v, w => ∃ B a l c, v = .agg #[.bool (decide (z < 0)), .slice a l c] ∧ DecIs w B (.slice a l c) z.natAbs
  | 3, v, _ => v = X
  | 4, v, _ => v = Y
  | 5, v, w => ∃ g, v = .slice (some ⟨g, 0, none⟩) 2 2 ∧ Has w g 51 #[.bool s1, v1, .bool s2, v2]
  | 6, v, _ => v = .tuple #[rs, rc]
  | 7, v, _ => v = rs
  | 8, v, _ => v = rc
  | 9, v, _ => v = rs
  | _, v, _ => v = rc
theorem addPr_stays (X Y : Value) (s1 s2 : Bool) (v1 v2 : Value) (z : Int) (rs rc : Value) : Stays 11 (addPr X Y s1 s2 v1 v2 z rs rc) := by
  intro i v w w' hi hb h
  match i, h with
  | 0, h => exact h
  | 1, h => exact h
  | 2, h => obtain ⟨B, a, l, c, e, hd⟩ := h; exact ⟨B, a, l, c, e, hd.kept hb⟩
  | 3, h => exact h
  | 4, h => exact h
  | 5, h => obtain ⟨g, e, hx⟩ := h; exact ⟨g, e, hx.below hb⟩
  | 6, h => exact h
  | 7, h => exact h
  | 8, h => exact h
  | 9, h => exact h
  | n + 10, h => exact h

set_option maxRecDepth 100000 in
set_option maxHeartbeats 8000000 in
theorem rAdd_any (a b : ByteArray) (w : World) (ha : a.size ≤ k900) (hb : b.size ≤ k900) :
    Calls Tryd.prog 17 #[.string a, .string b] w fun e w' => e = retS (opS (fun x y => x + y) a.data.toList b.data.toList) ∧ Below w.heap.size w w' := by
  have HB2 := Lib.hid (rBoth_any a b w (Nat.le_trans ha (by decide)) (Nat.le_trans hb (by decide)))
  have HNZ1 := Lib.hid (fun B W s v z (h : NP B a.data.toList W s v) (hz : numOf a.data.toList = some z) => h.nz hz (by rw [← Lib.size_eq]; exact ha))
  have HNZ2 := Lib.hid (fun B W s v z (h : NP B b.data.toList W s v) (hz : numOf b.data.toList = some z) => h.nz hz (by rw [← Lib.size_eq]; exact hb))
  clear ha hb
  go_enter Tryd.func17, Tryd.ntmps17
  go_wp2_with fail
  refine HB2.out.mono ?_
  rintro e w1 ⟨⟨s1, a1, n1, c1, s2, a2, n2, c2, rfl, hnp⟩, hb1⟩
  cases hok : (numOf a.data.toList).isSome && (numOf b.data.toList).isSome with
  | false =>
    have HR := Lib.hid (op_none (fun x y => x + y) hok)
    have HB1 := Lib.hid (fun o o' => (hb1.alloc hb1.size o).alloc (by simp; have := hb1.size; omega) o')
    clear hnp hok hb1
    simp only [Bool.false_eq_true, if_false]
    go_wp2
    go_ret2
    exact ⟨by rw [HR.out]; rfl, HB1.out _ _⟩
  | true =>
    obtain ⟨x, y, hx, hy⟩ := op_some hok
    obtain ⟨hp1, hp2⟩ := hnp hok
    obtain ⟨⟨rfl, hd1⟩, hl1⟩ := HNZ1.out _ _ _ _ _ hp1 hx
    obtain ⟨⟨rfl, hd2⟩, hl2⟩ := HNZ2.out _ _ _ _ _ hp2 hy
    have HOP := Lib.hid (tell_two (fun x y => x + y) hx hy)
    clear hnp hok hp1 hp2 hx hy
    simp only [if_true]
    go_wp2_with fail
    obtain ⟨W0, hW0⟩ : ∃ W0, (w1.alloc (.cells #[.bool (decide (x < 0)), .slice a1 n1 c1] 51)).alloc (.cells #[.bool (decide (y < 0)), .slice a2 n2 c2] 51) = W0 := ⟨_, rfl⟩
    rw [hW0]
    have hD1 : DecIs W0 w.heap.size (.slice a1 n1 c1) x.natAbs := by rw [← hW0]; exact (hd1.alloc _).alloc _
    have hD2 : DecIs W0 w.heap.size (.slice a2 n2 c2) y.natAbs := by rw [← hW0]; exact (hd2.alloc _).alloc _
    have hX : Has W0 w1.heap.size 51 #[.bool (decide (x < 0)), .slice a1 n1 c1] := by rw [← hW0]; exact (Has.new w1 _ _).alloc _
    have hY : Has W0 (w1.heap.size + 1) 51 #[.bool (decide (y < 0)), .slice a2 n2 c2] := by rw [← hW0]; exact Has.new' (n := w1.heap.size + 1) (by simp) _ _
    have hz1 := hb1.size
    have hz0 : W0.heap.size = w1.heap.size + 2 := by rw [← hW0]; simp
    have hBB : Below w.heap.size w W0 := by rw [← hW0]; exact (hb1.alloc hz1 _).alloc (by simp; omega) _
    clear hW0 hd1 hd2 hb1
    obtain ⟨p, hp⟩ : ∃ p, opS (fun x y => x + y) a.data.toList b.data.toList = p := ⟨_, rfl⟩
    rw [hp] at HOP
    have HP := Lib.hid hp
    clear hp
    have HPL := Lib.hid (fun W (hW : Below W0.heap.size W0 W) => rPlus_any w.heap.size w.heap.size x.natAbs y.natAbs _ _ (decide (x < 0)) (decide (y < 0)) W (hD1.kept hW) (hD2.kept hW) (by omega) (by omega))
    have HTL := Lib.hid (fun W (hW : Below W0.heap.size W0 W) B g l v c (hh : Has W g 51 #[.bool (decide (x < 0)), .slice a1 n1 c1, .bool (decide (y < 0)), .slice a2 n2 c2]) (hv : DecIs W B v (x + y).natAbs) => rTold_any B (x + y).natAbs g 2 c (tl2 x y) l v W hv (others_two hh (hD1.kept hW) (hD2.kept hW)) (by omega))
    clear hD1 hD2 hl1 hl2
    have hst := addPr_stays (.agg #[.bool (decide (x < 0)), .slice a1 n1 c1]) (.agg #[.bool (decide (y < 0)), .slice a2 n2 c2]) (decide (x < 0)) (decide (y < 0)) (.slice a1 n1 c1) (.slice a2 n2 c2) (x + y) (.string ⟨p.1.toArray⟩) (.int .i64 p.2)
    refine wp_region_inv (Inv := fun listed x' w' => ∃ u, x' = { tmps := #[.string a, .string b, undef, undef, u 4, u 5, .pointer (some ⟨w1.heap.size, 0, none⟩), .pointer (some ⟨w1.heap.size + 1, 0, none⟩), .int .i64 0, .tuple #[.agg #[.bool (decide (x < 0)), .slice a1 n1 c1], .agg #[.bool (decide (y < 0)), .slice a2 n2 c2], .int .i64 0], .string a, .string b, .tuple #[.agg #[.bool (decide (x < 0)), .slice a1 n1 c1], .agg #[.bool (decide (y < 0)), .slice a2 n2 c2], .int .i64 0], .agg #[.bool (decide (x < 0)), .slice a1 n1 c1], .agg #[.bool (decide (y < 0)), .slice a2 n2 c2], .int .i64 0, .int .i64 0, .bool false, undef, u 19, u 20, u 21, u 22, u 23, u 24, u 25, u 26, u 27], defers := [] } ∧ RegRow W0 11 false addS (addPr (.agg #[.bool (decide (x < 0)), .slice a1 n1 c1]) (.agg #[.bool (decide (y < 0)), .slice a2 n2 c2]) (decide (x < 0)) (decide (y < 0)) (.slice a1 n1 c1) (.slice a2 n2 c2) (x + y) (.string ⟨p.1.toArray⟩) (.int .i64 p.2)) (fun _ _ => True) (fun i => listed.getD i false) u w') (by kernel_rfl) (ord_of (by kernel_rfl)) ?h0 ?step ?fin
    case h0 => exact ⟨fun i => if i = 4 then .string ⟨#[]⟩ else if i = 5 then .int .i64 0 else undef, rfl, RegRow.start (none_listed _)⟩
    case fin =>
      rintro listed x' w' ⟨u, rfl, F⟩ hall
      have e4 : u 4 = _ := F.each 9 (by decide) (fun h => by cases h) (hall 9 (by decide))
      have e5 : u 5 = _ := F.each 10 (by decide) (fun h => by cases h) (hall 10 (by decide))
      have hbF := hBB.trans (F.below.mono (show w.heap.size ≤ W0.heap.size by omega))
      rw [e4, e5]
      clear F hall e4 e5 hBB
      go_wp2
      go_ret2
      exact ⟨by rw [HP.out]; rfl, hbF⟩
    case step =>
      rintro listed x' w' i ⟨u, rfl, F⟩ hi hn hd
      have h11 : i = 0 ∨ i = 1 ∨ i = 2 ∨ i = 3 ∨ i = 4 ∨ i = 5 ∨ i = 6 ∨ i = 7 ∨ i = 8 ∨ i = 9 ∨ i = 10 := by
        have : i < 11 := hi
        omega
      obtain ⟨x0, x1, -⟩ := cells_two (hX.below F.below)
      obtain ⟨y0, y1, -⟩ := cells_two (hY.below F.below)
      rcases h11 with rfl | rfl | rfl | rfl | rfl | rfl | rfl | rfl | rfl | rfl | rfl
      · refine wpOp_by rfl rfl (fun K hK => ?_)
        go_simp
        exact hK _ _ ⟨_, rfl, F.put 0 hst (by decide) (by decide) hn (Below.refl _ _) rfl⟩
      · refine wpOp_by rfl rfl (fun K hK => ?_)
        go_simp
        exact hK _ _ ⟨_, rfl, F.put 1 hst (by decide) (by decide) hn (Below.refl _ _) rfl⟩
      · have e1 : u 19 = _ := F.got 0 (by decide) 2 hn (by decide) (hd _ rfl ⟨0, .data⟩ (by simp) rfl)
        have e2 : u 20 = _ := F.got 1 (by decide) 2 hn (by decide) (hd _ rfl ⟨1, .data⟩ (by simp) rfl)
        refine wpOp_by rfl rfl (fun K hK => ?_)
        go_simp
        refine (HPL.out _ F.below).mono ?_
        rintro e w2 ⟨⟨v, rfl, hv⟩, hb2⟩
        rw [sgI_z, sgI_z] at hv ⊢
        obtain ⟨a9, c9, rfl⟩ := hv.slice
        exact hK _ _ ⟨_, by simp [upd, addS, e1, e2], F.put 2 hst (by decide) (by decide) hn hb2 ⟨_, _, _, _, rfl, hv⟩⟩
      · refine wpOp_by rfl rfl (fun K hK => ?_)
        go_simp
        exact hK _ _ ⟨_, rfl, F.put 3 hst (by decide) (by decide) hn (Below.refl _ _) rfl⟩
      · refine wpOp_by rfl rfl (fun K hK => ?_)
        go_simp
        exact hK _ _ ⟨_, rfl, F.put 4 hst (by decide) (by decide) hn (Below.refl _ _) rfl⟩
      · have e1 : u 22 = _ := F.got 3 (by decide) 5 hn (by decide) (hd _ rfl ⟨3, .data⟩ (by simp) rfl)
        have e2 : u 23 = _ := F.got 4 (by decide) 5 hn (by decide) (hd _ rfl ⟨4, .data⟩ (by simp) rfl)
        refine wpOp_by rfl rfl (fun K hK => ?_)
        go_simp
        exact hK _ _ ⟨_, by simp [upd, addS, e1, e2], F.put 5 hst (by decide) (by decide) hn ((Below.refl _ _).alloc (Nat.le_refl _) _) ⟨_, rfl, Has.new _ _ _⟩⟩
      · obtain ⟨B, a9, l9, c9, e1, hv⟩ := F.got 2 (by decide) 6 hn (by decide) (hd _ rfl ⟨2, .data⟩ (by simp) rfl)
        obtain ⟨g, e2, hg⟩ := F.got 5 (by decide) 6 hn (by decide) (hd _ rfl ⟨5, .data⟩ (by simp) rfl)
        have e1 : u 21 = _ := e1
        have e2 : u 24 = _ := e2
        refine wpOp_by rfl rfl (fun K hK => ?_)
        go_simp
        refine (HTL.out _ F.below B g _ _ _ hg hv).mono ?_
        rintro e w2 ⟨rfl, hb2⟩
        rw [HOP.out]
        exact hK _ _ ⟨_, by simp [upd, addS, e1, e2], F.put 6 hst (by decide) (by decide) hn hb2 rfl⟩
      · have e1 : u 25 = _ := F.got 6 (by decide) 7 hn (by decide) (hd _ rfl ⟨6, .data⟩ (by simp) rfl)
        refine wpOp_by rfl rfl (fun K hK => ?_)
        go_simp
        exact hK _ _ ⟨_, by simp [upd, addS, e1], F.put 7 hst (by decide) (by decide) hn (Below.refl _ _) rfl⟩
      · have e1 : u 25 = _ := F.got 6 (by decide) 8 hn (by decide) (hd _ rfl ⟨6, .data⟩ (by simp) rfl)
        refine wpOp_by rfl rfl (fun K hK => ?_)
        go_simp
        exact hK _ _ ⟨_, by simp [upd, addS, e1], F.put 8 hst (by decide) (by decide) hn (Below.refl _ _) rfl⟩
      · have e1 : u 26 = _ := F.got 7 (by decide) 9 hn (by decide) (hd _ rfl ⟨7, .data⟩ (by simp) rfl)
        refine wpOp_by rfl rfl (fun K hK => ?_)
        go_simp
        exact hK _ _ ⟨_, by simp [upd, addS, e1], F.put 9 hst (by decide) (by decide) hn (Below.refl _ _) rfl⟩
      · have e1 : u 27 = _ := F.got 8 (by decide) 10 hn (by decide) (hd _ rfl ⟨8, .data⟩ (by simp) rfl)
        refine wpOp_by rfl rfl (fun K hK => ?_)
        go_simp
        exact hK _ _ ⟨_, by simp [upd, addS, e1], F.put 10 hst (by decide) (by decide) hn (Below.refl _ _) rfl⟩
end Go.Proofs.YtmnibfdenmeepaaDoor
/- Sub of the reference. -/
namespace Go.Proofs.YtmnibfdenmeepaaDoor
open Go.RowKit Go.Shelf Big

theorem opp_of {w : World} {B n l : Nat} {a : Option Addr} (c : Nat) (s : Bool) (h : DecIs w B (.slice a l c) n) (W : World) :
    Calls Tryd.prog 63 #[.agg #[.bool s, .slice a l c]] W fun e w' => e = .returned (.agg #[.bool (!s && decide (0 < n)), .slice a l c]) ∧ Below W.heap.size W w' := by
  obtain ⟨a', c', e⟩ := h.slice
  cases e
  exact rOpp_any n c a s W
def subS : Nat → Nat
  | 0 => 19 | 1 => 20 | 2 => 21 | 3 => 22 | 4 => 23 | 5 => 24 | 6 => 25 | 7 => 26 | 8 => 27 | 9 => 28 | 10 => 4 | _ => 5
def subPr (X Y : Value) (s1 s2 : Bool) (v1 v2 : Value) (z : Int) (O : Value) (rs rc : Value) : Nat → Value → World → Prop
  | 0, v, _ => v = X
  | 1, v, _ => v = Y
  | 2, v, _ => v = O
  | 3, v, w => ∃ B a l c, v = .agg #[.bool (decide (z < 0)), .slice a l c] ∧ DecIs w B (.slice a l c) z.natAbs
  | 4, v, _ => v = X
  | 5, v, _ => v = Y
  | 6, v, w => ∃ g, v = .slice (some ⟨g, 0, none⟩) 2 2 ∧ Has w g 51 #[.bool s1, v1, .bool s2, v2]
  | 7, v, _ => v = .tuple #[rs, rc]
  | 8, v, _ => v = rs
  | 9, v, _ => v = rc
  | 10, v, _ => v = rs
  | _, v, _ => v = rc
theorem subPr_stays (X Y : Value) (s1 s2 : Bool) (v1 v2 : Value) (z : Int) (O : Value) (rs rc : Value) : Stays 12 (subPr X Y s1 s2 v1 v2 z O rs rc) := by
  intro i v w w' hi hb h
  match i, h with
  | 0, h => exact h
  | 1, h => exact h
  | 2, h => exact h
  | 3, h => obtain ⟨B, a, l, c, e, hd⟩ := h; exact ⟨B, a, l, c, e, hd.kept hb⟩
  | 4, h => exact h
  | 5, h => exact h
  | 6, h => obtain ⟨g, e, hx⟩ := h; exact ⟨g, e, hx.below hb⟩
  | 7, h => exact h
  | 8, h => exact h
  | 9, h => exact h
  | 10, h => exact h
  | n + 11, h => exact h

set_option maxRecDepth 100000 in
set_option maxHeartbeats 8000000 in
theorem rSub_any (a b : ByteArray) (w : World) (ha : a.size ≤ k900) (hb : b.size ≤ k900) :
    Calls Tryd.prog 19 #[.string a, .string b] w fun e w' => e = retS (opS (fun x y => x - y) a.data.toList b.data.toList) ∧ Below w.heap.size w w' := by
  have HB2 := Lib.hid (rBoth_any a b w (Nat.le_trans ha (by decide)) (Nat.le_trans hb (by decide)))
  have HNZ1 := Lib.hid (fun B W s v z (h : NP B a.data.toList W s v) (hz : numOf a.data.toList = some z) => h.nz hz (by rw [← Lib.size_eq]; exact ha))
  have HNZ2 := Lib.hid (fun B W s v z (h : NP B b.data.toList W s v) (hz : numOf b.data.toList = some z) => h.nz hz (by rw [← Lib.size_eq]; exact hb))
  clear ha hb
  go_enter Tryd.func19, Tryd.ntmps19
  go_wp2_with fail
  refine HB2.out.mono ?_
  rintro e w1 ⟨⟨s1, a1, n1, c1, s2, a2, n2, c2, rfl, hnp⟩, hb1⟩
  cases hok : (numOf a.data.toList).isSome && (numOf b.data.toList).isSome with
  | false =>
    have HR := Lib.hid (op_none (fun x y => x - y) hok)
    have HB1 := Lib.hid (fun o o' => (hb1.alloc hb1.size o).alloc (by simp; have := hb1.size; omega) o')
    clear hnp hok hb1
    simp only [Bool.false_eq_true, if_false]
    go_wp2
    go_ret2
    exact ⟨by rw [HR.out]; rfl, HB1.out _ _⟩
  | true =>
    obtain ⟨x, y, hx, hy⟩ := op_some hok
    obtain ⟨hp1, hp2⟩ := hnp hok
    obtain ⟨⟨rfl, hd1⟩, hl1⟩ := HNZ1.out _ _ _ _ _ hp1 hx
    obtain ⟨⟨rfl, hd2⟩, hl2⟩ := HNZ2.out _ _ _ _ _ hp2 hy
    have HOP := Lib.hid (tell_two (fun x y => x - y) hx hy)
    clear hnp hok hp1 hp2 hx hy
    simp only [if_true]
    go_wp2_with fail
    obtain ⟨W0, hW0⟩ : ∃ W0, (w1.alloc (.cells #[.bool (decide (x < 0)), .slice a1 n1 c1] 51)).alloc (.cells #[.bool (decide (y < 0)), .slice a2 n2 c2] 51) = W0 := ⟨_, rfl⟩
    rw [hW0]
    have hD1 : DecIs W0 w.heap.size (.slice a1 n1 c1) x.natAbs := by rw [← hW0]; exact (hd1.alloc _).alloc _
    have hD2 : DecIs W0 w.heap.size (.slice a2 n2 c2) y.natAbs := by rw [← hW0]; exact (hd2.alloc _).alloc _
    have hX : Has W0 w1.heap.size 51 #[.bool (decide (x < 0)), .slice a1 n1 c1] := by rw [← hW0]; exact (Has.new w1 _ _).alloc _
    have hY : Has W0 (w1.heap.size + 1) 51 #[.bool (decide (y < 0)), .slice a2 n2 c2] := by rw [← hW0]; exact Has.new' (n := w1.heap.size + 1) (by simp) _ _
    have hz1 := hb1.size
    have hz0 : W0.heap.size = w1.heap.size + 2 := by rw [← hW0]; simp
    have hBB : Below w.heap.size w W0 := by rw [← hW0]; exact (hb1.alloc hz1 _).alloc (by simp; omega) _
    clear hW0 hd1 hd2 hb1
    obtain ⟨p, hp⟩ : ∃ p, opS (fun x y => x - y) a.data.toList b.data.toList = p := ⟨_, rfl⟩
    rw [hp] at HOP
    have HP := Lib.hid hp
    clear hp
    have hopp := fun W => opp_of c2 (decide (y < 0)) hD2 W
    have hoz := opp_z (s := decide (y < 0)) (n := y.natAbs)
    rw [sgI_z] at hoz
    revert hopp hoz
    generalize (!decide (y < 0) && decide (0 < y.natAbs)) = o
    intro hopp hoz
    have HOPP := Lib.hid hopp
    have HOZ := Lib.hid hoz
    clear hopp hoz
    have HPL := Lib.hid (fun W (hW : Below W0.heap.size W0 W) => rPlus_any w.heap.size w.heap.size x.natAbs y.natAbs _ _ (decide (x < 0)) o W (hD1.kept hW) (hD2.kept hW) (by omega) (by omega))
    have HTL := Lib.hid (fun W (hW : Below W0.heap.size W0 W) B g l v c (hh : Has W g 51 #[.bool (decide (x < 0)), .slice a1 n1 c1, .bool (decide (y < 0)), .slice a2 n2 c2]) (hv : DecIs W B v (x - y).natAbs) => rTold_any B (x - y).natAbs g 2 c (tl2 x y) l v W hv (others_two hh (hD1.kept hW) (hD2.kept hW)) (by omega))
    clear hD1 hD2 hl1 hl2
    have hst := subPr_stays (.agg #[.bool (decide (x < 0)), .slice a1 n1 c1]) (.agg #[.bool (decide (y < 0)), .slice a2 n2 c2]) (decide (x < 0)) (decide (y < 0)) (.slice a1 n1 c1) (.slice a2 n2 c2) (x - y) (.agg #[.bool o, .slice a2 n2 c2]) (.string ⟨p.1.toArray⟩) (.int .i64 p.2)
    refine wp_region_inv (Inv := fun listed x' w' => ∃ u, x' = { tmps := #[.string a, .string b, undef, undef, u 4, u 5, .pointer (some ⟨w1.heap.size, 0, none⟩), .pointer (some ⟨w1.heap.size + 1, 0, none⟩), .int .i64 0, .tuple #[.agg #[.bool (decide (x < 0)), .slice a1 n1 c1], .agg #[.bool (decide (y < 0)), .slice a2 n2 c2], .int .i64 0], .string a, .string b, .tuple #[.agg #[.bool (decide (x < 0)), .slice a1 n1 c1], .agg #[.bool (decide (y < 0)), .slice a2 n2 c2], .int .i64 0], .agg #[.bool (decide (x < 0)), .slice a1 n1 c1], .agg #[.bool (decide (y < 0)), .slice a2 n2 c2], .int .i64 0, .int .i64 0, .bool false, undef, u 19, u 20, u 21, u 22, u 23, u 24, u 25, u 26, u 27, u 28], defers := [] } ∧ RegRow W0 12 false subS (subPr (.agg #[.bool (decide (x < 0)), .slice a1 n1 c1]) (.agg #[.bool (decide (y < 0)), .slice a2 n2 c2]) (decide (x < 0)) (decide (y < 0)) (.slice a1 n1 c1) (.slice a2 n2 c2) (x - y) (.agg #[.bool o, .slice a2 n2 c2]) (.string ⟨p.1.toArray⟩) (.int .i64 p.2)) (fun _ _ => True) (fun i => listed.getD i false) u w') (by kernel_rfl) (ord_of (by kernel_rfl)) ?h0 ?step ?fin
    case h0 => exact ⟨fun i => if i = 4 then .string ⟨#[]⟩ else if i = 5 then .int .i64 0 else undef, rfl, RegRow.start (none_listed _)⟩
    case fin =>
      rintro listed x' w' ⟨u, rfl, F⟩ hall
      have e4 : u 4 = _ := F.each 10 (by decide) (fun h => by cases h) (hall 10 (by decide))
      have e5 : u 5 = _ := F.each 11 (by decide) (fun h => by cases h) (hall 11 (by decide))
      have hbF := hBB.trans (F.below.mono (show w.heap.size ≤ W0.heap.size by omega))
      rw [e4, e5]
      clear F hall e4 e5 hBB
      go_wp2
      go_ret2
      exact ⟨by rw [HP.out]; rfl, hbF⟩
    case step =>
      rintro listed x' w' i ⟨u, rfl, F⟩ hi hn hd
      have h11 : i = 0 ∨ i = 1 ∨ i = 2 ∨ i = 3 ∨ i = 4 ∨ i = 5 ∨ i = 6 ∨ i = 7 ∨ i = 8 ∨ i = 9 ∨ i = 10 ∨ i = 11 := by
        have : i < 12 := hi
        omega
      obtain ⟨x0, x1, -⟩ := cells_two (hX.below F.below)
      obtain ⟨y0, y1, -⟩ := cells_two (hY.below F.below)
      rcases h11 with rfl | rfl | rfl | rfl | rfl | rfl | rfl | rfl | rfl | rfl | rfl | rfl
      · refine wpOp_by rfl rfl (fun K hK => ?_)
        go_simp
        exact hK _ _ ⟨_, rfl, F.put 0 hst (by decide) (by decide) hn (Below.refl _ _) rfl⟩
      · refine wpOp_by rfl rfl (fun K hK => ?_)
        go_simp
        exact hK _ _ ⟨_, rfl, F.put 1 hst (by decide) (by decide) hn (Below.refl _ _) rfl⟩
      · have e1 : u 20 = _ := F.got 1 (by decide) 2 hn (by decide) (hd _ rfl ⟨1, .data⟩ (by simp) rfl)
        refine wpOp_by rfl rfl (fun K hK => ?_)
        go_simp
        refine (HOPP.out _).mono ?_
        rintro e w2 ⟨rfl, hb2⟩
        exact hK _ _ ⟨_, by simp [upd, subS, e1], F.put 2 hst (by decide) (by decide) hn hb2 rfl⟩
      · have e1 : u 19 = _ := F.got 0 (by decide) 3 hn (by decide) (hd _ rfl ⟨0, .data⟩ (by simp) rfl)
        have e2 : u 21 = _ := F.got 2 (by decide) 3 hn (by decide) (hd _ rfl ⟨2, .data⟩ (by simp) rfl)
        refine wpOp_by rfl rfl (fun K hK => ?_)
        go_simp
        refine (HPL.out _ F.below).mono ?_
        rintro e w2 ⟨⟨v, rfl, hv⟩, hb2⟩
        rw [HOZ.out, sgI_z, ← Int.sub_eq_add_neg] at hv ⊢
        obtain ⟨a9, c9, rfl⟩ := hv.slice
        exact hK _ _ ⟨_, by simp [upd, subS, e1, e2], F.put 3 hst (by decide) (by decide) hn hb2 ⟨_, _, _, _, rfl, hv⟩⟩
      · refine wpOp_by rfl rfl (fun K hK => ?_)
        go_simp
        exact hK _ _ ⟨_, rfl, F.put 4 hst (by decide) (by decide) hn (Below.refl _ _) rfl⟩
      · refine wpOp_by rfl rfl (fun K hK => ?_)
        go_simp
        exact hK _ _ ⟨_, rfl, F.put 5 hst (by decide) (by decide) hn (Below.refl _ _) rfl⟩
      · have e1 : u 23 = _ := F.got 4 (by decide) 6 hn (by decide) (hd _ rfl ⟨4, .data⟩ (by simp) rfl)
        have e2 : u 24 = _ := F.got 5 (by decide) 6 hn (by decide) (hd _ rfl ⟨5, .data⟩ (by simp) rfl)
        refine wpOp_by rfl rfl (fun K hK => ?_)
        go_simp
        exact hK _ _ ⟨_, by simp [upd, subS, e1, e2], F.put 6 hst (by decide) (by decide) hn ((Below.refl _ _).alloc (Nat.le_refl _) _) ⟨_, rfl, Has.new _ _ _⟩⟩
      · obtain ⟨B, a9, l9, c9, e1, hv⟩ := F.got 3 (by decide) 7 hn (by decide) (hd _ rfl ⟨3, .data⟩ (by simp) rfl)
        obtain ⟨g, e2, hg⟩ := F.got 6 (by decide) 7 hn (by decide) (hd _ rfl ⟨6, .data⟩ (by simp) rfl)
        have e1 : u 22 = _ := e1
        have e2 : u 25 = _ := e2
        refine wpOp_by rfl rfl (fun K hK => ?_)
        go_simp
        refine (HTL.out _ F.below B g _ _ _ hg hv).mono ?_
        rintro e w2 ⟨rfl, hb2⟩
        rw [HOP.out]
        exact hK _ _ ⟨_, by simp [upd, subS, e1, e2], F.put 7 hst (by decide) (by decide) hn hb2 rfl⟩
      · have e1 : u 26 = _ := F.got 7 (by decide) 8 hn (by decide) (hd _ rfl ⟨7, .data⟩ (by simp) rfl)
        refine wpOp_by rfl rfl (fun K hK => ?_)
        go_simp
        exact hK _ _ ⟨_, by simp [upd, subS, e1], F.put 8 hst (by decide) (by decide) hn (Below.refl _ _) rfl⟩
      · have e1 : u 26 = _ := F.got 7 (by decide) 9 hn (by decide) (hd _ rfl ⟨7, .data⟩ (by simp) rfl)
        refine wpOp_by rfl rfl (fun K hK => ?_)
        go_simp
        exact hK _ _ ⟨_, by simp [upd, subS, e1], F.put 9 hst (by decide) (by decide) hn (Below.refl _ _) rfl⟩
      · have e1 : u 27 = _ := F.got 8 (by decide) 10 hn (by decide) (hd _ rfl ⟨8, .data⟩ (by simp) rfl)
        refine wpOp_by rfl rfl (fun K hK => ?_)
        go_simp
        exact hK _ _ ⟨_, by simp [upd, subS, e1], F.put 10 hst (by decide) (by decide) hn (Below.refl _ _) rfl⟩
      · have e1 : u 28 = _ := F.got 9 (by decide) 11 hn (by decide) (hd _ rfl ⟨9, .data⟩ (by simp) rfl)
        refine wpOp_by rfl rfl (fun K hK => ?_)
        go_simp
        exact hK _ _ ⟨_, by simp [upd, subS, e1], F.put 11 hst (by decide) (by decide) hn (Below.refl _ _) rfl⟩
end Go.Proofs.YtmnibfdenmeepaaDoor
/- compare of numbers, Compare, Valid of the program. -/
namespace Go.Proofs.YtmnibfdenmeepaaDoor
open Go.RowKit Go.Shelf Big

theorem cmp_pos {x y : Int} (hx : ¬ x < 0) (hy : ¬ y < 0) : cmp x.natAbs y.natAbs = ordZ x y := by
  unfold cmp ordZ
  split <;> split <;> first | rfl | omega | (split <;> first | rfl | omega)
theorem cmp_neg {x y : Int} (hx : x < 0) (hy : y < 0) : cmp y.natAbs x.natAbs = ordZ x y := by
  unfold cmp ordZ
  split <;> split <;> first | rfl | omega | (split <;> first | rfl | omega)
set_option maxRecDepth 100000 in
set_option maxHeartbeats 2000000 in
theorem numComp_any (B1 B2 : Nat) (x y : Int) (va vb : Value) (l1 o1 l2 o2 : Bool) (w : World) (ha : NatIs w B1 va x.natAbs) (hb : NatIs w B2 vb y.natAbs) (hla : (lims 4294967296 x.natAbs).length ≤ 100000) (hlb : (lims 4294967296 y.natAbs).length ≤ 100000) :
    Calls Tryd.prog 65 #[.agg #[.bool (decide (x < 0)), va, .bool l1, .bool o1], .agg #[.bool (decide (y < 0)), vb, .bool l2, .bool o2]] w fun e w' => e = .returned (.int .i64 (ordZ x y)) ∧ Below w.heap.size w w' := by
  have HAL := Lib.hid (fun o o' => (ha.alloc o).alloc o')
  have HBL := Lib.hid (fun o o' => (hb.alloc o).alloc o')
  have HC1 := Lib.hid (fun W (h1 : NatIs W B1 va x.natAbs) (h2 : NatIs W B2 vb y.natAbs) => compare_any B1 B2 _ _ va vb W h1 h2 hla hlb)
  have HC2 := Lib.hid (fun W (h1 : NatIs W B1 va x.natAbs) (h2 : NatIs W B2 vb y.natAbs) => compare_any B2 B1 _ _ vb va W h2 h1 hlb hla)
  obtain ⟨av, ca, rfl⟩ := ha.slice
  obtain ⟨bv, cb, rfl⟩ := hb.slice
  obtain ⟨lv, hlv⟩ : ∃ lv, (lims 4294967296 x.natAbs).length = lv := ⟨_, rfl⟩
  obtain ⟨lu, hlu⟩ : ∃ lu, (lims 4294967296 y.natAbs).length = lu := ⟨_, rfl⟩
  rw [hlv] at HAL HC1 HC2 ⊢
  rw [hlu] at HBL HC1 HC2 ⊢
  have HBel := Lib.hid (fun o o' => ((Below.refl w.heap.size w).alloc (Nat.le_refl _) o).alloc (by simp) o')
  clear ha hb hlv hlu hla hlb
  by_cases hx : x < 0 <;> by_cases hy : y < 0
  · have HR := Lib.hid (cmp_neg hx hy)
    rw [decide_eq_true hx, decide_eq_true hy]
    clear hx hy
    go_enter Tryd.func65, Tryd.ntmps65
    go_wp2_with fail
    refine (HC2.out _ (HAL.out _ _) (HBL.out _ _)).mono ?_
    rintro e w2 ⟨rfl, hb2⟩
    rw [HR.out]
    have HB2 := Lib.hid (Below.behind (HBel.out _ _) hb2)
    clear hb2
    go_wp2
    go_ret
    exact ⟨rfl, HB2.out⟩
  · have HR := Lib.hid (show ordZ x y = -1 by unfold ordZ; rw [if_pos (by omega)])
    rw [decide_eq_true hx, decide_eq_false hy]
    clear hx hy
    go_enter Tryd.func65, Tryd.ntmps65
    go_wp2
    go_ret
    exact ⟨by rw [HR.out]; rfl, HBel.out _ _⟩
  · have HR := Lib.hid (show ordZ x y = 1 by unfold ordZ; rw [if_neg (by omega), if_pos (by omega)])
    rw [decide_eq_false hx, decide_eq_true hy]
    clear hx hy
    go_enter Tryd.func65, Tryd.ntmps65
    go_wp2
    go_ret
    exact ⟨by rw [HR.out]; rfl, HBel.out _ _⟩
  · have HR := Lib.hid (cmp_pos hx hy)
    rw [decide_eq_false hx, decide_eq_false hy]
    clear hx hy
    go_enter Tryd.func65, Tryd.ntmps65
    go_wp2_with fail
    refine (HC1.out _ (HAL.out _ _) (HBL.out _ _)).mono ?_
    rintro e w2 ⟨rfl, hb2⟩
    rw [HR.out]
    have HB2 := Lib.hid (Below.behind (HBel.out _ _) hb2)
    clear hb2
    go_wp2
    go_ret
    exact ⟨rfl, HB2.out⟩

/-- What Compare tells. -/
def cmpS (a b : List UInt8) : Int × Int :=
  match numOf a, numOf b with
  | some x, some y => if tooL x.natAbs || tooL y.natAbs then (0, 4) else (ordZ x y, 0)
  | _, _ => (0, 2)
def retC (p : Int × Int) : Ending := .returned (.tuple #[.int .i64 p.1, .int .i64 p.2])

set_option maxRecDepth 100000 in
set_option maxHeartbeats 2000000 in
theorem Compare_any (a b : ByteArray) (w : World) (ha : a.size ≤ 1000) (hb : b.size ≤ 1000) :
    Calls Tryd.prog 20 #[.string a, .string b] w fun e w' => e = retC (cmpS a.data.toList b.data.toList) ∧ Below w.heap.size w w' := by
  go_enter Tryd.func20, Tryd.ntmps20
  go_wp2_with fail
  refine (parseTwo_any a b w ha hb).mono ?_
  rintro e w1 ⟨⟨s1, a1, n1, c1, g1, o1, t1, s2, a2, n2, c2, g2, o2, t2, rfl, hf1, hf2⟩, hb1⟩
  have hz1 := hb1.size
  have HF1 := Lib.hid hf1
  have HF2 := Lib.hid hf2
  clear hf1 hf2
  have hno : (t1 && t2) = false → retC (cmpS a.data.toList b.data.toList) = .returned (.tuple #[.int .i64 0, .int .i64 2]) := by
    intro h
    unfold cmpS
    rcases HF1.out with ⟨rfl, z, hz, _⟩ | ⟨rfl, hz⟩
    · rcases HF2.out with ⟨rfl, z2, hz2, _⟩ | ⟨rfl, hz2⟩
      · simp at h
      · rw [hz, hz2]; rfl
    · rw [hz]; rfl
  have HNO := Lib.hid hno
  clear hno
  have hbel : ∀ x y, Below w.heap.size w ((w1.alloc x).alloc y) := fun x y => (hb1.alloc hz1 x).alloc (by simp; omega) y
  have HBE := Lib.hid hbel
  clear hbel
  cases t1 <;> cases t2
  case true.true =>
    obtain ⟨z1, hz1', hs1, hg1, hn1⟩ : ∃ z : Int, numOf a.data.toList = some z ∧ s1 = decide (z < 0) ∧ g1 = tooL z.natAbs ∧ NatIs w1 w.heap.size (.slice a1 n1 c1) z.natAbs := by
      rcases HF1.out with ⟨_, h⟩ | ⟨h, _⟩
      · exact h
      · cases h
    obtain ⟨z2, hz2', hs2, hg2, hn2⟩ : ∃ z : Int, numOf b.data.toList = some z ∧ s2 = decide (z < 0) ∧ g2 = tooL z.natAbs ∧ NatIs w1 w.heap.size (.slice a2 n2 c2) z.natAbs := by
      rcases HF2.out with ⟨_, h⟩ | ⟨h, _⟩
      · exact h
      · cases h
    have HOP := Lib.hid (show cmpS a.data.toList b.data.toList = if tooL z1.natAbs || tooL z2.natAbs then (0, 4) else (ordZ z1 z2, 0) by unfold cmpS; rw [hz1', hz2'])
    have HG := Lib.hid (And.intro hg1 hg2)
    have HN1 := Lib.hid (fun x y => (hn1.alloc x).alloc y)
    have HN2 := Lib.hid (fun x y => (hn2.alloc x).alloc y)
    subst hs1
    subst hs2
    clear hz1' hz2' hg1 hg2 hn1 hn2 HNO HF1 HF2
    cases g1 <;> cases g2
    case false.false =>
      have hl1 := short_of HG.out.1.symm
      have hl2 := short_of HG.out.2.symm
      have HOP2 := Lib.hid (show cmpS a.data.toList b.data.toList = (ordZ z1 z2, 0) by rw [HOP.out, ← HG.out.1, ← HG.out.2]; rfl)
      have HC := Lib.hid (fun W h1 h2 => numComp_any w.heap.size w.heap.size z1 z2 (.slice a1 n1 c1) (.slice a2 n2 c2) false o1 false o2 W h1 h2 hl1 hl2)
      clear hl1 hl2
      go_wp2_with fail
      refine (HC.out _ (HN1.out _ _) (HN2.out _ _)).mono ?_
      rintro e w2 ⟨rfl, hb2⟩
      have HB2 := Lib.hid ((HBE.out (.cells #[.bool (decide (z1 < 0)), .slice a1 n1 c1, .bool false, .bool o1] 46) (.cells #[.bool (decide (z2 < 0)), .slice a2 n2 c2, .bool false, .bool o2] 46)).trans (hb2.mono (by simp; omega)))
      clear hb2
      go_wp2
      go_ret2
      exact ⟨by rw [HOP2.out]; rfl, HB2.out⟩
    all_goals
      have HOP2 := Lib.hid (show cmpS a.data.toList b.data.toList = (0, 4) by rw [HOP.out, ← HG.out.1, ← HG.out.2]; rfl)
      go_wp2
      go_ret2
      exact ⟨by rw [HOP2.out]; rfl, HBE.out _ _⟩
  all_goals
    go_wp2
    go_ret2
    exact ⟨(HNO.out rfl).symm, HBE.out _ _⟩

set_option maxRecDepth 100000 in
set_option maxHeartbeats 2000000 in
theorem Valid_any (a : ByteArray) (w : World) (ha : a.size ≤ 1000) :
    Calls Tryd.prog 14 #[.string a] w fun e w' => e = .returned (.bool (validB a.data.toList)) ∧ Below w.heap.size w w' := by
  go_enter Tryd.func14, Tryd.ntmps14
  go_wp2_with fail
  refine (parse_any a w ha).mono ?_
  rintro e w1 ⟨hp1, hb1⟩
  obtain ⟨s1, a1, n1, c1, g1, o1, t1, rfl, hf1⟩ := hp1.form
  have hz1 := hb1.size
  have HBE := Lib.hid (fun x => hb1.alloc hz1 x)
  clear hp1
  rcases hf1 with ⟨rfl, z1, hz1', hs1, hg1, hn1⟩ | ⟨rfl, hz1'⟩
  · have HV := Lib.hid (show validB a.data.toList = !g1 by unfold validB; rw [hz1', hg1])
    clear hz1' hg1 hn1 hs1 hb1
    cases g1
    all_goals
      go_wp2
      go_ret
      exact ⟨by rw [HV.out]; rfl, HBE.out _⟩
  · have HV := Lib.hid (show validB a.data.toList = false by unfold validB; rw [hz1'])
    clear hz1' hb1
    go_wp2
    go_ret
    exact ⟨by rw [HV.out]; rfl, HBE.out _⟩
end Go.Proofs.YtmnibfdenmeepaaDoor
/- Compare of the reference; long of the laws. -/
namespace Go.Proofs.YtmnibfdenmeepaaDoor
open Go.RowKit Go.Shelf Big

theorem cmp_none {a b : List UInt8} (h : ((numOf a).isSome && (numOf b).isSome) = false) : cmpS a b = (0, 2) := by
  unfold cmpS
  cases ha : numOf a with
  | none => rfl
  | some x =>
    cases hb : numOf b with
    | none => rfl
    | some y => rw [ha, hb] at h; cases h
set_option maxRecDepth 100000 in
set_option maxHeartbeats 2000000 in
theorem rCompare_any (a b : ByteArray) (w : World) (ha : a.size ≤ k900) (hb : b.size ≤ k900) :
    Calls Tryd.prog 21 #[.string a, .string b] w fun e w' => e = retC (cmpS a.data.toList b.data.toList) ∧ Below w.heap.size w w' := by
  have HB2 := Lib.hid (rBoth_any a b w (Nat.le_trans ha (by decide)) (Nat.le_trans hb (by decide)))
  have HNZ1 := Lib.hid (fun B W s v z (h : NP B a.data.toList W s v) (hz : numOf a.data.toList = some z) => h.nz hz (by rw [← Lib.size_eq]; exact ha))
  have HNZ2 := Lib.hid (fun B W s v z (h : NP B b.data.toList W s v) (hz : numOf b.data.toList = some z) => h.nz hz (by rw [← Lib.size_eq]; exact hb))
  clear ha hb
  go_enter Tryd.func21, Tryd.ntmps21
  go_wp2_with fail
  refine HB2.out.mono ?_
  rintro e w1 ⟨⟨s1, a1, n1, c1, s2, a2, n2, c2, rfl, hnp⟩, hb1⟩
  cases hok : (numOf a.data.toList).isSome && (numOf b.data.toList).isSome with
  | false =>
    have HR := Lib.hid (cmp_none hok)
    have HB1 := Lib.hid (fun o o' => (hb1.alloc hb1.size o).alloc (by simp; have := hb1.size; omega) o')
    clear hnp hok hb1
    simp only [Bool.false_eq_true, if_false]
    go_wp2
    go_ret2
    exact ⟨by rw [HR.out]; rfl, HB1.out _ _⟩
  | true =>
    obtain ⟨x, y, hx, hy⟩ := op_some hok
    obtain ⟨hp1, hp2⟩ := hnp hok
    obtain ⟨⟨rfl, hd1⟩, hl1⟩ := HNZ1.out _ _ _ _ _ hp1 hx
    obtain ⟨⟨rfl, hd2⟩, hl2⟩ := HNZ2.out _ _ _ _ _ hp2 hy
    have HOP := Lib.hid (show cmpS a.data.toList b.data.toList = if tooL x.natAbs || tooL y.natAbs then (0, 4) else (ordZ x y, 0) by unfold cmpS; rw [hx, hy])
    clear hnp hok hp1 hp2 hx hy
    simp only [if_true]
    have hz1 := hb1.size
    obtain ⟨W0, hW0⟩ : ∃ W0, (w1.alloc (.cells #[.bool (decide (x < 0)), .slice a1 n1 c1] 51)).alloc (.cells #[.bool (decide (y < 0)), .slice a2 n2 c2] 51) = W0 := ⟨_, rfl⟩
    have hD1 : DecIs W0 w.heap.size (.slice a1 n1 c1) x.natAbs := by rw [← hW0]; exact (hd1.alloc _).alloc _
    have hD2 : DecIs W0 w.heap.size (.slice a2 n2 c2) y.natAbs := by rw [← hW0]; exact (hd2.alloc _).alloc _
    have hX : Has W0 w1.heap.size 51 #[.bool (decide (x < 0)), .slice a1 n1 c1] := by rw [← hW0]; exact (Has.new w1 _ _).alloc _
    have hY : Has W0 (w1.heap.size + 1) 51 #[.bool (decide (y < 0)), .slice a2 n2 c2] := by rw [← hW0]; exact Has.new' (n := w1.heap.size + 1) (by simp) _ _
    have hz0 : W0.heap.size = w1.heap.size + 2 := by rw [← hW0]; simp
    have hBB : Below w.heap.size w W0 := by rw [← hW0]; exact (hb1.alloc hz1 _).alloc (by simp; omega) _
    have HOr := Lib.hid (fun W (hW : Below W0.heap.size W0 W) => rOrder_any w.heap.size w.heap.size x.natAbs y.natAbs _ _ (decide (x < 0)) (decide (y < 0)) W (hD1.kept hW) (hD2.kept hW) (by omega) (by omega))
    have hA0 : Below W0.heap.size W0 (W0.alloc (.cells #[.bool (decide (x < 0)), .slice a1 n1 c1, .bool (decide (y < 0)), .slice a2 n2 c2] 51)) := (Below.refl _ _).alloc (Nat.le_refl _) _
    have HSh := Lib.hid (rShort_any W0.heap.size 2 2 (tl2 x y) _ (others_two (Has.new W0 51 #[.bool (decide (x < 0)), .slice a1 n1 c1, .bool (decide (y < 0)), .slice a2 n2 c2]) (hD1.kept hA0) (hD2.kept hA0)) (by omega))
    rw [sgI_z, sgI_z] at HOr
    rw [tl2_any] at HSh
    have HX := Lib.hid hX
    have HY := Lib.hid hY
    have HA0 := Lib.hid hA0
    have HBB := Lib.hid hBB
    obtain ⟨x0, x1, -⟩ := cells_two hX
    obtain ⟨y0, y1, -⟩ := cells_two hY
    clear hd1 hd2 hb1 hD1 hD2 hl1 hl2 hX hY hA0 hBB
    obtain ⟨t, ht⟩ : ∃ t, (tooL x.natAbs || tooL y.natAbs) = t := ⟨_, rfl⟩
    rw [ht] at HSh HOP
    clear ht
    rw [hz0] at HSh
    go_wp2_with fail
    cases t with
    | true =>
      have HR := Lib.hid (show cmpS a.data.toList b.data.toList = (0, 4) from HOP.out)
      refine HSh.out.mono ?_
      rintro e w3 ⟨rfl, hb3⟩
      have HB3 := Lib.hid (HBB.out.trans ((Below.behind HA0.out hb3).mono (show w.heap.size ≤ W0.heap.size by omega)))
      clear hb3
      go_wp2
      go_ret2
      exact ⟨by rw [HR.out]; rfl, HB3.out⟩
    | false =>
      have HR := Lib.hid (show cmpS a.data.toList b.data.toList = (ordZ x y, 0) from HOP.out)
      refine HSh.out.mono ?_
      rintro e w3 ⟨rfl, hb3⟩
      have hb4 := Below.behind HA0.out hb3
      obtain ⟨p0, p1, -⟩ := cells_two (HX.out.below hb4)
      obtain ⟨r0, r1, -⟩ := cells_two (HY.out.below hb4)
      have HB4 := Lib.hid hb4
      clear hb3 hb4
      go_wp2_with fail
      refine (HOr.out _ HB4.out).mono ?_
      rintro e w5 ⟨rfl, hb5⟩
      have HB5 := Lib.hid (HBB.out.trans ((Below.behind HB4.out hb5).mono (show w.heap.size ≤ W0.heap.size by omega)))
      clear hb5
      go_wp2
      go_ret2
      exact ⟨by rw [HR.out]; rfl, HB5.out⟩

/-- One of some texts is longer than m bytes. -/
def longB (m : Nat) (L : List ByteArray) : Bool := L.any fun s => decide (m < s.size)
set_option maxRecDepth 100000 in
set_option maxHeartbeats 2000000 in
theorem long_any (m g c : Nat) (L : List ByteArray) (w : World) (_hm : m ≤ 1000000) (hL : L.length ≤ 1000) (hcell : ∀ i s, L[i]? = some s → w.cell? ⟨g, i, none⟩ = some (.string s)) :
    Calls Tryd.prog 10 #[.int .i64 (m : Int), .slice (some ⟨g, 0, none⟩) L.length c] w fun e w' => e = .returned (.bool (longB m L)) ∧ w = w' := by
  have HC := Lib.hid hcell
  obtain ⟨K, hK⟩ : ∃ K, L.length = K := ⟨_, rfl⟩
  have HK := Lib.hid hK
  rw [hK] at hL ⊢
  clear hcell hK
  go_enter Tryd.func10, Tryd.ntmps10
  go_wp2_with fail
  go_loopg [9] K (fun gh v wx => ∃ i : Nat, v = .int .i64 (i : Int) ∧ i + gh = K ∧ longB m (L.take i) = false ∧ w = wx)
  case atStart => exact ⟨0, rfl, by omega, rfl, rfl⟩
  case round =>
    obtain ⟨i, rfl, hik, hall, rfl⟩ := hrel
    have HA := Lib.hid hall
    clear hall
    by_cases hi : i < K
    · have hiL : i < L.length := by rw [HK.out]; exact hi
      obtain ⟨s, hs⟩ : ∃ s, L[i] = s := ⟨_, rfl⟩
      have hc := HC.out i s (by rw [List.getElem?_eq_getElem hiL, hs])
      have HSP := Lib.hid (show longB m L = (longB m (L.take (i + 1)) || longB m (L.drop (i + 1))) by unfold longB; rw [← List.any_append, List.take_append_drop])
      have HN := Lib.hid (show longB m (L.take (i + 1)) = decide (m < s.size) by
        have h := HA.out
        unfold longB at h ⊢
        rw [List.take_succ_eq_append_getElem hiL, List.any_append, h, hs]
        simp)
      have hi1 : (i : Int) < (K : Int) := by omega
      have hi0 : (0 : Int) ≤ (i : Int) := by omega
      clear hs hiL
      by_cases hl : m < s.size
      · have hlI : (s.size : Int) > (m : Int) := by omega
        have HR := Lib.hid (show longB m L = true by rw [HSP.out, HN.out, decide_eq_true hl]; rfl)
        go_wp2
        go_ret
        exact ⟨by rw [HR.out]; rfl, rfl⟩
      · have hlI : ¬ (s.size : Int) > (m : Int) := by omega
        have HR := Lib.hid (show longB m (L.take (i + 1)) = false by rw [HN.out, decide_eq_false hl])
        obtain ⟨G, rfl⟩ : ∃ G, gk = G + 1 := ⟨gk - 1, by omega⟩
        go_wp2
        go_roundg G
        case measure => omega
        case rel => exact ⟨i + 1, by go_num, by omega, HR.out, rfl⟩
    · obtain rfl : i = K := by omega
      have hi1 : ¬ (i : Int) < (i : Int) := by omega
      have HT := Lib.hid (show longB m L = false by
        have := HA.out
        rwa [List.take_of_length_le (by rw [HK.out]; exact Nat.le_refl _)] at this)
      go_wp2
      go_ret
      exact ⟨by rw [HT.out]; rfl, rfl⟩
end Go.Proofs.YtmnibfdenmeepaaDoor
