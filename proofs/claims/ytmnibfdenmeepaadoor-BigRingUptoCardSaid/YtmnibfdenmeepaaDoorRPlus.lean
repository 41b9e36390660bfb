/- digit, natOf of the reference. -/
import Derived.Test.YtmnibfdenmeepaaDoorRDec
namespace Go.Proofs.YtmnibfdenmeepaaDoor
open Go.RowKit Go.Shelf Big

theorem rdig_any (B n : Nat) (v : Value) (i : Nat) (w : World) (h : DecIs w B v n) (hi : i ≤ 100000000000000) :
    Calls Tryd.prog 94 #[v, .int .i64 (i : Int)] w fun e w' => e = .returned (.int .i64 ((n / 10 ^ i % 10 : Nat) : Int)) ∧ w = w' := by
  have HG := Lib.hid (lims_getD ten_ge n i)
  by_cases hlt : i < (lims 10 n).length
  · have hrow := h
    unfold DecIs at hrow
    rcases hrow.2 with ⟨rfl, hz⟩ | ⟨g, cap, cur, rfl, hg1, hg2, -⟩
    · omega
    have hcell : w.cell? ⟨g, i, none⟩ = some (.int .i64 ((n / 10 ^ i % 10 : Nat) : Int)) := by
      rw [World.ownsRow.cellAt hrow i (by omega), List.getElem?_map, List.getElem?_eq_getElem hlt, ← HG.out, List.getD_eq_getElem?_getD, List.getElem?_eq_getElem hlt]
      rfl
    obtain ⟨r, hr⟩ : ∃ r, n / 10 ^ i % 10 = r := ⟨_, rfl⟩
    rw [hr] at hcell ⊢
    revert hlt
    generalize (lims 10 n).length = l
    intro hlt
    have h1 : (i : Int) < (l : Int) := by omega
    have h2 : (0 : Int) ≤ (i : Int) := by omega
    clear h hrow hr HG
    go_enter Tryd.func94, Tryd.ntmps94
    go_wp2
    go_ret
    exact ⟨rfl, rfl⟩
  · have hz : n / 10 ^ i % 10 = 0 := by
      rw [← HG.out, List.getD_eq_getElem?_getD, List.getElem?_eq_none (by omega)]; rfl
    rw [hz]
    obtain ⟨av, c, rfl⟩ := h.slice
    revert hlt
    generalize (lims 10 n).length = l
    intro hlt
    have h1 : ¬ (i : Int) < (l : Int) := by omega
    clear h hz HG
    go_enter Tryd.func94, Tryd.ntmps94
    go_wp2
    go_ret
    exact ⟨rfl, rfl⟩

set_option maxRecDepth 100000 in
set_option maxHeartbeats 1000000 in
theorem natOf_any (n : Nat) (w : World) (hn : n < 1000000) :
    Calls Tryd.prog 78 #[.int .i64 (n : Int)] w fun e w' => (∃ v, e = .returned v ∧ DecIs w' w.heap.size v n) ∧ Below w.heap.size w w' := by
  obtain ⟨i0, hi, hz0, hz1, hz2⟩ := info_parts Tryd.info3
  have hlen : (lims 10 n).length ≤ 6 := (lims_len_le ten_ge n 6).2 (by omega)
  have HLE := Lib.hid hlen
  clear hlen
  go_enter Tryd.func78, Tryd.ntmps78
  go_wp2
  go_loopg [0, 3] n (fun g v0 v3 wx => v0 = .int .i64 (g : Int) ∧ g ≤ n ∧ ∃ ds : List Nat, lims 10 n = ds ++ lims 10 g ∧ wx.ownsRow w.heap.size 3 1 v3 ds.length (ds.map i64v) ∧ Below w.heap.size w wx)
  case atStart => exact ⟨rfl, Nat.le_refl _, [], rfl, World.ownsRow_nil _ _ _ _, Below.refl _ _⟩
  case round =>
    obtain ⟨rfl, hg, ds, hds, hrow, hb⟩ := hrel
    obtain ⟨ao, cc, rfl⟩ := slice_of_own hrow
    have hL : ds.length ≤ 6 := by
      have := congrArg List.length hds
      rw [List.length_append] at this
      have := HLE.out
      omega
    obtain ⟨L, hLL⟩ : ∃ L, ds.length = L := ⟨_, rfl⟩
    rw [hLL] at hrow hL ⊢
    have HL := Lib.hid hLL
    have HB := Lib.hid hb
    have hzx := hb.size
    clear hLL hb
    rcases Nat.eq_zero_or_pos gk with rfl | hp
    · have HD := Lib.hid (show lims 10 n = ds by rw [hds, lims_zero, List.append_nil])
      have HR := Lib.hid hrow
      clear hds hrow
      go_wp2
      go_ret
      refine ⟨⟨_, rfl, ?_⟩, HB.out⟩
      unfold DecIs
      rw [HD.out, HL.out]
      exact HR.out
    · have HD := Lib.hid (show lims 10 n = (ds ++ [gk % 10]) ++ lims 10 (gk / 10) by rw [hds, lims_pos ten_ge hp, List.append_assoc]; rfl)
      have h1 : (gk : Int) > 0 := by omega
      have h2 : (gk : Int) % 10 = ((gk % 10 : Nat) : Int) := by omega
      have h3 : (gk : Int) / 10 = ((gk / 10 : Nat) : Int) := by omega
      have H2 := Lib.hid h2
      have H3 := Lib.hid h3
      have hlt : gk / 10 < gk := by omega
      have hle : gk / 10 ≤ n := by omega
      have HLT := Lib.hid (fun g hg => (World.ownsRow.lt hrow g hg).1)
      clear hds h2 h3
      go_wp2_with (at_builtin; refine wpList_append_own _ rfl _ _ 49 rfl w.heap.size 3 i0 (.int .i64 0) 1 8 Tryd.underlying49 hi hz0 hz1 hz2 rfl (by decide) (.slice ao L cc) L _ rfl (hrow.alloc _) ⟨wr.heap.size, 0, none⟩ 1 1 [.int .i64 ((gk : Int) % 10)] rfl rfl (cell_one_new _ _ _) (by intro u hu; simp at hu; subst hu; rfl) (by unfold maxLen; omega) (by omega) (by simp; omega) ?_; intro v' w2 hown2 hgrow _)
      go_roundg (gk / 10)
      case measure => omega
      case rel =>
        refine ⟨by rw [H3.out], hle, ds ++ [gk % 10], HD.out, ?_, (HB.out.alloc (by omega) _).grown hgrow (by simp; omega) (fun q hq => HLT.out q hq)⟩
        rw [List.length_append, List.length_singleton, List.map_append, HL.out]
        rw [H2.out] at hown2
        exact hown2

/-- What plus has built after j digits. -/
def PlusTo (m k j : Nat) (ds : List Nat) (c : Nat) : Prop :=
  ds.length = j ∧ Ten ds ∧ c ≤ 1 ∧ ev 10 ds + 10 ^ j * c = m % 10 ^ j + k % 10 ^ j ∧ (∀ h : ds ≠ [], ds.getLast h ≠ 0 ∨ 0 < c ∨ j < (lims 10 m).length ∨ j < (lims 10 k).length)
theorem mod_step (m j : Nat) : m % 10 ^ (j + 1) = m % 10 ^ j + 10 ^ j * (m / 10 ^ j % 10) := by
  rw [Nat.pow_succ, Nat.mod_mul]
theorem top_ne {m j : Nat} (h : (lims 10 m).length = j + 1) : m / 10 ^ j % 10 ≠ 0 := by
  have h1 := lims_last ten_ge m (by intro e; rw [e] at h; cases h)
  rw [List.getLast_eq_getElem] at h1
  rw [← lims_getD ten_ge m j, List.getD_eq_getElem?_getD, List.getElem?_eq_getElem (by omega)]
  simpa [h] using h1
theorem PlusTo.step {m k j : Nat} {ds : List Nat} {c : Nat} (h : PlusTo m k j ds c) (hgo : j < (lims 10 m).length ∨ j < (lims 10 k).length ∨ 0 < c) :
    PlusTo m k (j + 1) (ds ++ [(m / 10 ^ j % 10 + k / 10 ^ j % 10 + c) % 10]) ((m / 10 ^ j % 10 + k / 10 ^ j % 10 + c) / 10) := by
  obtain ⟨h1, h2, h3, h4, h5⟩ := h
  have hx : m / 10 ^ j % 10 < 10 := Nat.mod_lt _ (by decide)
  have hy : k / 10 ^ j % 10 < 10 := Nat.mod_lt _ (by decide)
  have tm : (lims 10 m).length = j + 1 → m / 10 ^ j % 10 ≠ 0 := top_ne
  have tk : (lims 10 k).length = j + 1 → k / 10 ^ j % 10 ≠ 0 := top_ne
  have em := mod_step m j
  have ek := mod_step k j
  refine ⟨by rw [List.length_append, h1]; rfl, ?_, by omega, ?_, ?_⟩
  · intro d hd
    rcases List.mem_append.1 hd with h | h
    · exact h2 d h
    · rw [List.mem_singleton] at h; omega
  · rw [ev_snoc, h1, em, ek, Nat.pow_succ]
    generalize m / 10 ^ j % 10 = x at *
    generalize k / 10 ^ j % 10 = y at *
    have e1 : 10 ^ j * 10 * ((x + y + c) / 10) + 10 ^ j * ((x + y + c) % 10) = 10 ^ j * (x + y + c) := by
      rw [Nat.mul_assoc, ← Nat.mul_add, Nat.div_add_mod]
    have e2 : 10 ^ j * (x + y + c) = 10 ^ j * x + 10 ^ j * y + 10 ^ j * c := by rw [Nat.mul_add, Nat.mul_add]
    omega
  · intro h
    rw [List.getLast_append_of_ne_nil, List.getLast_singleton]
    · omega
    · simp
theorem PlusTo.done {m k j : Nat} {ds : List Nat} (h : PlusTo m k j ds 0) (hm : (lims 10 m).length ≤ j) (hk : (lims 10 k).length ≤ j) : lims 10 (m + k) = ds := by
  obtain ⟨h1, h2, h3, h4, h5⟩ := h
  rw [Nat.mul_zero, Nat.add_zero, Nat.mod_eq_of_lt ((lims_len_le ten_ge m j).1 hm), Nat.mod_eq_of_lt ((lims_len_le ten_ge k j).1 hk)] at h4
  rw [← h4]
  refine lims_ev ten_ge h2 (fun h => ?_)
  have := h5 h
  omega
theorem PlusTo.carry {m k j : Nat} {ds : List Nat} {c : Nat} (h : PlusTo m k j ds c) (hc : 0 < c) : j ≤ (lims 10 m).length + (lims 10 k).length := by
  obtain ⟨h1, h2, h3, h4, h5⟩ := h
  rcases Nat.lt_or_ge ((lims 10 m).length + (lims 10 k).length) j with hj | hj
  · obtain ⟨i, rfl⟩ : ∃ i, j = i + 1 := ⟨j - 1, by omega⟩
    have hm := (lims_len_le ten_ge m i).1 (by omega)
    have hk := (lims_len_le ten_ge k i).1 (by omega)
    have h6 := Nat.mod_le m (10 ^ (i + 1))
    have h7 := Nat.mod_le k (10 ^ (i + 1))
    have h8 : 10 ^ (i + 1) * 1 ≤ 10 ^ (i + 1) * c := Nat.mul_le_mul_left _ hc
    rw [Nat.pow_succ] at h4 h6 h7 h8
    omega
  · exact hj
theorem PlusTo.start (m k : Nat) : PlusTo m k 0 [] 0 := ⟨rfl, (fun _ h => nomatch h), Nat.zero_le _, by simp [ev, Nat.mod_one], fun h => absurd rfl h⟩

set_option maxRecDepth 100000 in
set_option maxHeartbeats 4000000 in
theorem rplus_any (B1 B2 m k : Nat) (va vb : Value) (w : World) (ha : DecIs w B1 va m) (hb : DecIs w B2 vb k) (hla : (lims 10 m).length ≤ 100000000) (hlb : (lims 10 k).length ≤ 100000000) :
    Calls Tryd.prog 109 #[va, vb] w fun e w' => (∃ v, e = .returned v ∧ DecIs w' w.heap.size v (m + k)) ∧ Below w.heap.size w w' := by
  obtain ⟨i0, hi, hz0, hz1, hz2⟩ := info_parts Tryd.info3
  obtain ⟨av, ca, rfl⟩ := ha.slice
  obtain ⟨bv, cb, rfl⟩ := hb.slice
  have HDA := Lib.hid (fun W (h : Below w.heap.size w W) i (hi : i ≤ 100000000000000) => rdig_any B1 m _ i W (ha.kept h) hi)
  have HDB := Lib.hid (fun W (h : Below w.heap.size w W) i (hi : i ≤ 100000000000000) => rdig_any B2 k _ i W (hb.kept h) hi)
  have HDone := Lib.hid (fun j ds (h : PlusTo m k j ds 0) => h.done)
  have HStep := Lib.hid (fun j ds c (h : PlusTo m k j ds c) => h.step)
  have HCar := Lib.hid (fun j ds c (h : PlusTo m k j ds c) => h.carry)
  revert hla hlb HDA HDB HDone HStep HCar
  generalize (lims 10 m).length = la
  generalize (lims 10 k).length = lb
  intro hla hlb HDA HDB HDone HStep HCar
  clear ha hb
  go_enter Tryd.func109, Tryd.ntmps109
  go_wp2_with fail
  go_loopg [5, 6, 7] (la + lb + 1) (fun g v5 v6 v7 wx => ∃ (i c : Nat) (ds : List Nat), v7 = .int .i64 (i : Int) ∧ v6 = .int .i64 (c : Int) ∧ i + g = la + lb + 1 ∧ PlusTo m k i ds c ∧ wx.ownsRow w.heap.size 3 1 v5 i (ds.map i64v) ∧ Below w.heap.size w wx)
  case atStart => exact ⟨0, 0, [], rfl, rfl, by omega, PlusTo.start m k, World.ownsRow_nil _ _ _ _, Below.refl _ _⟩
  case round =>
    obtain ⟨i, c, ds, rfl, rfl, hig, hpt, hrow, hbx⟩ := hrel
    obtain ⟨ao, cc, rfl⟩ := slice_of_own hrow
    have HB := Lib.hid hbx
    have hzx := hbx.size
    have HP := Lib.hid hpt
    have HLT := Lib.hid (fun g hg => (World.ownsRow.lt hrow g hg).1)
    have hc1 := hpt.2.2.1
    have hcar := HCar.out _ _ _ hpt
    clear hbx hpt
    by_cases hgo : i < la ∨ i < lb ∨ 0 < c
    · have HPN := Lib.hid (HStep.out _ _ _ HP.out hgo)
      have hx : m / 10 ^ i % 10 < 10 := Nat.mod_lt _ (by decide)
      have hy : k / 10 ^ i % 10 < 10 := Nat.mod_lt _ (by decide)
      have hdA := fun W h => HDA.out W h i (by omega)
      have hdB := fun W h => HDB.out W h i (by omega)
      revert hx hy hdA hdB HPN
      generalize m / 10 ^ i % 10 = x
      generalize k / 10 ^ i % 10 = y
      intro HPN hx hy hdA hdB
      have HdA := Lib.hid hdA
      have HdB := Lib.hid hdB
      have hil : i ≤ la + lb := by omega
      obtain ⟨g, rfl⟩ : ∃ g, gk = g + 1 := ⟨gk - 1, by omega⟩
      have e1 : ((x : Int) + y + c) % 10 = (((x + y + c) % 10 : Nat) : Int) := by omega
      have e2 : ((x : Int) + y + c) / 10 = (((x + y + c) / 10 : Nat) : Int) := by omega
      have E1 := Lib.hid e1
      have E2 := Lib.hid e2
      have hsum : 0 ≤ ((x : Int) + y + c) := by omega
      have hi9 : (i : Int) < 1000000000 := by omega
      clear e1 e2 hdA hdB
      rcases (show i < la ∨ (¬ i < la ∧ i < lb) ∨ (¬ i < la ∧ ¬ i < lb ∧ 0 < c) by omega) with h1 | ⟨h1, h2⟩ | ⟨h1, h2, h3⟩
      · have k1 : (i : Int) < (la : Int) := by omega
        clear hgo hcar
        go_wp2_with fail
        refine (HdA.out wr HB.out).mono ?_
        rintro e w' ⟨rfl, rfl⟩
        go_wp2_with fail
        refine (HdB.out _ HB.out).mono ?_
        rintro e w' ⟨rfl, rfl⟩
        go_wp2_with (at_builtin; refine wpList_append_own _ rfl _ _ 49 rfl w.heap.size 3 i0 (.int .i64 0) 1 8 Tryd.underlying49 hi hz0 hz1 hz2 rfl (by decide) (.slice ao i cc) i _ rfl (hrow.alloc _) ⟨wr.heap.size, 0, none⟩ 1 1 [.int .i64 (((x : Int) + y + c) % 10)] rfl rfl (cell_one_new _ _ _) (by intro u hu; simp at hu; subst hu; rfl) (by unfold maxLen; omega) (by omega) (by simp; omega) ?_; intro v' w2 hown2 hgrow _)
        go_roundg g
        case measure => omega
        case rel =>
          refine ⟨i + 1, (x + y + c) / 10, ds ++ [(x + y + c) % 10], by rfl, by rw [← E2.out], by omega, HPN.out, ?_, (HB.out.alloc (by omega) _).grown hgrow (by simp; omega) (fun q hq => HLT.out q hq)⟩
          rw [List.map_append]
          rw [E1.out] at hown2
          exact hown2
      · have k1 : ¬ (i : Int) < (la : Int) := by omega
        have k2 : (i : Int) < (lb : Int) := by omega
        clear hgo hcar
        go_wp2_with fail
        refine (HdA.out wr HB.out).mono ?_
        rintro e w' ⟨rfl, rfl⟩
        go_wp2_with fail
        refine (HdB.out _ HB.out).mono ?_
        rintro e w' ⟨rfl, rfl⟩
        go_wp2_with (at_builtin; refine wpList_append_own _ rfl _ _ 49 rfl w.heap.size 3 i0 (.int .i64 0) 1 8 Tryd.underlying49 hi hz0 hz1 hz2 rfl (by decide) (.slice ao i cc) i _ rfl (hrow.alloc _) ⟨wr.heap.size, 0, none⟩ 1 1 [.int .i64 (((x : Int) + y + c) % 10)] rfl rfl (cell_one_new _ _ _) (by intro u hu; simp at hu; subst hu; rfl) (by unfold maxLen; omega) (by omega) (by simp; omega) ?_; intro v' w2 hown2 hgrow _)
        go_roundg g
        case measure => omega
        case rel =>
          refine ⟨i + 1, (x + y + c) / 10, ds ++ [(x + y + c) % 10], by rfl, by rw [← E2.out], by omega, HPN.out, ?_, (HB.out.alloc (by omega) _).grown hgrow (by simp; omega) (fun q hq => HLT.out q hq)⟩
          rw [List.map_append]
          rw [E1.out] at hown2
          exact hown2
      · have k1 : ¬ (i : Int) < (la : Int) := by omega
        have k2 : ¬ (i : Int) < (lb : Int) := by omega
        have k3 : (c : Int) > 0 := by omega
        clear hgo hcar
        go_wp2_with fail
        refine (HdA.out wr HB.out).mono ?_
        rintro e w' ⟨rfl, rfl⟩
        go_wp2_with fail
        refine (HdB.out _ HB.out).mono ?_
        rintro e w' ⟨rfl, rfl⟩
        go_wp2_with (at_builtin; refine wpList_append_own _ rfl _ _ 49 rfl w.heap.size 3 i0 (.int .i64 0) 1 8 Tryd.underlying49 hi hz0 hz1 hz2 rfl (by decide) (.slice ao i cc) i _ rfl (hrow.alloc _) ⟨wr.heap.size, 0, none⟩ 1 1 [.int .i64 (((x : Int) + y + c) % 10)] rfl rfl (cell_one_new _ _ _) (by intro u hu; simp at hu; subst hu; rfl) (by unfold maxLen; omega) (by omega) (by simp; omega) ?_; intro v' w2 hown2 hgrow _)
        go_roundg g
        case measure => omega
        case rel =>
          refine ⟨i + 1, (x + y + c) / 10, ds ++ [(x + y + c) % 10], by rfl, by rw [← E2.out], by omega, HPN.out, ?_, (HB.out.alloc (by omega) _).grown hgrow (by simp; omega) (fun q hq => HLT.out q hq)⟩
          rw [List.map_append]
          rw [E1.out] at hown2
          exact hown2
    · have hc0 : c = 0 := by omega
      subst hc0
      have k1 : ¬ (i : Int) < (la : Int) := by omega
      have k2 : ¬ (i : Int) < (lb : Int) := by omega
      have HD := Lib.hid (HDone.out _ _ HP.out (by omega) (by omega))
      have HR := Lib.hid hrow
      have HLN := Lib.hid HP.out.1
      clear hgo hcar hrow
      go_wp2
      go_ret
      refine ⟨⟨_, rfl, ?_⟩, HB.out⟩
      unfold DecIs
      rw [HD.out, HLN.out]
      exact HR.out
end Go.Proofs.YtmnibfdenmeepaaDoor
