/- a * m + n in place. -/
import Derived.Test.YtmnibfdenmeepaaDoorSmall
namespace Go.Proofs.YtmnibfdenmeepaaDoor
open Go.RowKit Go.Shelf Big

/-- Words from the lowest on, times m, and what is carried. -/
theorem tp_step (ds od : List Nat) (j m n c d : Nat) (hj : j < ds.length) (hl : od.length = ds.length) (hd : ds[j] = d)
    (he : ev 4294967296 (od.take j) + 4294967296 ^ j * c = m * ev 4294967296 (ds.take j) + n) :
    ev 4294967296 ((od.set j ((d * m + c) % 4294967296)).take (j + 1)) + 4294967296 ^ (j + 1) * ((d * m + c) / 4294967296) = m * ev 4294967296 (ds.take (j + 1)) + n := by
  rw [ev_take_succ, ev_take_succ, List.take_set_of_le (Nat.le_refl _)]
  have h1 : (od.set j ((d * m + c) % 4294967296)).getD j 0 = (d * m + c) % 4294967296 := by
    rw [List.getD_eq_getElem?_getD, List.getElem?_set_self (by omega)]; rfl
  have h2 : ds.getD j 0 = d := by rw [List.getD_eq_getElem?_getD, List.getElem?_eq_getElem hj, hd]; rfl
  rw [h1, h2, Nat.mul_add, Nat.pow_succ, Nat.mul_assoc]
  have h3 := Nat.mod_add_div (d * m + c) 4294967296
  have h4 : 4294967296 ^ j * ((d * m + c) % 4294967296) + 4294967296 ^ j * (4294967296 * ((d * m + c) / 4294967296)) = 4294967296 ^ j * (d * m) + 4294967296 ^ j * c := by
    rw [← Nat.mul_add, h3, Nat.mul_add]
  have h5 : m * (4294967296 ^ j * d) = 4294967296 ^ j * (d * m) := by rw [Nat.mul_left_comm, Nat.mul_comm m d]
  rw [h5]
  omega

/-- What timesPlus may touch: its own slice's block. -/
def TpEnd (B m n k : Nat) (va : Value) (w : World) (e : Ending) (w' : World) : Prop :=
  ∃ v, e = .returned v ∧ NatIs w' B v (k * m + n) ∧ w.grownBy w' va.ownBlock

theorem word_mul (d m c : Nat) (hd : d < 4294967296) (hm : m < 4294967296) (hc : c < 4294967296) : d * m + c < 18446744073709551616 ∧ (d * m + c) / 4294967296 < 4294967296 := by
  have h1 : d * m ≤ 4294967295 * 4294967295 := Nat.mul_le_mul (by omega) (by omega)
  omega

theorem grown_put {w w1 : World} {g : Nat} (h : w.grownBy w1 (some g)) (j : Nat) (u : Value) : w.grownBy (w1.setCell ⟨g, j, none⟩ u) (some g) :=
  ⟨h.os, h.tape, h.output, by simpa using h.size, fun k hk hne => (heap_setCell_other w1 ⟨g, j, none⟩ k u (fun e => hne (by simp [e]))).trans (h.block k hk hne)⟩

theorem lims_keep {ds od : List Nat} {k m n : Nat} (hk : lims 4294967296 k = ds) (hm : 0 < m) (hl : od.length = ds.length) (hs : Small od)
    (he : ev 4294967296 od = m * k + n) : lims 4294967296 (k * m + n) = od := by
  by_cases h0 : k = 0
  · subst h0
    rw [lims_zero] at hk
    subst hk
    have := List.eq_nil_of_length_eq_zero hl
    subst this
    have hn : n = 0 := by simp [ev] at he; omega
    rw [hn, Nat.zero_mul, Nat.zero_add, lims_zero]
  · have e : k * m + n = ev 4294967296 od := by rw [he, Nat.mul_comm]
    rw [e]
    have hlen : od.length ≤ (lims 4294967296 (ev 4294967296 od)).length := by
      rw [hl, ← hk]
      apply lims_len_mono
      rw [he]
      have : k * 1 ≤ k * m := Nat.mul_le_mul_left _ hm
      rw [Nat.mul_comm m k]
      omega
    refine lims_ev w32_ge hs ?_
    intro hne hz
    have hpos : 0 < od.length := List.length_pos_iff.2 hne
    have h1 : ev 4294967296 (od.take (od.length - 1)) = ev 4294967296 od := by
      have := ev_take_pred 4294967296 od od.length hpos (by
        rw [List.getD_eq_getElem?_getD, List.getElem?_eq_getElem (by omega)]
        rw [List.getLast_eq_getElem] at hz
        exact hz)
      rw [this, List.take_length]
    have h2 : ev 4294967296 (od.take (od.length - 1)) < 4294967296 ^ (od.length - 1) := ev_take_lt (by decide) hs _
    rw [h1] at h2
    have := (lims_len_le w32_ge (ev 4294967296 od) (od.length - 1)).2 h2
    omega

theorem lims_carry {od : List Nat} {k m n c : Nat} (hs : Small od) (hc0 : 0 < c) (hc : c < 4294967296) (he : ev 4294967296 od + 4294967296 ^ od.length * c = m * k + n) : lims 4294967296 (k * m + n) = od ++ [c] := by
  have e : k * m + n = ev 4294967296 (od ++ [c]) := by rw [ev_snoc, he, Nat.mul_comm]
  rw [e]
  refine lims_ev w32_ge ?_ ?_
  · intro d hd
    rcases List.mem_append.1 hd with hd | hd
    · exact hs d hd
    · simp at hd; omega
  · intro h
    rw [List.getLast_append_of_ne_nil _ (by simp)]
    simp
    omega

theorem NatIs.of_row {w : World} {B n : Nat} {v : Value} {ds : List Nat} (h : w.ownsRow B 75 1 v ds.length (ds.map u32v)) (e : lims 4294967296 n = ds) : NatIs w B v n := by
  unfold NatIs
  rw [e]
  exact h

set_option maxRecDepth 100000 in
set_option maxHeartbeats 4000000 in
theorem timesPlus_any (B k m n : Nat) (va : Value) (w : World) (ha : NatIs w B va k) (hla : (lims 4294967296 k).length ≤ 100000) (hm0 : 0 < m) (hm : m < 4294967296) (hn : n < 4294967296) (hB : B ≤ w.heap.size) :
    Calls Tryd.prog 135 #[va, .int .u32 (m : Int), .int .u32 (n : Int)] w fun e w' => (∃ v, e = .returned v ∧ NatIs w' B v (k * m + n)) ∧ Below B w w' := by
  obtain ⟨i0, hi, hz0, hz1, hz2⟩ := info_parts Tryd.info75
  have HE := Lib.hid (ev_lims w32_ge k)
  have HS := Lib.hid (lims_lt w32_ge k)
  have HK := Lib.hid (rfl : lims 4294967296 k = lims 4294967296 k)
  rcases ha.2 with ⟨rfl, h0⟩ | ⟨g, cap, cur, rfl, hbg, hgc, -⟩
  · have hk0 : k = 0 := (lims_nil w32_ge).1 (List.eq_nil_of_length_eq_zero h0)
    subst hk0
    rw [Nat.zero_mul, Nat.zero_add]
    clear ha h0 hla HE HS HK
    by_cases hc : n = 0
    · subst hc
      go_enter Tryd.func135, Tryd.ntmps135
      go_wp2
      go_loop [8, 9, 10, 7, 15] (fun a b c d i => d = .int .u64 0 ∧ i = .int .i64 0) (fun _ _ _ _ _ => 0)
      case atStart => exact ⟨rfl, rfl⟩
      case round =>
        obtain ⟨rfl, rfl⟩ := hrel
        go_wp2
        go_ret
        exact ⟨⟨_, rfl, NatIs.of_row (ds := []) (World.ownsRow_nil _ _ _ _) (lims_zero _)⟩, Below.refl _ _⟩
    · have hci : (n : Int) > 0 := by omega
      have hcE : ((n : Int) == 0) = false := by simpa using hc
      have hln : lims 4294967296 n = [n] := by
        have := lims_carry (od := []) (k := 0) (m := 0) (n := n) (c := n) small_nil (by omega) hn (by simp [ev])
        simpa using this
      have HL := Lib.hid hln
      clear hln
      go_enter Tryd.func135, Tryd.ntmps135
      go_wp2
      go_loop [8, 9, 10, 7, 15] (fun a b c d i => d = .int .u64 (n : Int) ∧ i = .int .i64 0) (fun _ _ _ _ _ => 0)
      case atStart => exact ⟨rfl, rfl⟩
      case round =>
        obtain ⟨rfl, rfl⟩ := hrel
        go_wp2_with (at_builtin; refine wpList_append_own _ rfl _ _ 44 rfl B 75 i0 (.int .u32 0) 1 4 Tryd.underlying44 hi hz0 hz1 hz2 rfl (by decide) (.slice none 0 0) 0 [] rfl (World.ownsRow_nil _ _ _ _) ⟨w.heap.size, 0, none⟩ 1 1 [.int .u32 (n : Int)] rfl rfl (cell_one_new _ _ _) (by intro u hu; simp at hu; subst hu; rfl) (by unfold maxLen; omega) (by omega) (by simp; omega) ?_; intro v' w2 hown2 hgrow _; obtain ⟨ao', c', rfl⟩ := slice_of_own hown2)
        go_ret
        exact ⟨⟨_, rfl, NatIs.of_row (ds := [n]) hown2 HL.out⟩, ((Below.refl B w).alloc hB _).grown hgrow (by simp; omega) (fun q hq => by simp [Value.ownBlock] at hq)⟩
  · have hR : RowIs w B g cap (lims 4294967296 k) := ha
    clear ha
    revert HE HS HK hR hla
    generalize hds : lims 4294967296 k = ds
    intro hla HE HS HK hR
    have HDS := Lib.hid hds
    clear hds HK
    obtain ⟨la, hl⟩ : ∃ la, ds.length = la := ⟨_, rfl⟩
    rw [hl] at hla ⊢
    have Hl := Lib.hid hl
    clear hl
    go_enter Tryd.func135, Tryd.ntmps135
    go_wp2
    go_loopg [7, 15] la (fun gh v7 v15 wx => ∃ (j c : Nat) (od : List Nat), v7 = .int .u64 (c : Int) ∧ v15 = .int .i64 (j : Int) ∧ j + gh = la ∧ c < 4294967296 ∧ od.length = la ∧ Small od ∧ RowIs wx B g cap od ∧ od.drop j = ds.drop j ∧ ev 4294967296 (od.take j) + 4294967296 ^ j * c = m * ev 4294967296 (ds.take j) + n ∧ w.grownBy wx (some g))
    case atStart => exact ⟨0, n, ds, rfl, rfl, by omega, hn, Hl.out, HS.out, hR, rfl, by simp [ev], ⟨rfl, rfl, rfl, Nat.le_refl _, fun _ _ _ => rfl⟩⟩
    case round =>
      obtain ⟨j, c, od, rfl, rfl, hjg, hc, hod, hsm, hRx, hdr, he, hgr⟩ := hrel
      have Hod := Lib.hid hod
      have HSm := Lib.hid hsm
      have Hdr := Lib.hid hdr
      have He := Lib.hid he
      clear hod hsm hdr he
      by_cases hj : j < la
      · have hji : (j : Int) < (la : Int) := by omega
        have hjd : j < ds.length := by rw [Hl.out]; exact hj
        have hjo : j < od.length := by rw [Hod.out]; exact hj
        have hget : od[j] = ds[j] := by
          have h1 := congrArg (fun l => l[0]?) Hdr.out
          simp only [List.getElem?_drop, Nat.add_zero] at h1
          rw [List.getElem?_eq_getElem hjo, List.getElem?_eq_getElem hjd] at h1
          exact Option.some.inj h1
        obtain ⟨d, hd⟩ : ∃ d, ds[j] = d := ⟨_, rfl⟩
        have hcell := hRx.cell j hjo
        rw [hget, hd] at hcell
        have hfree := hRx.free j
        have hd2 : d < 4294967296 := by rw [← hd]; exact HS.out _ (List.getElem_mem _)
        have hstep := tp_step ds od j m n c d hjd (by rw [Hod.out, Hl.out]) hd He.out
        obtain ⟨hT, hq⟩ := word_mul d m c hd2 hm hc
        have hle : d * m ≤ d * m + c := Nat.le_add_right _ _
        have hmul : (d : Int) * (m : Int) = ((d * m : Nat) : Int) := (Int.natCast_mul _ _).symm
        obtain ⟨P, hP⟩ : ∃ P, d * m = P := ⟨_, rfl⟩
        rw [hP] at hT hq hle hmul hstep
        have hPadd : (P : Int) + (c : Int) = ((P + c : Nat) : Int) := (Int.natCast_add _ _).symm
        obtain ⟨T, hTe⟩ : ∃ T, P + c = T := ⟨_, rfl⟩
        rw [hTe] at hT hq hle hPadd hstep
        have hdi : (T : Int) / 4294967296 = ((T / 4294967296 : Nat) : Int) := by omega
        have hmi : (T : Int) % 4294967296 = ((T % 4294967296 : Nat) : Int) := by omega
        have hr := Nat.mod_lt T (show 0 < 4294967296 by decide)
        obtain ⟨q, hqe⟩ : ∃ q, T / 4294967296 = q := ⟨_, rfl⟩
        obtain ⟨r, hre⟩ : ∃ r, T % 4294967296 = r := ⟨_, rfl⟩
        rw [hqe] at hdi hq hstep
        rw [hre] at hmi hr hstep
        have HT := Lib.hid hstep
        have HP := Lib.hid (hRx.put j r)
        have HG := Lib.hid (grown_put hgr j (.int .u32 (r : Int)))
        have HD := Lib.hid (show (od.set j r).drop (j + 1) = ds.drop (j + 1) by
          rw [List.drop_set_of_lt (by omega), ← List.drop_drop, Hdr.out, List.drop_drop])
        clear hget hd hP hTe hqe hre hstep hRx hgr
        obtain ⟨gh, rfl⟩ : ∃ gh, gk = gh + 1 := ⟨gk - 1, by omega⟩
        go_wp2
        go_roundg gh
        case measure => omega
        case rel => exact ⟨j + 1, q, od.set j r, rfl, by go_num, by omega, hq, by rw [List.length_set]; exact Hod.out, small_set HSm.out j r hr, HP.out, HD.out, HT.out, HG.out⟩
      · obtain rfl : j = la := by omega
        have he := He.out
        have h1 : od.take j = od := List.take_of_length_le (by rw [Hod.out]; exact Nat.le_refl _)
        have h2 : ds.take j = ds := List.take_of_length_le (by rw [Hl.out]; exact Nat.le_refl _)
        rw [h1, h2, HE.out] at he
        have hrow := hRx.row
        rw [Hod.out] at hrow
        have hz := hgr.size
        have hbel : Below B w wr := (Below.refl B w).grown hgr hB (fun q hq => by cases hq; omega)
        have hod0 := Hod.out
        by_cases hc0 : c = 0
        · subst hc0
          rw [Nat.mul_zero, Nat.add_zero] at he
          have HL := Lib.hid (lims_keep HDS.out hm0 (by rw [Hod.out, Hl.out]) HSm.out he)
          clear he h1 h2 hod0
          go_wp2
          go_ret
          exact ⟨⟨_, rfl, NatIs.of_row (ds := od) (by rw [Hod.out]; exact hrow) HL.out⟩, hbel⟩
        · have hci : (c : Int) > 0 := by omega
          have hcE : ((c : Int) == 0) = false := by simpa using hc0
          rw [← Hod.out] at he
          have HL := Lib.hid (lims_carry HSm.out (by omega) hc he)
          clear he h1 h2 hod0
          go_wp2_with (at_builtin; refine wpList_append_own _ rfl _ _ 44 rfl B 75 i0 (.int .u32 0) 1 4 Tryd.underlying44 hi hz0 hz1 hz2 rfl (by decide) (.slice (some ⟨g, 0, none⟩) j cap) j _ rfl (hrow.alloc _) ⟨wr.heap.size, 0, none⟩ 1 1 [.int .u32 (c : Int)] rfl rfl (cell_one_new _ _ _) (by intro u hu; simp at hu; subst hu; rfl) (by unfold maxLen; omega) (by omega) (by simp; omega) ?_; intro v' w2 hown2 hgrow _; obtain ⟨ao', c', rfl⟩ := slice_of_own hown2)
          go_ret
          refine ⟨⟨_, rfl, NatIs.of_row (ds := od ++ [c]) ?_ HL.out⟩, (hbel.alloc (by omega) _).grown hgrow (by simp; omega) (fun q hq => by cases hq; omega)⟩
          rw [List.length_append, List.length_singleton, List.map_append, Hod.out]
          exact hown2
end Go.Proofs.YtmnibfdenmeepaaDoor
