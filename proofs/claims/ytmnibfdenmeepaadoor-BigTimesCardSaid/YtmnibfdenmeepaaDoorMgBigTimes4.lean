/- The texts ByWord Chunk, one behind the other. -/
import Derived.Test.YtmnibfdenmeepaaDoorMgBigTimes3
import Derived.Deep.RegionWith
import Derived.Deep.RegionLaw
/- Division by a word; the greatest power of a base in a word. -/
namespace Go.Proofs.YtmnibfdenmeepaaDoor
open Go.RowKit Go.Shelf Big

theorem ev_drop (l : List Nat) (j : Nat) (h : j < l.length) : ev 4294967296 (l.drop j) = l[j] + 4294967296 * ev 4294967296 (l.drop (j + 1)) := by
  rw [List.drop_eq_getElem_cons h]; rfl
theorem byw_step (ds od : List Nat) (j m r d : Nat) (hj : j < ds.length) (hl : od.length = ds.length) (hd : ds[j] = d) (_hm : 0 < m)
    (he : ev 4294967296 (ds.drop (j + 1)) = m * ev 4294967296 (od.drop (j + 1)) + r) :
    ev 4294967296 (ds.drop j) = m * ev 4294967296 ((od.set j ((r * 4294967296 + d) / m)).drop j) + (r * 4294967296 + d) % m := by
  have hj2 : j < (od.set j ((r * 4294967296 + d) / m)).length := by simp; omega
  rw [ev_drop ds j hj, ev_drop _ j hj2, List.getElem_set_self, List.drop_set_of_lt (by omega), hd, he, Nat.mul_add, Nat.mul_add]
  have h1 := Nat.div_add_mod (r * 4294967296 + d) m
  rw [Nat.mul_left_comm 4294967296 m, Nat.mul_left_comm m 4294967296] 
  generalize 4294967296 * (m * ev 4294967296 (od.drop (j + 1))) = X
  omega

/-- A value is the slice of some words, in its own block. -/
def RowIs (w : World) (B g cap : Nat) (ds : List Nat) : Prop := w.ownsRow B 75 1 (.slice (some ⟨g, 0, none⟩) ds.length cap) ds.length (ds.map u32v)
theorem RowIs.put {w : World} {B g cap : Nat} {ds : List Nat} (h : RowIs w B g cap ds) (j q : Nat) : RowIs (w.setCell ⟨g, j, none⟩ (.int .u32 (q : Int))) B g cap (ds.set j q) := by
  have := (World.ownsRow.stored h j (.int .u32 (q : Int))).1
  unfold RowIs
  rw [List.length_set, List.map_set]
  exact this
theorem RowIs.cell {w : World} {B g cap : Nat} {ds : List Nat} (h : RowIs w B g cap ds) (j : Nat) (hj : j < ds.length) : w.cell? ⟨g, j, none⟩ = some (.int .u32 (ds[j] : Int)) := by
  rw [World.ownsRow.cellAt h j (by omega), List.getElem?_map, List.getElem?_eq_getElem hj]; rfl
theorem RowIs.free {w : World} {B g cap : Nat} {ds : List Nat} (h : RowIs w B g cap ds) (j : Nat) : w.frozen? ⟨g, j, none⟩ = false := World.ownsRow.frozenAt h j
theorem RowIs.made (w : World) (B n : Nat) (hB : B ≤ w.heap.size) (hn : n ≤ 1000000) : RowIs (w.alloc (.cells (noughts n) 75)) B w.heap.size n (List.replicate n 0) := by
  unfold RowIs
  have := World.ownsRow_lit (base := B) (e := 75) (size := 1) w (noughts n) n hB (by unfold maxLen; omega) (by rw [noughts_size]; omega)
  rw [noughts_list] at this
  rw [List.length_replicate]
  exact this
theorem RowIs.row {w : World} {B g cap : Nat} {ds : List Nat} (h : RowIs w B g cap ds) : w.ownsRow B 75 1 (.slice (some ⟨g, 0, none⟩) ds.length cap) ds.length (ds.map u32v) := h
theorem RowIs.drew {w : World} {B g cap : Nat} {ds : List Nat} (h : RowIs w B g cap ds) : RowIs w.drew B g cap ds := h

theorem or_word (r d : Nat) (hr : r < 4294967296) (hd : d < 4294967296) : bits BinOp.or IntKind.u64 ((r : Int) * 4294967296) (d : Int) = ((r * 4294967296 + d : Nat) : Int) := by
  rw [bits_join .u64 64 (by decide) wraps_u64 32 ((r : Int) * 4294967296) (d : Int) (by omega) (by omega) (by omega) (by omega) (by omega) (by omega)]
  omega

theorem small_set {ds : List Nat} (h : Small ds) (j q : Nat) (hq : q < 4294967296) : Small (ds.set j q) := by
  intro d hd
  rcases List.mem_or_eq_of_mem_set hd with h' | rfl
  · exact h d h'
  · exact hq
theorem small_zeros (n : Nat) : Small (List.replicate n 0) := by
  intro d hd
  rw [List.mem_replicate] at hd
  omega
theorem div_word (r d m : Nat) (hr : r < m) (hd : d < 4294967296) : (r * 4294967296 + d) / m < 4294967296 := by
  rw [Nat.div_lt_iff_lt_mul (by omega)]
  have : (r + 1) * 4294967296 ≤ m * 4294967296 := Nat.mul_le_mul_right _ hr
  rw [Nat.mul_comm 4294967296 m]
  omega

set_option maxRecDepth 100000 in
set_option maxHeartbeats 4000000 in
theorem byWord_any (B1 n m : Nat) (va : Value) (w : World) (ha : NatIs w B1 va n) (hla : (lims 4294967296 n).length ≤ 100000) (hm0 : 0 < m) (hm : m < 4294967296) :
    Calls Tryd.prog 118 #[va, .int .u32 (m : Int)] w fun e w' => (∃ v, e = .returned (.tuple #[v, .int .u32 ((n % m : Nat) : Int)]) ∧ NatIs w' w.heap.size v (n / m)) ∧ Below w.heap.size w w' := by
  obtain ⟨ao, ca, rfl, ra⟩ := ha.reads hla
  have HL := Lib.hid (ev_lims w32_ge n)
  have HS := Lib.hid (lims_lt w32_ge n)
  have HG := Lib.hid (fun j (h : j < (lims 4294967296 n).length) => lims_get n j h)
  revert ra HL HS HG hla
  generalize lims 4294967296 n = ds
  intro hla ra HL HS HG
  clear ha
  obtain ⟨la, hl⟩ : ∃ la, ds.length = la := ⟨_, rfl⟩
  rw [hl] at hla ra ⊢
  have Hl := Lib.hid hl
  clear hl
  have hmk : ∀ W, (Instr.makeSlice 44 (.int .i64 (la : Int)) (.int .i64 (la : Int))).run Tryd.prog W = .ok (.slice (some ⟨W.heap.size, 0, none⟩) la la) (W.alloc (.cells (noughts la) 75)) := make_any _ _ la la rfl rfl (by omega) (by omega)
  have hrow := RowIs.made w w.heap.size la (Nat.le_refl _) (by omega)
  have hb0 : Below w.heap.size w (w.alloc (.cells (noughts la) 75)) := (Below.refl _ w).alloc (Nat.le_refl _) _
  have hmI : (0 : Int) < (m : Int) := by omega
  have hmI2 : (m : Int) < 4294967296 := by omega
  go_enter Tryd.func118, Tryd.ntmps118
  go_wp2
  clear hmk
  go_loopg [7, 8] la (fun g v7 v8 wx => ∃ (r : Nat) (od : List Nat), v7 = .int .u64 (r : Int) ∧ v8 = .int .i64 ((g : Int) - 1) ∧ g ≤ la ∧ r < m ∧ od.length = la ∧ Small od ∧ RowIs wx w.heap.size w.heap.size la od ∧ ev 4294967296 (ds.drop g) = m * ev 4294967296 (od.drop g) + r ∧ Below w.heap.size w wx)
  case atStart =>
    exact ⟨0, _, rfl, rfl, Nat.le_refl _, hm0, by simp, small_zeros _, hrow, by rw [List.drop_of_length_le (by rw [Hl.out]; exact Nat.le_refl _), List.drop_of_length_le (by simp)]; simp [ev], hb0⟩
  case round =>
    obtain ⟨r, od, rfl, rfl, hg, hr, hod, hsm, hR, he, hB⟩ := hrel
    have Hod := Lib.hid hod
    have He := Lib.hid he
    have HSm := Lib.hid hsm
    clear hod he hsm
    cases gk with
    | zero =>
      have hneg : ¬ ((0 : Nat) : Int) - 1 ≥ 0 := by omega
      have hz := hB.size
      have hr2 : (r : Int) < 4294967296 := by omega
      have hn : ev 4294967296 od = n / m ∧ r = n % m := by
        have h := He.out
        rw [List.drop_zero, List.drop_zero, HL.out] at h
        subst h
        have h1 : (m * ev 4294967296 od + r) / m = ev 4294967296 od := by rw [Nat.mul_add_div hm0, Nat.div_eq_of_lt hr]; omega
        have h2 : (m * ev 4294967296 od + r) % m = r := by rw [Nat.mul_add_mod, Nat.mod_eq_of_lt hr]
        exact ⟨h1.symm, h2.symm⟩
      have hrow2 := hR.row
      have HN := Lib.hid hn
      have hcut := cut_any w.heap.size _ od wr hrow2 HSm.out (by rw [Hod.out]; omega)
      rw [Hod.out, hn.1] at hcut
      clear hn He
      go_wp2_with (go_at_call 91; refine hcut.mono ?_; rintro e w2 ⟨⟨v', rfl, hnat⟩, rfl⟩; obtain ⟨ao', c1, rfl⟩ := hnat.slice)
      go_ret2
      exact ⟨⟨_, by rw [← HN.out.2]; rfl, hnat⟩, hB⟩
    | succ j =>
      have hj : j < la := by omega
      obtain ⟨ga, rfl, hga, hca⟩ := ra.2.1 j hj
      rw [← HG.out j (by rw [Hl.out]; exact hj)] at hca
      obtain ⟨d, hd⟩ : ∃ d, ds[j]'(by rw [Hl.out]; exact hj) = d := ⟨_, rfl⟩
      rw [hd] at hca
      have hd2 : d < 4294967296 := by rw [← hd]; exact HS.out _ (List.getElem_mem _)
      have hca2 := (hB.cell (p := ⟨ga, j, none⟩) hga).trans hca
      have hi1 : ((j + 1 : Nat) : Int) - 1 = (j : Int) := by omega
      have hstep := byw_step ds od j m r d (by rw [Hl.out]; exact hj) (by rw [Hod.out, Hl.out]) hd hm0 He.out
      have hq := div_word r d m hr hd2
      have hor := or_word r d (by omega) hd2
      have hT : r * 4294967296 + d < 18446744073709551616 := by omega
      obtain ⟨T, hTe⟩ : ∃ T, r * 4294967296 + d = T := ⟨_, rfl⟩
      rw [hTe] at hor hq hstep hT
      have hmod : T % m < m := Nat.mod_lt _ hm0
      have hdi : (T : Int) / (m : Int) = ((T / m : Nat) : Int) := (Int.natCast_ediv _ _).symm
      have hmi : (T : Int) % (m : Int) = ((T % m : Nat) : Int) := (Int.natCast_emod _ _).symm
      obtain ⟨q, hqe⟩ : ∃ q, T / m = q := ⟨_, rfl⟩
      obtain ⟨r', hre⟩ : ∃ r', T % m = r' := ⟨_, rfl⟩
      rw [hqe] at hq hstep hdi
      rw [hre] at hmod hstep hmi
      have HT := Lib.hid hstep
      have hput := Lib.hid (hR.put j q)
      have hfz := hR.free j
      have hcz := hR.cell j (by rw [Hod.out]; exact hj)
      clear hd hTe hqe hre hstep hca He ra
      go_wp2_with fail
      go_region
      all_goals go_wp2
      go_roundg j
      case measure => omega
      case rel => exact ⟨r', od.set j q, by rw [hmi], rfl, by omega, hmod, by rw [List.length_set]; exact Hod.out, small_set HSm.out j q hq, hput.out, HT.out, (hB.setCell (p := ⟨w.heap.size, j, none⟩) (Nat.le_refl _) _).drew⟩
end Go.Proofs.YtmnibfdenmeepaaDoor
/- The greatest power of a base in a word. -/
namespace Go.Proofs.YtmnibfdenmeepaaDoor
open Go.RowKit Go.Shelf Big

def ChunkIs (b : Nat) (e : Ending) : Prop := ∃ k m : Nat, 1 ≤ k ∧ k ≤ 32 ∧ m < 4294967296 ∧ b ^ k = m ∧ e = .returned (.tuple #[.int .u32 (m : Int), .int .i64 (k : Int)])
theorem pow_two_le (b k : Nat) (hb : 2 ≤ b) : 2 ^ k ≤ b ^ k := Nat.pow_le_pow_left hb k
set_option maxHeartbeats 800000 in
theorem chunk_any (b : Nat) (w : World) (hb : 2 ≤ b) (hb2 : b ≤ 36) :
    Calls Tryd.prog 117 #[.int .i64 (b : Int)] w fun e w' => ChunkIs b e ∧ w = w' := by
  go_enter Tryd.func117, Tryd.ntmps117
  go_wp2
  go_loopg [4, 5] 4294967296 (fun g v4 v5 wx => w = wx ∧ ∃ k s : Nat, v4 = .int .u64 (s : Int) ∧ v5 = .int .i64 (k : Int) ∧ s = b ^ k ∧ s < 4294967296 ∧ 4294967297 ≤ s + g ∧ (k = 0 → s = 1))
  case atStart => exact ⟨rfl, 0, 1, rfl, rfl, rfl, by omega, by omega, fun _ => rfl⟩
  case round =>
    obtain ⟨rfl, k, s, rfl, rfl, hs, hlt, hg, h0⟩ := hrel
    have hk : k ≤ 32 := by
      rcases Nat.lt_or_ge 32 k with h | h
      · have h1 := pow_two_le b k hb
        have h2 : 2 ^ 33 ≤ 2 ^ k := Nat.pow_le_pow_right (by omega) h
        omega
      · exact h
    have hmulI : (s : Int) * (b : Int) = ((s * b : Nat) : Int) := (Int.natCast_mul _ _).symm
    have hpow : b ^ (k + 1) = s * b := by rw [Nat.pow_succ, hs]
    have hge : s * 2 ≤ s * b := Nat.mul_le_mul_left _ hb
    have hle : s * b ≤ s * 36 := Nat.mul_le_mul_left _ hb2
    have hpos : 0 < s := by rw [hs]; exact Nat.pow_pos (by omega)
    obtain ⟨m, hm⟩ : ∃ m, s * b = m := ⟨_, rfl⟩
    rw [hm] at hmulI hpow hge hle
    have Hs := Lib.hid hs
    have Hp := Lib.hid hpow
    have H0 := Lib.hid h0
    clear hs hpow h0 hm
    by_cases hc : m < 4294967296
    · have hci : (m : Int) < 4294967296 := by omega
      obtain ⟨g, rfl⟩ : ∃ g, gk = g + 1 := ⟨gk - 1, by omega⟩
      go_wp2
      go_roundg g
      case measure => omega
      case rel => exact ⟨rfl, k + 1, m, rfl, rfl, Hp.out.symm, hc, by omega, fun h => by omega⟩
    · have hci : ¬ (m : Int) < 4294967296 := by omega
      have hk1 : 1 ≤ k := by
        rcases Nat.eq_zero_or_pos k with h | h
        · have := H0.out h
          omega
        · exact h
      go_wp2
      go_ret2
      exact ⟨⟨k, s, hk1, hk, hlt, Hs.out.symm, rfl⟩, rfl⟩
end Go.Proofs.YtmnibfdenmeepaaDoor
