/- The texts Digits Digits2 Small TimesPlus ReadP, one behind the other. -/
import Derived.Test.YtmnibfdenmeepaaDoorMgBigTimes4
import Derived.Lib.Strings
/- The digits of a number, as the program writes them. -/
namespace Go.Proofs.YtmnibfdenmeepaaDoor
open Go.RowKit Go.Shelf Big

theorem Tryd.info5 : (Tryd.prog.info? 5).map (fun i => (i.zero, i.size, i.bytes)) = some (some (.int .u8 0), 1, 1) := by kernel_rfl
theorem conv_own {base : Nat} {v : Value} {l : List UInt8} {w : World} (h : w.ownsRow base 5 1 v l.length (Lib.byteCells l)) : (convert 114 9 v).run Tryd.prog w = .ok (.string ⟨l.toArray⟩) w := by
  rcases h.2 with ⟨rfl, h0⟩ | ⟨g, cap, cur, rfl, _⟩
  · have : l = [] := List.eq_nil_of_length_eq_zero h0
    subst this
    exact run_convert_bytes_nil w 114 5 Tryd.underlying114 Tryd.underlying5 0 0 9 Tryd.underlying9
  · exact run_convert_bytes_back w 114 9 5 ⟨g, 0, none⟩ cap l Tryd.underlying114 Tryd.underlying5 Tryd.underlying9 (fun j hj => h.cells (g := g) rfl j _ (by simp [Lib.byteCells, hj]))
theorem slice_of_own {w : World} {base : Nat} {e : TypeId} {size n : Nat} {v : Value} {xs : List Value} (h : w.ownsRow base e size v n xs) : ∃ ao c, v = .slice ao n c := by
  rcases h.2 with ⟨rfl, rfl⟩ | ⟨g, cap, cur, rfl, _⟩
  · exact ⟨_, _, rfl⟩
  · exact ⟨_, _, rfl⟩
/-- Rows of different types are in different blocks. -/
theorem own_apart {w : World} {B1 B2 n1 n2 : Nat} {v1 v2 : Value} {xs ys : List Value} {s1 s2 : Nat} {e1 e2 : TypeId} (h1 : w.ownsRow B1 e1 s1 v1 n1 xs) (h2 : w.ownsRow B2 e2 s2 v2 n2 ys) (hne : e1 ≠ e2) : v1.ownBlock = none ∨ v1.ownBlock ≠ v2.ownBlock := by
  rcases h1.2 with ⟨rfl, _⟩ | ⟨g, cap, cur, rfl, _, hg, _⟩
  · exact .inl rfl
  · rcases h2.2 with ⟨rfl, _⟩ | ⟨g', cap', cur', rfl, _, hg', _⟩
    · exact .inr (by simp [Value.ownBlock])
    · refine .inr ?_
      intro e
      simp [Value.ownBlock] at e
      subst e
      rw [hg] at hg'
      simp at hg'
      exact hne hg'.2

/-- Turned round up to a place, from both ends. -/
def Rv (L M : List UInt8) (i : Nat) : Prop := M.length = L.length ∧ ∀ k, k < L.length → M[k]? = if k < i ∨ L.length ≤ k + i then L[L.length - 1 - k]? else L[k]?
theorem Rv.start (L : List UInt8) : Rv L L 0 := ⟨rfl, fun k hk => by rw [if_neg (by omega)]⟩
theorem Rv.done {L M : List UInt8} {i : Nat} (h : Rv L M i) (hi : L.length ≤ 2 * i + 1) : M = L.reverse := by
  apply List.ext_getElem?
  intro k
  by_cases hk : k < L.length
  · rw [h.2 k hk, List.getElem?_reverse hk]
    split
    · rfl
    · have : L.length - 1 - k = k := by omega
      rw [this]
  · rw [List.getElem?_eq_none (by rw [h.1]; omega), List.getElem?_eq_none (by simp; omega)]
theorem Rv.step {L M : List UInt8} {i j : Nat} (h : Rv L M i) (hj : i + j + 1 = L.length) (hij : i < j) (a b : UInt8) (ha : M[i]? = some a) (hb : M[j]? = some b) : Rv L ((M.set i b).set j a) (i + 1) := by
  refine ⟨by simp [h.1], ?_⟩
  intro k hk
  have hi := h.2 i (by omega)
  have hjj := h.2 j (by omega)
  rw [if_neg (by omega)] at hi hjj
  rw [ha] at hi
  rw [hb] at hjj
  by_cases k1 : k = j
  · subst k1
    rw [List.getElem?_set_self (by simp [h.1]; omega), if_pos (by omega), show L.length - 1 - k = i by omega]
    exact hi
  · rw [List.getElem?_set_ne (by omega)]
    by_cases k2 : k = i
    · subst k2
      rw [List.getElem?_set_self (by rw [h.1]; omega), if_pos (by omega), show L.length - 1 - k = j by omega]
      exact hjj
    · rw [List.getElem?_set_ne (by omega), h.2 k hk]
      by_cases h1 : k < i ∨ L.length ≤ k + i
      · rw [if_pos h1, if_pos (by omega)]
      · rw [if_neg h1, if_neg (by omega)]

/-- One digit more. -/
theorem lims_more {b c n r : Nat} (hb : 2 ≤ b) (h : 0 < r ∨ 0 < n) : lims b (r + b ^ (c + 1) * n) = r % b :: lims b (r / b + b ^ c * n) := by
  have hp : 0 < b ^ (c + 1) := Nat.pow_pos (by omega)
  have hpos : 0 < r + b ^ (c + 1) * n := by
    rcases h with h | h
    · omega
    · have := Nat.mul_pos hp h; omega
  rw [lims_pos hb hpos]
  have e : r + b ^ (c + 1) * n = r + b * (b ^ c * n) := by rw [Nat.pow_succ, Nat.mul_comm (b ^ c) b, Nat.mul_assoc]
  rw [e, Nat.add_mul_mod_self_left, Nat.add_mul_div_left _ _ (by omega)]

theorem chr_int (d : Nat) (h : d < 36) : ((⟨#[48, 49, 50, 51, 52, 53, 54, 55, 56, 57, 97, 98, 99, 100, 101, 102, 103, 104, 105, 106, 107, 108, 109, 110, 111, 112, 113, 114, 115, 116, 117, 118, 119, 120, 121, 122]⟩ : ByteArray)[d]? ) = some (chr d) := by
  have : ∀ d : Fin 36, ((⟨#[48, 49, 50, 51, 52, 53, 54, 55, 56, 57, 97, 98, 99, 100, 101, 102, 103, 104, 105, 106, 107, 108, 109, 110, 111, 112, 113, 114, 115, 116, 117, 118, 119, 120, 121, 122]⟩ : ByteArray)[d.val]? ) = some (chr d.val) := by decide +kernel
  exact this ⟨d, h⟩
theorem chr_get (d : Nat) (h : d < 36) (h' : d < (⟨#[48, 49, 50, 51, 52, 53, 54, 55, 56, 57, 97, 98, 99, 100, 101, 102, 103, 104, 105, 106, 107, 108, 109, 110, 111, 112, 113, 114, 115, 116, 117, 118, 119, 120, 121, 122]⟩ : ByteArray).size) : (⟨#[48, 49, 50, 51, 52, 53, 54, 55, 56, 57, 97, 98, 99, 100, 101, 102, 103, 104, 105, 106, 107, 108, 109, 110, 111, 112, 113, 114, 115, 116, 117, 118, 119, 120, 121, 122]⟩ : ByteArray)[d]'h' = chr d := by
  have := chr_int d h
  rw [getElem?_pos _ d h'] at this
  exact Option.some.inj this
end Go.Proofs.YtmnibfdenmeepaaDoor
/- digits of the program: what it answers. -/
namespace Go.Proofs.YtmnibfdenmeepaaDoor
open Go.RowKit Go.Shelf Big

theorem digits_zero (B : Nat) (va : Value) (b : Nat) (w : World) (ha : NatIs w B va 0) :
    Calls Tryd.prog 93 #[va, .int .i64 (b : Int)] w fun e w' => e = .returned (.string ⟨(digs b 0).toArray⟩) ∧ Below w.heap.size w w' := by
  obtain ⟨ao, c, rfl⟩ := ha.slice
  rw [lims_zero]
  go_enter Tryd.func93, Tryd.ntmps93
  go_wp2
  go_ret
  exact ⟨rfl, Below.refl _ _⟩

theorem own_below {w w' : World} {B : Nat} {e : TypeId} {s : Nat} {v : Value} {n : Nat} {xs : List Value} (h : w.ownsRow B e s v n xs) (hb : Below w.heap.size w w') : w'.ownsRow B e s v n xs := by
  refine ⟨h.1, ?_⟩
  rcases h.2 with hn | ⟨g, cap, cur, rfl, h1, hg, h3⟩
  · exact .inl hn
  · exact .inr ⟨g, cap, cur, rfl, h1, (hb.block g (Array.getElem?_eq_some_iff.1 hg).1).trans hg, h3⟩
/-- A row of bytes in its own block. -/
structure RowB (w : World) (B g cap n : Nat) (M : List UInt8) : Prop where
  len : M.length = n
  row : w.ownsRow B 5 1 (.slice (some ⟨g, 0, none⟩) n cap) n (Lib.byteCells M)
theorem rowB_of {w : World} {B n : Nat} {v : Value} {M : List UInt8} (h : w.ownsRow B 5 1 v n (Lib.byteCells M)) (hn : 0 < n) : ∃ g cap, v = .slice (some ⟨g, 0, none⟩) n cap ∧ RowB w B g cap n M := by
  have hl := h.1
  rcases h.2 with ⟨rfl, h0⟩ | ⟨g, cap, cur, rfl, _⟩
  · omega
  · exact ⟨g, cap, rfl, by simpa [Lib.byteCells] using hl, h⟩
theorem RowB.cell {w : World} {B g cap n : Nat} {M : List UInt8} (h : RowB w B g cap n M) (j : Nat) (hj : j < M.length) : w.cell? ⟨g, j, none⟩ = some (.int .u8 (M[j].toNat : Int)) := by
  rw [World.ownsRow.cellAt h.row j (by rw [← h.len]; omega)]
  simp [Lib.byteCells, hj]
theorem RowB.free {w : World} {B g cap n : Nat} {M : List UInt8} (h : RowB w B g cap n M) (j : Nat) : w.frozen? ⟨g, j, none⟩ = false := World.ownsRow.frozenAt h.row j
theorem RowB.put {w : World} {B g cap n : Nat} {M : List UInt8} (h : RowB w B g cap n M) (j : Nat) (c : UInt8) : RowB (w.setCell ⟨g, j, none⟩ (.int .u8 (c.toNat : Int))) B g cap n (M.set j c) := by
  refine ⟨by rw [List.length_set]; exact h.len, ?_⟩
  have := (World.ownsRow.stored h.row j (.int .u8 (c.toNat : Int))).1
  rw [show Lib.byteCells (M.set j c) = (Lib.byteCells M).set j (.int .u8 (c.toNat : Int)) by simp [Lib.byteCells, List.map_set]]
  exact this
theorem RowB.base {w : World} {B g cap n : Nat} {M : List UInt8} (h : RowB w B g cap n M) : B ≤ g := (World.ownsRow.lt h.row g rfl).1
theorem RowB.drew {w : World} {B g cap n : Nat} {M : List UInt8} (h : RowB w B g cap n M) : RowB w.drew B g cap n M := ⟨h.len, h.row⟩
theorem RowB.conv {w : World} {B g cap n : Nat} {M : List UInt8} (h : RowB w B g cap n M) : (convert 114 9 (.slice (some ⟨g, 0, none⟩) n cap)).run Tryd.prog w = .ok (.string ⟨M.toArray⟩) w := by
  refine conv_own (base := B) ?_
  have := h.row
  rw [← h.len] at this ⊢
  exact this
theorem byteCells_snoc (l : List UInt8) (c : UInt8) : Lib.byteCells (l ++ [c]) = Lib.byteCells l ++ [.int .u8 (c.toNat : Int)] := by simp [Lib.byteCells]

set_option maxRecDepth 100000 in
set_option maxHeartbeats 8000000 in
theorem digits_pos (B : Nat) (va : Value) (b n : Nat) (w : World) (ha : NatIs w B va n) (hn : 0 < n) (hb : 2 ≤ b) (hb2 : b ≤ 36) (hla : (lims 4294967296 n).length ≤ 100000) (hN : (lims b n).length ≤ 4000000) :
    Calls Tryd.prog 93 #[va, .int .i64 (b : Int)] w fun e w' => e = .returned (.string ⟨(digs b n).toArray⟩) ∧ Below w.heap.size w w' := by
  obtain ⟨i0, hi, hz0, hz1, hz2⟩ := info_parts Tryd.info75
  obtain ⟨i5, hi5, hy0, hy1, hy2⟩ := info_parts Tryd.info5
  have HA := Lib.hid ha
  have hlp : 0 < (lims 4294967296 n).length := by
    rcases Nat.eq_zero_or_pos (lims 4294967296 n).length with h | h
    · have := (lims_nil w32_ge).1 (List.eq_nil_of_length_eq_zero h); omega
    · exact h
  obtain ⟨ao, ca, rfl, ra⟩ := ha.reads hla
  obtain ⟨ga, rfl, hga, -⟩ := ra.2.1 0 hlp
  have hcells : ∀ j u, ((lims 4294967296 n).map u32v)[j]? = some u → w.cell? ((⟨ga, 0, none⟩ : Addr).add j) = some u := fun j u hu => World.ownsRow.cells ha (g := ga) rfl j u hu
  have HCE := Lib.hid hcells
  have HLB := Lib.hid (rfl : digs b n = digs b n)
  obtain ⟨la, hl⟩ : ∃ la, (lims 4294967296 n).length = la := ⟨_, rfl⟩
  rw [hl] at hla ra hlp
  have Hl := Lib.hid hl
  have hl2 : ((lims 4294967296 n).map u32v).length = la * 1 := by rw [List.length_map, hl, Nat.mul_one]
  have HL2 := Lib.hid hl2
  rw [hl]
  clear ha hl hl2 hcells ra
  have hlI : ¬ (la : Int) = 0 := by omega
  have hlE : ((la : Int) == 0) = false := by simpa using hlI
  go_enter Tryd.func93, Tryd.ntmps93
  go_wp2_with (first
    | (go_at_call 117; refine (chunk_any b _ hb hb2).mono ?_; rintro e w' ⟨⟨k, m, hk1, hk2, hk3, hm, rfl⟩, rfl⟩; have Hm := Lib.hid hm; clear hm)
    | (at_builtin; refine wpList_append_own _ rfl _ _ 44 rfl w.heap.size 75 i0 (.int .u32 0) 1 4 Tryd.underlying44 hi hz0 hz1 hz2 rfl (by decide) (.slice none 0 0) 0 [] rfl (World.ownsRow_nil _ _ _ _) ⟨ga, 0, none⟩ la ca ((lims 4294967296 n).map u32v) rfl HL2.out HCE.out (by intro u hu; simp only [List.mem_map] at hu; obtain ⟨d, _, rfl⟩ := hu; rfl) (by unfold maxLen; omega) (by omega) (Nat.le_refl _) ?_; intro v' w2 hown2 hgrow _))
  have hnat : NatIs w2 w.heap.size v' n := by
    unfold NatIs
    rw [Hl.out]
    simpa using hown2
  have hb0 : Below w.heap.size w w2 := (Below.refl _ w).grown hgrow (Nat.le_refl _) (fun k e => by simp [Value.ownBlock] at e)
  have hm0 : 0 < m := by rw [← Hm.out]; exact Nat.pow_pos (by omega)
  have hm2 : 2 ≤ m := by
    have h1 := pow_two_le b k hb
    rw [Hm.out] at h1
    have h2 : 2 ^ 1 ≤ 2 ^ k := Nat.pow_le_pow_right (by omega) hk1
    omega
  clear hown2 hgrow HCE HL2 hlE hlI
  obtain ⟨ao2, c2, rfl⟩ := hnat.slice
  go_loopg [0, 7] n (fun g v0 v7 wx => ∃ od : List Nat, g ≤ n ∧ NatIs wx w.heap.size v0 g ∧ wx.ownsRow w.heap.size 5 1 v7 od.length (Lib.byteCells (od.map chr)) ∧ lims b n = od ++ lims b g ∧ Below w.heap.size w wx)
  case atStart => exact ⟨[], Nat.le_refl _, hnat, World.ownsRow_nil _ _ _ _, rfl, hb0⟩
  case round =>
    obtain ⟨G, rfl⟩ : ∃ G, G = gk := ⟨_, rfl⟩
    obtain ⟨od, hgn, hng, hrow, he, hB⟩ := hrel
    have He := Lib.hid he
    have hz := hB.size
    clear he hnat hb0
    rcases Nat.eq_zero_or_pos G with rfl | hpos
    · obtain ⟨ag, cg, rfl⟩ := hng.slice
      rw [lims_zero]
      have hod : od = lims b n := by have := He.out; rw [lims_zero, List.append_nil] at this; exact this.symm
      have hNp : 0 < od.length := by
        rcases Nat.eq_zero_or_pos od.length with h | h
        · have := (lims_nil hb).1 (hod.symm.trans (List.eq_nil_of_length_eq_zero h)); omega
        · exact h
      have hNm : od.length ≤ 4000000 := by rw [hod]; exact hN
      have HD := Lib.hid (show digs b n = (od.map chr).reverse by unfold digs; rw [if_neg (by omega), hod])
      obtain ⟨gr, cr, rfl, hrow2⟩ := rowB_of hrow hNp
      have hLl : (od.map chr).length = od.length := by simp
      obtain ⟨L, hL⟩ : ∃ L, od.map chr = L := ⟨_, rfl⟩
      rw [hL] at hrow2 hLl HD
      obtain ⟨N, hNe⟩ : ∃ N, od.length = N := ⟨_, rfl⟩
      rw [hNe] at hLl hNp hNm hrow2 ⊢
      have HLl := Lib.hid hLl
      clear hod hL hNe hrow hLl
      have hsub : wrap64 ((N : Int) - 1) = (N : Int) - 1 := by unfold wrap64; omega
      go_wp2_with fail
      go_loopg [10, 11] N (fun g' v10 v11 wx => ∃ (i : Nat) (M : List UInt8), v10 = .int .i64 (i : Int) ∧ v11 = .int .i64 ((N : Int) - 1 - (i : Int)) ∧ i + g' = N ∧ RowB wx w.heap.size gr cr N M ∧ Rv L M i ∧ Below w.heap.size w wx)
      case atStart => exact ⟨0, L, rfl, by simp, by omega, hrow2, Rv.start L, hB⟩
      case round =>
        obtain ⟨i, M, rfl, rfl, hig, hrowM, hRv, hBx⟩ := hrel
        have HRv := Lib.hid hRv
        clear hRv hrow2
        by_cases hij : 2 * i + 1 < N
        · obtain ⟨j, hj⟩ : ∃ j : Nat, N - 1 - i = j := ⟨_, rfl⟩
          have hji : (N : Int) - 1 - (i : Int) = (j : Int) := by omega
          have hlt : (i : Int) < (j : Int) := by omega
          have hjN : j < N := by omega
          have hML : M.length = N := by rw [HRv.out.1, HLl.out]
          have hiM : i < M.length := by omega
          have hjM : j < M.length := by omega
          obtain ⟨a, ha⟩ : ∃ a, M[i] = a := ⟨_, rfl⟩
          obtain ⟨c, hc⟩ : ∃ c, M[j] = c := ⟨_, rfl⟩
          have hca := hrowM.cell i hiM
          have hcc := hrowM.cell j hjM
          rw [ha] at hca
          rw [hc] at hcc
          have hfi := hrowM.free i
          have hfj := hrowM.free j
          have HP := Lib.hid ((hrowM.put i c).put j a)
          have HS := Lib.hid (HRv.out.step (i := i) (j := j) (by rw [HLl.out]; omega) (by omega) a c (by rw [List.getElem?_eq_getElem hiM, ha]) (by rw [List.getElem?_eq_getElem hjM, hc]))
          have HB := Lib.hid ((hBx.setCell (p := ⟨gr, i, none⟩) hrowM.base (.int .u8 (c.toNat : Int))).setCell (p := ⟨gr, j, none⟩) hrowM.base (.int .u8 (a.toNat : Int)))
          clear ha hc hML hj hrowM hBx hiM hjM
          obtain ⟨g, rfl⟩ : ∃ g, gk = g + 1 := ⟨gk - 1, by omega⟩
          go_wp2_with fail
          go_region
          all_goals go_wp2
          go_roundg g
          case measure => omega
          case rel => exact ⟨i + 1, _, by go_num, by simp; omega, by omega, HP.out.drew, HS.out, HB.out.drew⟩
        · have hlt : ¬ (i : Int) < (N : Int) - 1 - (i : Int) := by omega
          have hM := HRv.out.done (by rw [HLl.out]; omega)
          have hcv := hrowM.conv
          rw [hM, ← HD.out] at hcv
          go_wp2
          go_ret
          exact ⟨rfl, hBx⟩
    · have hlg := lims_len_mono hgn
      rw [Hl.out] at hlg
      have hlg2 : 0 < (lims 4294967296 G).length := by
        rcases Nat.eq_zero_or_pos (lims 4294967296 G).length with h | h
        · have := (lims_nil w32_ge).1 (List.eq_nil_of_length_eq_zero h); omega
        · exact h
      obtain ⟨ag, cg, rfl⟩ := hng.slice
      have hbw := byWord_any w.heap.size G m _ wr hng (by omega) hm0 hk3
      have hdl : G / m < G := Nat.div_lt_self hpos (by omega)
      have hdm := Nat.mod_lt G hm0
      have hsum := Nat.mod_add_div G m
      obtain ⟨q, hq⟩ : ∃ q, G / m = q := ⟨_, rfl⟩
      obtain ⟨r0, hr0⟩ : ∃ r0, G % m = r0 := ⟨_, rfl⟩
      rw [hq] at hbw hdl hsum
      rw [hr0] at hbw hdm hsum
      have HSum := Lib.hid hsum
      clear hq hr0 hsum hng
      obtain ⟨lg, hlge⟩ : ∃ lg, (lims 4294967296 G).length = lg := ⟨_, rfl⟩
      rw [hlge] at hlg hlg2 hbw ⊢
      clear hlge
      have hlgI : (lg : Int) > 0 := by omega
      go_wp2_with (go_at_call 118; refine hbw.mono ?_; rintro e w3 ⟨⟨v1, rfl, hn1⟩, hb3⟩)
      have hrow3 := own_below hrow hb3
      have hB3 := hB.trans (hb3.mono hz)
      have hn1' := hn1.mono hz
      clear hn1 hrow hbw hB
      obtain ⟨a1, c1, rfl⟩ := hn1'.slice
      have hlq := lims_len_mono (show q ≤ n by omega)
      rw [Hl.out] at hlq
      have hq0 : q = 0 ∨ 0 < (lims 4294967296 q).length := by
        rcases Nat.eq_zero_or_pos (lims 4294967296 q).length with h | h
        · exact .inl ((lims_nil w32_ge).1 (List.eq_nil_of_length_eq_zero h))
        · exact .inr h
      have hq1 : q = 0 → (lims 4294967296 q).length = 0 := fun h => by rw [h, lims_zero]; rfl
      obtain ⟨lq, hlqe⟩ : ∃ lq, (lims 4294967296 q).length = lq := ⟨_, rfl⟩
      rw [hlqe] at hn1' hlq hq0 hq1 ⊢
      have HQ := Lib.hid (And.intro hq0 hq1)
      clear hq0 hq1 hlqe
      go_loopg [7, 8, 9] k (fun g' v7 v8 v9 wx => ∃ (od : List Nat) (r i : Nat), v9 = .int .i64 (i : Int) ∧ i + g' = k ∧ v8 = .int .u32 (r : Int) ∧ r < 4294967296 ∧ r < b ^ g' ∧ wx.ownsRow w.heap.size 5 1 v7 od.length (Lib.byteCells (od.map chr)) ∧ lims b n = od ++ lims b (r + b ^ g' * q) ∧ NatIs wx w.heap.size (.slice a1 lq c1) q ∧ Below w.heap.size w wx)
      case atStart => exact ⟨od, r0, 0, rfl, by omega, rfl, by omega, by rw [Hm.out]; exact hdm, hrow3, by rw [Hm.out, HSum.out]; exact He.out, hn1', hB3⟩
      case round =>
        obtain ⟨od1, r, i, rfl, hik, rfl, hr32, hrb, hrow4, he4, hn4, hB4⟩ := hrel
        have hq2 := HQ.out
        have hz4 := hB4.size
        have hodl : od1.length ≤ 4000000 := by
          have := congrArg List.length he4
          rw [List.length_append] at this
          omega
        have He4 := Lib.hid he4
        have Hrb := Lib.hid hrb
        obtain ⟨ar, cr, rfl⟩ := slice_of_own hrow4
        cases gk with
        | zero =>
          have hii : i = k := by omega
          subst hii
          have hr00 : r = 0 := by
            have := Hrb.out
            rw [Nat.pow_zero] at this
            omega
          subst hr00
          have He5 := Lib.hid (show lims b n = od1 ++ lims b q by rw [He4.out]; simp)
          clear he4 hrb
          go_wp2
          go_roundg q
          case measure => omega
          case rel => exact ⟨od1, by omega, hn4, hrow4, He5.out, hB4⟩
        | succ c =>
          have hilt : (i : Int) < (k : Int) := by omega
          by_cases hgo : q = 0 ∧ r = 0
          · obtain ⟨hq9, rfl⟩ := hgo
            have hl0 : decide (0 < lq) = false := by have := hq2.2 hq9; simp; omega
            have hl1 : decide ((0 : Int) < (lq : Int)) = false := by have := hq2.2 hq9; simp; omega
            have He5 := Lib.hid (show lims b n = od1 ++ lims b q by rw [He4.out, hq9]; simp)
            clear he4 hrb hq2 hq9
            go_wp2
            go_roundg q
            case measure => omega
            case rel => exact ⟨od1, by omega, hn4, hrow4, He5.out, hB4⟩
          · have hmore := lims_more (b := b) (c := c) (n := q) (r := r) hb (by omega)
            have hd36 := Nat.mod_lt r (show 0 < b by omega)
            have hdiv : r / b < b ^ c := by
              rw [Nat.div_lt_iff_lt_mul (by omega), ← Nat.pow_succ]
              exact Hrb.out
            have hdle : r / b ≤ r := Nat.div_le_self _ _
            have hmodI : (r : Int) % (b : Int) = ((r % b : Nat) : Int) := (Int.natCast_emod _ _).symm
            have hdivI : (r : Int) / (b : Int) = ((r / b : Nat) : Int) := (Int.natCast_ediv _ _).symm
            obtain ⟨d, hd⟩ : ∃ d, r % b = d := ⟨_, rfl⟩
            obtain ⟨r2, hr2⟩ : ∃ r2, r / b = r2 := ⟨_, rfl⟩
            rw [hd] at hmore hd36 hmodI
            rw [hr2] at hmore hdiv hdivI hdle
            have hch := chr_get d (by omega) (show d < 36 by omega)
            have hn4a : NatIs (wr.alloc (.cells #[.int .u8 ((chr d).toNat : Int)] 5)) w.heap.size (.slice a1 lq c1) q := World.ownsRow.alloc hn4 _
            have hrow4a := hrow4.alloc (.cells #[.int .u8 ((chr d).toNat : Int)] 5)
            have He5 := Lib.hid (show lims b n = (od1 ++ [d]) ++ lims b (r2 + b ^ c * q) by rw [He4.out, hmore, List.append_assoc]; rfl)
            have Hdiv := Lib.hid hdiv
            have hrowc := byteCells_snoc (od1.map chr) (chr d)
            have hmapc : (od1 ++ [d]).map chr = od1.map chr ++ [chr d] := by simp
            have HR := Lib.hid (And.intro hrowc hmapc)
            clear hd hr2 hmore he4 hrb hdiv hrowc hmapc
            have hi0 : (0 : Int) ≤ (d : Int) := by omega
            have hi36 : (d : Int) < 36 := by omega
            rcases hq2.1 with hq0 | hq0
            · have hl0 : decide (0 < lq) = false := by have := hq2.2 hq0; simp; omega
              have hl1 : decide ((0 : Int) < (lq : Int)) = false := by have := hq2.2 hq0; simp; omega
              have hrpos : (r : Int) > 0 := by omega
              clear hq2 hq0
              go_wp2_with (at_builtin; refine wpList_append_own _ rfl _ _ 114 rfl w.heap.size 5 i5 (.int .u8 0) 1 1 Tryd.underlying114 hi5 hy0 hy1 hy2 rfl (by decide) (.slice ar od1.length cr) od1.length _ rfl hrow4a ⟨wr.heap.size, 0, none⟩ 1 1 [.int .u8 ((chr d).toNat : Int)] rfl rfl (cell_one_new _ _ _) (by intro u hu; simp at hu; subst hu; rfl) (by unfold maxLen; omega) (by omega) (by simp; omega) ?_; intro v' w5 hown5 hgrow5 _; obtain ⟨ar5, cr5, rfl⟩ := slice_of_own hown5)
              go_roundg c
              case measure => omega
              case rel =>
                refine ⟨od1 ++ [d], r2, i + 1, by go_num, by omega, rfl, by omega, Hdiv.out, ?_, He5.out, World.ownsRow.kept hn4a hgrow5 (own_apart hn4a hrow4a (by decide)), (hB4.alloc hz4 _).grown hgrow5 (by simp; omega) (fun q hq => (hrow4a.lt q hq).1)⟩
                rw [HR.out.2, HR.out.1, List.length_append, List.length_singleton]
                exact hown5
            · have hlqI : (lq : Int) > 0 := by omega
              clear hq2
              go_wp2_with (at_builtin; refine wpList_append_own _ rfl _ _ 114 rfl w.heap.size 5 i5 (.int .u8 0) 1 1 Tryd.underlying114 hi5 hy0 hy1 hy2 rfl (by decide) (.slice ar od1.length cr) od1.length _ rfl hrow4a ⟨wr.heap.size, 0, none⟩ 1 1 [.int .u8 ((chr d).toNat : Int)] rfl rfl (cell_one_new _ _ _) (by intro u hu; simp at hu; subst hu; rfl) (by unfold maxLen; omega) (by omega) (by simp; omega) ?_; intro v' w5 hown5 hgrow5 _; obtain ⟨ar5, cr5, rfl⟩ := slice_of_own hown5)
              go_roundg c
              case measure => omega
              case rel =>
                refine ⟨od1 ++ [d], r2, i + 1, by go_num, by omega, rfl, by omega, Hdiv.out, ?_, He5.out, World.ownsRow.kept hn4a hgrow5 (own_apart hn4a hrow4a (by decide)), (hB4.alloc hz4 _).grown hgrow5 (by simp; omega) (fun q hq => (hrow4a.lt q hq).1)⟩
                rw [HR.out.2, HR.out.1, List.length_append, List.length_singleton]
                exact hown5
end Go.Proofs.YtmnibfdenmeepaaDoor
/- digit, white: what they answer. -/
namespace Go.Proofs.YtmnibfdenmeepaaDoor
open Go.RowKit Go.Shelf Big

theorem digit_any (c : UInt8) (w : World) : Calls Tryd.prog 120 #[.int .u8 (c.toNat : Int)] w fun e w' => e = .returned (.int .i64 (dg c : Int)) ∧ w = w' := by
  have hc := c.toNat_lt
  have HD : Hid (dg c = if 48 ≤ c.toNat ∧ c.toNat ≤ 57 then c.toNat - 48 else if 97 ≤ c.toNat ∧ c.toNat ≤ 122 then c.toNat - 87 else if 65 ≤ c.toNat ∧ c.toNat ≤ 90 then c.toNat - 55 else 99) := Lib.hid rfl
  revert HD hc
  generalize dg c = r
  generalize c.toNat = n
  intro hc HD
  by_cases h1 : 48 ≤ n ∧ n ≤ 57
  · have H := Lib.hid (show (r : Int) = (n : Int) - 48 by rw [HD.out, if_pos h1]; omega)
    obtain ⟨a, b⟩ := h1
    go_enter Tryd.func120, Tryd.ntmps120
    go_wp2
    go_ret
    exact ⟨by rw [H.out]; rfl, rfl⟩
  · have e1 : (decide (48 ≤ n) && decide (n ≤ 57)) = false := by simp; omega
    by_cases h2 : 97 ≤ n ∧ n ≤ 122
    · have H := Lib.hid (show (r : Int) = (n : Int) - 97 + 10 by rw [HD.out, if_neg h1, if_pos h2]; omega)
      obtain ⟨a, b⟩ := h2
      have g : 57 < n := by omega
      go_enter Tryd.func120, Tryd.ntmps120
      go_wp2
      go_ret
      exact ⟨by rw [H.out]; rfl, rfl⟩
    · by_cases h3 : 65 ≤ n ∧ n ≤ 90
      · have H := Lib.hid (show (r : Int) = (n : Int) - 65 + 10 by rw [HD.out, if_neg h1, if_neg h2, if_pos h3]; omega)
        obtain ⟨a, b⟩ := h3
        have g : 57 < n := by omega
        have g2 : n < 97 := by omega
        go_enter Tryd.func120, Tryd.ntmps120
        go_wp2
        go_ret
        exact ⟨by rw [H.out]; rfl, rfl⟩
      · have H := Lib.hid (show (r : Int) = 99 by rw [HD.out, if_neg h1, if_neg h2, if_neg h3]; rfl)
        rcases (show n < 48 ∨ (57 < n ∧ n < 65) ∨ (90 < n ∧ n < 97) ∨ 122 < n by omega) with h | h | h | h
        all_goals
          go_enter Tryd.func120, Tryd.ntmps120
          go_wp2
        all_goals
          go_ret
          exact ⟨by rw [H.out]; rfl, rfl⟩

theorem white_any (c : UInt8) (w : World) : Calls Tryd.prog 106 #[.int .u8 (c.toNat : Int)] w fun e w' => e = .returned (.bool (wht c)) ∧ w = w' := by
  obtain ⟨n, hn⟩ : ∃ n, c.toNat = n := ⟨_, rfl⟩
  have H : Hid (wht c = (decide (9 ≤ n ∧ n ≤ 13) || decide (n = 32))) := by show _ = _; unfold wht; rw [hn]
  rw [hn]
  clear hn
  by_cases h0 : (n : Int) = 32
  · have e1 : n = 32 := by omega
    subst e1
    go_enter Tryd.func106, Tryd.ntmps106
    go_wp2
    go_ret
    exact ⟨by rw [H.out]; rfl, rfl⟩
  · have hz : ((n : Int) == 32) = false := by simpa using h0
    by_cases h1 : (n : Int) ≥ 9
    · by_cases h2 : (n : Int) ≤ 13
      · have H2 := Lib.hid (show (decide (9 ≤ n ∧ n ≤ 13) || decide (n = 32)) = true by simp; omega)
        go_enter Tryd.func106, Tryd.ntmps106
        go_wp2
        go_ret
        exact ⟨by rw [H.out, H2.out]; rfl, rfl⟩
      · have H2 := Lib.hid (show (decide (9 ≤ n ∧ n ≤ 13) || decide (n = 32)) = false by simp; omega)
        go_enter Tryd.func106, Tryd.ntmps106
        go_wp2
        go_ret
        exact ⟨by rw [H.out, H2.out]; rfl, rfl⟩
    · have H2 := Lib.hid (show (decide (9 ≤ n ∧ n ≤ 13) || decide (n = 32)) = false by simp; omega)
      go_enter Tryd.func106, Tryd.ntmps106
      go_wp2
      go_ret
      exact ⟨by rw [H.out, H2.out]; rfl, rfl⟩
end Go.Proofs.YtmnibfdenmeepaaDoor
/- a * m + n in place. -/
namespace Go.Proofs.YtmnibfdenmeepaaDoor
open Go.RowKit Go.Shelf Big

/-- Words from the lowest on, times m, and what is carried. -/
theorem tp_step (ds od : List Nat) (j m n c d : Nat) (hj : j < ds.length) (hl : od.length = ds.length) (hd : ds[j] = d)
    (he : ev 4294967296 (od.take j) + 4294967296 ^ j * c = m * ev 4294967296 (ds.take j) + n) :
    ev 4294967296 ((od.set j ((d * m + c) % 4294967296)).take (j + 1)) + 4294967296 ^ (j + 1) * ((d * m + c) / 4294967296) = m * ev 4294967296 (ds.take (j + 1)) + n := by
  rw [ev_take_succ, ev_take_succ, List.take_set_of_le (Nat.le_refl _)]
  have h1 : (od.set j ((d * m + c) % 4294967296)).getD j 0 = (d * m + c) % 4294967296 := by
    rw [List.getD_eq_getElem?_getD, List.getElem?_set_self (by omega)]; rfl
  have h2 : ds.getD j 0 = d := by rw [List.getD_eq_getElem?_getD, List.getElem?_eq_getElem hj, hd]; rfl
  rw [h1, h2, Nat.mul_add, Nat.pow_succ, Nat.mul_assoc]
  have h3 := Nat.mod_add_div (d * m + c) 4294967296
  have h4 : 4294967296 ^ j * ((d * m + c) % 4294967296) + 4294967296 ^ j * (4294967296 * ((d * m + c) / 4294967296)) = 4294967296 ^ j * (d * m) + 4294967296 ^ j * c := by
    rw [← Nat.mul_add, h3, Nat.mul_add]
  have h5 : m * (4294967296 ^ j * d) = 4294967296 ^ j * (d * m) := by rw [Nat.mul_left_comm, Nat.mul_comm m d]
  rw [h5]
  omega

/-- What timesPlus may touch: its own slice's block. -/
def TpEnd (B m n k : Nat) (va : Value) (w : World) (e : Ending) (w' : World) : Prop :=
  ∃ v, e = .returned v ∧ NatIs w' B v (k * m + n) ∧ w.grownBy w' va.ownBlock

theorem word_mul (d m c : Nat) (hd : d < 4294967296) (hm : m < 4294967296) (hc : c < 4294967296) : d * m + c < 18446744073709551616 ∧ (d * m + c) / 4294967296 < 4294967296 := by
  have h1 : d * m ≤ 4294967295 * 4294967295 := Nat.mul_le_mul (by omega) (by omega)
  omega

theorem grown_put {w w1 : World} {g : Nat} (h : w.grownBy w1 (some g)) (j : Nat) (u : Value) : w.grownBy (w1.setCell ⟨g, j, none⟩ u) (some g) :=
  ⟨h.os, h.tape, h.output, by simpa using h.size, fun k hk hne => (heap_setCell_other w1 ⟨g, j, none⟩ k u (fun e => hne (by simp [e]))).trans (h.block k hk hne)⟩

theorem lims_keep {ds od : List Nat} {k m n : Nat} (hk : lims 4294967296 k = ds) (hm : 0 < m) (hl : od.length = ds.length) (hs : Small od)
    (he : ev 4294967296 od = m * k + n) : lims 4294967296 (k * m + n) = od := by
  by_cases h0 : k = 0
  · subst h0
    rw [lims_zero] at hk
    subst hk
    have := List.eq_nil_of_length_eq_zero hl
    subst this
    have hn : n = 0 := by simp [ev] at he; omega
    rw [hn, Nat.zero_mul, Nat.zero_add, lims_zero]
  · have e : k * m + n = ev 4294967296 od := by rw [he, Nat.mul_comm]
    rw [e]
    have hlen : od.length ≤ (lims 4294967296 (ev 4294967296 od)).length := by
      rw [hl, ← hk]
      apply lims_len_mono
      rw [he]
      have : k * 1 ≤ k * m := Nat.mul_le_mul_left _ hm
      rw [Nat.mul_comm m k]
      omega
    refine lims_ev w32_ge hs ?_
    intro hne hz
    have hpos : 0 < od.length := List.length_pos_iff.2 hne
    have h1 : ev 4294967296 (od.take (od.length - 1)) = ev 4294967296 od := by
      have := ev_take_pred 4294967296 od od.length hpos (by
        rw [List.getD_eq_getElem?_getD, List.getElem?_eq_getElem (by omega)]
        rw [List.getLast_eq_getElem] at hz
        exact hz)
      rw [this, List.take_length]
    have h2 : ev 4294967296 (od.take (od.length - 1)) < 4294967296 ^ (od.length - 1) := ev_take_lt (by decide) hs _
    rw [h1] at h2
    have := (lims_len_le w32_ge (ev 4294967296 od) (od.length - 1)).2 h2
    omega

theorem lims_carry {od : List Nat} {k m n c : Nat} (hs : Small od) (hc0 : 0 < c) (hc : c < 4294967296) (he : ev 4294967296 od + 4294967296 ^ od.length * c = m * k + n) : lims 4294967296 (k * m + n) = od ++ [c] := by
  have e : k * m + n = ev 4294967296 (od ++ [c]) := by rw [ev_snoc, he, Nat.mul_comm]
  rw [e]
  refine lims_ev w32_ge ?_ ?_
  · intro d hd
    rcases List.mem_append.1 hd with hd | hd
    · exact hs d hd
    · simp at hd; omega
  · intro h
    rw [List.getLast_append_of_ne_nil _ (by simp)]
    simp
    omega

theorem NatIs.of_row {w : World} {B n : Nat} {v : Value} {ds : List Nat} (h : w.ownsRow B 75 1 v ds.length (ds.map u32v)) (e : lims 4294967296 n = ds) : NatIs w B v n := by
  unfold NatIs
  rw [e]
  exact h

set_option maxRecDepth 100000 in
set_option maxHeartbeats 4000000 in
theorem timesPlus_any (B k m n : Nat) (va : Value) (w : World) (ha : NatIs w B va k) (hla : (lims 4294967296 k).length ≤ 100000) (hm0 : 0 < m) (hm : m < 4294967296) (hn : n < 4294967296) (hB : B ≤ w.heap.size) :
    Calls Tryd.prog 135 #[va, .int .u32 (m : Int), .int .u32 (n : Int)] w fun e w' => (∃ v, e = .returned v ∧ NatIs w' B v (k * m + n)) ∧ Below B w w' := by
  obtain ⟨i0, hi, hz0, hz1, hz2⟩ := info_parts Tryd.info75
  have HE := Lib.hid (ev_lims w32_ge k)
  have HS := Lib.hid (lims_lt w32_ge k)
  have HK := Lib.hid (rfl : lims 4294967296 k = lims 4294967296 k)
  rcases ha.2 with ⟨rfl, h0⟩ | ⟨g, cap, cur, rfl, hbg, hgc, -⟩
  · have hk0 : k = 0 := (lims_nil w32_ge).1 (List.eq_nil_of_length_eq_zero h0)
    subst hk0
    rw [Nat.zero_mul, Nat.zero_add]
    clear ha h0 hla HE HS HK
    by_cases hc : n = 0
    · subst hc
      go_enter Tryd.func135, Tryd.ntmps135
      go_wp2
      go_loop [8, 9, 10, 7, 15] (fun a b c d i => d = .int .u64 0 ∧ i = .int .i64 0) (fun _ _ _ _ _ => 0)
      case atStart => exact ⟨rfl, rfl⟩
      case round =>
        obtain ⟨rfl, rfl⟩ := hrel
        go_wp2
        go_ret
        exact ⟨⟨_, rfl, NatIs.of_row (ds := []) (World.ownsRow_nil _ _ _ _) (lims_zero _)⟩, Below.refl _ _⟩
    · have hci : (n : Int) > 0 := by omega
      have hcE : ((n : Int) == 0) = false := by simpa using hc
      have hln : lims 4294967296 n = [n] := by
        have := lims_carry (od := []) (k := 0) (m := 0) (n := n) (c := n) small_nil (by omega) hn (by simp [ev])
        simpa using this
      have HL := Lib.hid hln
      clear hln
      go_enter Tryd.func135, Tryd.ntmps135
      go_wp2
      go_loop [8, 9, 10, 7, 15] (fun a b c d i => d = .int .u64 (n : Int) ∧ i = .int .i64 0) (fun _ _ _ _ _ => 0)
      case atStart => exact ⟨rfl, rfl⟩
      case round =>
        obtain ⟨rfl, rfl⟩ := hrel
        go_wp2_with (at_builtin; refine wpList_append_own _ rfl _ _ 44 rfl B 75 i0 (.int .u32 0) 1 4 Tryd.underlying44 hi hz0 hz1 hz2 rfl (by decide) (.slice none 0 0) 0 [] rfl (World.ownsRow_nil _ _ _ _) ⟨w.heap.size, 0, none⟩ 1 1 [.int .u32 (n : Int)] rfl rfl (cell_one_new _ _ _) (by intro u hu; simp at hu; subst hu; rfl) (by unfold maxLen; omega) (by omega) (by simp; omega) ?_; intro v' w2 hown2 hgrow _; obtain ⟨ao', c', rfl⟩ := slice_of_own hown2)
        go_ret
        exact ⟨⟨_, rfl, NatIs.of_row (ds := [n]) hown2 HL.out⟩, ((Below.refl B w).alloc hB _).grown hgrow (by simp; omega) (fun q hq => by simp [Value.ownBlock] at hq)⟩
  · have hR : RowIs w B g cap (lims 4294967296 k) := ha
    clear ha
    revert HE HS HK hR hla
    generalize hds : lims 4294967296 k = ds
    intro hla HE HS HK hR
    have HDS := Lib.hid hds
    clear hds HK
    obtain ⟨la, hl⟩ : ∃ la, ds.length = la := ⟨_, rfl⟩
    rw [hl] at hla ⊢
    have Hl := Lib.hid hl
    clear hl
    go_enter Tryd.func135, Tryd.ntmps135
    go_wp2
    go_loopg [7, 15] la (fun gh v7 v15 wx => ∃ (j c : Nat) (od : List Nat), v7 = .int .u64 (c : Int) ∧ v15 = .int .i64 (j : Int) ∧ j + gh = la ∧ c < 4294967296 ∧ od.length = la ∧ Small od ∧ RowIs wx B g cap od ∧ od.drop j = ds.drop j ∧ ev 4294967296 (od.take j) + 4294967296 ^ j * c = m * ev 4294967296 (ds.take j) + n ∧ w.grownBy wx (some g))
    case atStart => exact ⟨0, n, ds, rfl, rfl, by omega, hn, Hl.out, HS.out, hR, rfl, by simp [ev], ⟨rfl, rfl, rfl, Nat.le_refl _, fun _ _ _ => rfl⟩⟩
    case round =>
      obtain ⟨j, c, od, rfl, rfl, hjg, hc, hod, hsm, hRx, hdr, he, hgr⟩ := hrel
      have Hod := Lib.hid hod
      have HSm := Lib.hid hsm
      have Hdr := Lib.hid hdr
      have He := Lib.hid he
      clear hod hsm hdr he
      by_cases hj : j < la
      · have hji : (j : Int) < (la : Int) := by omega
        have hjd : j < ds.length := by rw [Hl.out]; exact hj
        have hjo : j < od.length := by rw [Hod.out]; exact hj
        have hget : od[j] = ds[j] := by
          have h1 := congrArg (fun l => l[0]?) Hdr.out
          simp only [List.getElem?_drop, Nat.add_zero] at h1
          rw [List.getElem?_eq_getElem hjo, List.getElem?_eq_getElem hjd] at h1
          exact Option.some.inj h1
        obtain ⟨d, hd⟩ : ∃ d, ds[j] = d := ⟨_, rfl⟩
        have hcell := hRx.cell j hjo
        rw [hget, hd] at hcell
        have hfree := hRx.free j
        have hd2 : d < 4294967296 := by rw [← hd]; exact HS.out _ (List.getElem_mem _)
        have hstep := tp_step ds od j m n c d hjd (by rw [Hod.out, Hl.out]) hd He.out
        obtain ⟨hT, hq⟩ := word_mul d m c hd2 hm hc
        have hle : d * m ≤ d * m + c := Nat.le_add_right _ _
        have hmul : (d : Int) * (m : Int) = ((d * m : Nat) : Int) := (Int.natCast_mul _ _).symm
        obtain ⟨P, hP⟩ : ∃ P, d * m = P := ⟨_, rfl⟩
        rw [hP] at hT hq hle hmul hstep
        have hPadd : (P : Int) + (c : Int) = ((P + c : Nat) : Int) := (Int.natCast_add _ _).symm
        obtain ⟨T, hTe⟩ : ∃ T, P + c = T := ⟨_, rfl⟩
        rw [hTe] at hT hq hle hPadd hstep
        have hdi : (T : Int) / 4294967296 = ((T / 4294967296 : Nat) : Int) := by omega
        have hmi : (T : Int) % 4294967296 = ((T % 4294967296 : Nat) : Int) := by omega
        have hr := Nat.mod_lt T (show 0 < 4294967296 by decide)
        obtain ⟨q, hqe⟩ : ∃ q, T / 4294967296 = q := ⟨_, rfl⟩
        obtain ⟨r, hre⟩ : ∃ r, T % 4294967296 = r := ⟨_, rfl⟩
        rw [hqe] at hdi hq hstep
        rw [hre] at hmi hr hstep
        have HT := Lib.hid hstep
        have HP := Lib.hid (hRx.put j r)
        have HG := Lib.hid (grown_put hgr j (.int .u32 (r : Int)))
        have HD := Lib.hid (show (od.set j r).drop (j + 1) = ds.drop (j + 1) by
          rw [List.drop_set_of_lt (by omega), ← List.drop_drop, Hdr.out, List.drop_drop])
        clear hget hd hP hTe hqe hre hstep hRx hgr
        obtain ⟨gh, rfl⟩ : ∃ gh, gk = gh + 1 := ⟨gk - 1, by omega⟩
        go_wp2
        go_roundg gh
        case measure => omega
        case rel => exact ⟨j + 1, q, od.set j r, rfl, by go_num, by omega, hq, by rw [List.length_set]; exact Hod.out, small_set HSm.out j r hr, HP.out, HD.out, HT.out, HG.out⟩
      · obtain rfl : j = la := by omega
        have he := He.out
        have h1 : od.take j = od := List.take_of_length_le (by rw [Hod.out]; exact Nat.le_refl _)
        have h2 : ds.take j = ds := List.take_of_length_le (by rw [Hl.out]; exact Nat.le_refl _)
        rw [h1, h2, HE.out] at he
        have hrow := hRx.row
        rw [Hod.out] at hrow
        have hz := hgr.size
        have hbel : Below B w wr := (Below.refl B w).grown hgr hB (fun q hq => by cases hq; omega)
        have hod0 := Hod.out
        by_cases hc0 : c = 0
        · subst hc0
          rw [Nat.mul_zero, Nat.add_zero] at he
          have HL := Lib.hid (lims_keep HDS.out hm0 (by rw [Hod.out, Hl.out]) HSm.out he)
          clear he h1 h2 hod0
          go_wp2
          go_ret
          exact ⟨⟨_, rfl, NatIs.of_row (ds := od) (by rw [Hod.out]; exact hrow) HL.out⟩, hbel⟩
        · have hci : (c : Int) > 0 := by omega
          have hcE : ((c : Int) == 0) = false := by simpa using hc0
          rw [← Hod.out] at he
          have HL := Lib.hid (lims_carry HSm.out (by omega) hc he)
          clear he h1 h2 hod0
          go_wp2_with (at_builtin; refine wpList_append_own _ rfl _ _ 44 rfl B 75 i0 (.int .u32 0) 1 4 Tryd.underlying44 hi hz0 hz1 hz2 rfl (by decide) (.slice (some ⟨g, 0, none⟩) j cap) j _ rfl (hrow.alloc _) ⟨wr.heap.size, 0, none⟩ 1 1 [.int .u32 (c : Int)] rfl rfl (cell_one_new _ _ _) (by intro u hu; simp at hu; subst hu; rfl) (by unfold maxLen; omega) (by omega) (by simp; omega) ?_; intro v' w2 hown2 hgrow _; obtain ⟨ao', c', rfl⟩ := slice_of_own hown2)
          go_ret
          refine ⟨⟨_, rfl, NatIs.of_row (ds := od ++ [c]) ?_ HL.out⟩, (hbel.alloc (by omega) _).grown hgrow (by simp; omega) (fun q hq => by cases hq; omega)⟩
          rw [List.length_append, List.length_singleton, List.map_append, Hod.out]
          exact hown2
end Go.Proofs.YtmnibfdenmeepaaDoor
/- read of the program: the number that digits are. -/
namespace Go.Proofs.YtmnibfdenmeepaaDoor
open Go.RowKit Go.Shelf Big

theorem rdn_append (b : Nat) (l r : List UInt8) : rdn b (l ++ r) = rdn b l * b ^ r.length + rdn b r := by
  have h : ∀ (r : List UInt8) (a : Nat), r.foldl (fun a c => a * b + dg c) a = a * b ^ r.length + r.foldl (fun a c => a * b + dg c) 0 := by
    intro r
    induction r with
    | nil => intro a; simp
    | cons c r ih =>
      intro a
      simp only [List.foldl_cons, List.length_cons]
      rw [ih (a * b + dg c), ih (0 * b + dg c), Nat.pow_succ, Nat.add_mul, Nat.zero_mul, Nat.zero_add, Nat.mul_assoc, Nat.mul_comm b]
      omega
  unfold rdn
  rw [List.foldl_append, h r]
theorem rdn_lt {b : Nat} {l : List UInt8} (h : ∀ c ∈ l, dg c < b) : rdn b l < b ^ l.length := by
  rw [rdn_ev]
  have := ev_lt (B := b) (l := (l.map dg).reverse) (by intro d hd; simp only [List.mem_reverse, List.mem_map] at hd; obtain ⟨c, hc, rfl⟩ := hd; exact h c hc)
  simpa using this
theorem rdn_zero {b : Nat} (l : List UInt8) : rdn b (48 :: l) = rdn b l := by
  unfold rdn
  simp [dg]
/-- All are digits of a base. -/
def Okb (b : Nat) (l : List UInt8) : Prop := ∀ c ∈ l, dg c < b
theorem okb_drop {b : Nat} {l : List UInt8} (h : Okb b l) (k : Nat) : Okb b (l.drop k) := fun c hc => h c (List.mem_of_mem_drop hc)
theorem okb_take {b : Nat} {l : List UInt8} (h : Okb b l) (k : Nat) : Okb b (l.take k) := fun c hc => h c (List.mem_of_mem_take hc)
theorem empty_iff (n : ByteArray) : n.toList.isEmpty = true ↔ n.data.toList = [] := by rw [Lib.toList_data]; simp
theorem head_split (S : ByteArray) (h : 0 < S.size) : S.data.toList = S[0] :: S.data.toList.drop 1 := by
  have hl : 0 < S.data.toList.length := by rw [← Lib.size_eq]; exact h
  have h2 := List.drop_eq_getElem_cons hl
  rw [List.drop_zero] at h2
  exact h2
theorem size_pos {S : ByteArray} (hE : ¬ S.toList.isEmpty = true) : 0 < S.size := by
  rcases Nat.eq_zero_or_pos S.size with h | h
  · exact absurd ((empty_iff S).2 (List.eq_nil_of_length_eq_zero (by rw [← Lib.size_eq]; exact h))) hE
  · exact h
theorem take_snoc (s : ByteArray) (k : Nat) (h : k < s.size) : s.data.toList.take (k + 1) = s.data.toList.take k ++ [s[k]] := by
  rw [List.take_succ_eq_append_getElem (by rw [← Lib.size_eq]; exact h)]; rfl
theorem u8_eq (c : UInt8) (h : (c.toNat : Int) = 48) : c = 48 := UInt8.toNat_inj.1 (by have : (48 : UInt8).toNat = 48 := rfl; omega)
theorem lims_short {n k : Nat} (h : n < 4294967296 ^ k) (hk : k ≤ 100000) : (lims 4294967296 n).length ≤ 100000 := Nat.le_trans ((lims_len_le w32_ge n k).2 h) hk
theorem pow_short (b k : Nat) (hb : b ≤ 36) : b ^ k ≤ 4294967296 ^ k := Nat.pow_le_pow_left (by omega) k

set_option maxRecDepth 100000 in
set_option maxHeartbeats 8000000 in
theorem read_any (s : ByteArray) (b : Nat) (w : World) (hs : s.size ≤ 1000) (hb : 2 ≤ b) (hb2 : b ≤ 36) (hok : Okb b s.data.toList) :
    Calls Tryd.prog 121 #[.string s, .int .i64 (b : Int)] w fun e w' => (∃ v, e = .returned (.tuple #[v, .bool false]) ∧ NatIs w' w.heap.size v (rdn b s.data.toList)) ∧ Below w.heap.size w w' := by
  have HOK := Lib.hid hok
  clear hok
  go_enter Tryd.func121, Tryd.ntmps121
  go_upto_block 0 with fail
  go_cut [0] from 12 to 20 (fun v0 wx => w = wx ∧ ∃ S : ByteArray, v0 = .string S ∧ S.size ≤ 1000 ∧ rdn b S.data.toList = rdn b s.data.toList ∧ Okb b S.data.toList)
  case first =>
    go_wp2_with fail
    go_loopg [0] s.size (fun g v0 wx => w = wx ∧ ∃ S : ByteArray, v0 = .string S ∧ S.size = g ∧ g ≤ 1000 ∧ rdn b S.data.toList = rdn b s.data.toList ∧ Okb b S.data.toList)
    case atStart => exact ⟨rfl, s, rfl, rfl, hs, rfl, HOK.out⟩
    case round =>
      obtain ⟨rfl, S, rfl, hg, hg2, hR, hO⟩ := hrel
      have HR := Lib.hid hR
      have HO := Lib.hid hO
      have HG := Lib.hid hg
      have hSz : S.size ≤ 1000 := by omega
      clear hR hO hg
      by_cases hE : S.toList.isEmpty = true
      · go_wp2
        go_meet
        exact ⟨rfl, S, rfl, hSz, HR.out, HO.out⟩
      · have hp := size_pos hE
        have hE' : S.toList.isEmpty = false := by simpa using hE
        have hpI : (0 : Int) < (S.size : Int) := by omega
        have hp1 : (1 : Int) ≤ (S.size : Int) := by omega
        clear hE
        by_cases h48 : (S[0].toNat : Int) = 48
        · have HN := Lib.hid (show rdn b (S.extract 1 S.size).data.toList = rdn b s.data.toList ∧ Okb b (S.extract 1 S.size).data.toList by
            rw [Lib.extract_data, List.take_of_length_le (by rw [List.length_drop, ← Lib.size_eq]; exact Nat.le_refl _)]
            refine ⟨?_, okb_drop HO.out 1⟩
            rw [← HR.out]
            conv => rhs; rw [head_split S hp, u8_eq _ h48, rdn_zero])
          obtain ⟨g, rfl⟩ : ∃ g, gk = g + 1 := ⟨gk - 1, by have := HG.out; omega⟩
          go_wp2
          go_roundg g
          case measure => omega
          case rel => exact ⟨rfl, S.extract 1 S.size, rfl, by have := HG.out; simp; omega, by omega, HN.out.1, HN.out.2⟩
        · have h48E : ((S[0].toNat : Int) == 48) = false := by simpa using h48
          go_wp2
          go_meet
          exact ⟨rfl, S, rfl, hSz, HR.out, HO.out⟩
  case rest =>
    obtain ⟨rfl, S0, rfl, hS0, hR0, hO0⟩ := hcut
    have HR0 := Lib.hid hR0
    have HO0 := Lib.hid hO0
    clear hR0 hO0
    go_wp2_with (go_at_call 117; refine (chunk_any b _ hb hb2).mono ?_; rintro e w' ⟨⟨k, m, hk1, hk2, hk3, hm, rfl⟩, rfl⟩; have Hm := Lib.hid hm; clear hm)
    go_loopg [0, 4] S0.size (fun g v0 v4 wx => ∃ (S : ByteArray) (a : Nat), v0 = .string S ∧ S.size = g ∧ g ≤ 1000 ∧ NatIs wx w.heap.size v4 a ∧ a < b ^ (1000 - g) ∧ rdn b s.data.toList = a * b ^ S.size + rdn b S.data.toList ∧ Okb b S.data.toList ∧ Below w.heap.size w wx)
    case atStart =>
      refine ⟨S0, 0, rfl, rfl, hS0, ?_, Nat.pow_pos (by omega), by rw [HR0.out]; simp, HO0.out, Below.refl _ _⟩
      unfold NatIs
      rw [lims_zero]
      exact World.ownsRow_nil _ _ _ _
    case round =>
      obtain ⟨G, rfl⟩ : ∃ G, G = gk := ⟨_, rfl⟩
      obtain ⟨S, a, rfl, hg, hg2, hna, hab, hR, hO, hB⟩ := hrel
      have HR := Lib.hid hR
      have HO := Lib.hid hO
      have HG := Lib.hid hg
      have hSz : S.size ≤ 1000 := by omega
      have hz := hB.size
      obtain ⟨av, cv, rfl⟩ := hna.slice
      clear hR hO hg
      by_cases hE : S.toList.isEmpty = true
      · have HV := Lib.hid (show rdn b s.data.toList = a by
          have h1 := (empty_iff S).1 hE
          have h2 : S.size = 0 := by rw [Lib.size_eq, h1]; rfl
          rw [HR.out, h1, h2]
          simp [rdn])
        go_wp2
        go_ret2
        rw [HV.out]
        exact ⟨⟨_, rfl, hna⟩, hB⟩
      · have hp := size_pos hE
        have hE' : S.toList.isEmpty = false := by simpa using hE
        clear hE
        by_cases hmn : S.size < k
        case' pos => obtain ⟨n, hn1, hn2, hn3⟩ : ∃ n, n ≤ S.size ∧ n ≤ k ∧ S.size ≤ n := ⟨S.size, by omega, by omega, by omega⟩
        case' neg => obtain ⟨n, hn1, hn2, hn3⟩ : ∃ n, n ≤ S.size ∧ n ≤ k ∧ k ≤ n := ⟨k, by omega, by omega, by omega⟩
        all_goals
          go_wp2_with fail
          go_loopg [9, 10, 36] n (fun gh v9 v10 v36 wx => wr = wx ∧ ∃ i st p : Nat, v36 = .int .i64 (i : Int) ∧ i + gh = n ∧ v9 = .int .u32 (st : Int) ∧ v10 = .int .u32 (p : Int) ∧ b ^ i = st ∧ p = rdn b (S.data.toList.take i) ∧ st < 4294967296 ∧ p < st)
          case atStart => exact ⟨rfl, 0, 1, 0, rfl, by omega, rfl, rfl, rfl, rfl, by omega, by omega⟩
          case round =>
            obtain ⟨rfl, i, st, p, rfl, hig, rfl, rfl, hst, hp2, hst2, hpst⟩ := hrel
            have Hst := Lib.hid hst
            have Hp := Lib.hid hp2
            clear hst hp2
            by_cases hi : i < n
            · have hiS : i < S.size := by omega
              have t1 : (i : Int) < (S.size : Int) := by omega
              have t2 : (i : Int) < (k : Int) := by omega
              have hd := HO.out S[i] (by
                have := List.getElem_mem (l := S.data.toList) (n := i) (by rw [← Lib.size_eq]; exact hiS)
                exact this)
              have hpw : b ^ (i + 1) = st * b := by rw [Nat.pow_succ, Hst.out]
              have hle : b ^ (i + 1) ≤ b ^ k := Nat.pow_le_pow_right (by omega) (by omega)
              rw [Hm.out, hpw] at hle
              have hpb : p * b + b ≤ st * b := by
                have := Nat.mul_le_mul_right b (show p + 1 ≤ st from hpst)
                rw [Nat.add_mul, Nat.one_mul] at this
                exact this
              have htk := take_snoc S i hiS
              obtain ⟨c, hc⟩ : ∃ c, S[i] = c := ⟨_, rfl⟩
              rw [hc] at hd htk
              obtain ⟨d, hde⟩ : ∃ d, dg c = d := ⟨_, rfl⟩
              have hdig := fun W => digit_any c W
              rw [hde] at hd
              simp only [hde] at hdig
              have m1 : (st : Int) * (b : Int) = ((st * b : Nat) : Int) := (Int.natCast_mul _ _).symm
              have m2 : (p : Int) * (b : Int) = ((p * b : Nat) : Int) := (Int.natCast_mul _ _).symm
              have HP := Lib.hid (show p * b + d = rdn b (S.data.toList.take (i + 1)) by rw [htk, rdn_snoc, ← Hp.out, hde])
              have HC := Lib.hid hc
              obtain ⟨Q, hQ⟩ : ∃ Q, st * b = Q := ⟨_, rfl⟩
              obtain ⟨R, hR⟩ : ∃ R, p * b = R := ⟨_, rfl⟩
              rw [hQ] at m1 hle hpb hpw
              rw [hR] at m2 hpb HP
              have HW := Lib.hid hpw
              have HD := Lib.hid hdig
              clear hQ hR hpw hde hc htk hdig
              obtain ⟨gh, rfl⟩ : ∃ gh, gk = gh + 1 := ⟨gk - 1, by omega⟩
              go_wp2_with (go_at_call 120; rw [HC.out]; refine (HD.out _).mono ?_; rintro e w' ⟨rfl, rfl⟩)
              go_roundg gh
              case measure => omega
              case rel => exact ⟨rfl, i + 1, Q, R + d, by go_num, by omega, rfl, by first | rfl | go_num, HW.out, HP.out, by omega, by omega⟩
            · obtain rfl : i = n := by omega
              have hstp : 0 < st := by omega
              have hlen : (lims 4294967296 a).length ≤ 100000 := lims_short (k := 1000 - G) (Nat.lt_of_lt_of_le hab (pow_short b _ hb2)) (by omega)
              have htp := timesPlus_any w.heap.size a st p _ wr hna hlen hstp hst2 (by omega) hz
              have hin : 0 < i := by omega
              have HN := Lib.hid (show ∀ X : ByteArray, X = S.extract i S.size → X.size = G - i ∧ rdn b s.data.toList = (a * st + p) * b ^ X.size + rdn b X.data.toList ∧ Okb b X.data.toList by
                rintro X rfl
                obtain ⟨x, rfl⟩ : ∃ x, x = i := ⟨_, rfl⟩
                have hsz : (S.extract x S.size).size = G - x := by have := HG.out; simp; omega
                have hda : (S.extract x S.size).data.toList = S.data.toList.drop x := by
                  rw [Lib.extract_data, List.take_of_length_le (by rw [List.length_drop, ← Lib.size_eq]; exact Nat.le_refl _)]
                refine ⟨hsz, ?_, by rw [hda]; exact okb_drop HO.out x⟩
                rw [hsz, hda, HR.out, Hp.out]
                have h1 : rdn b S.data.toList = rdn b (S.data.toList.take x) * b ^ (S.data.toList.drop x).length + rdn b (S.data.toList.drop x) := by
                  conv => lhs; rw [← List.take_append_drop x S.data.toList]
                  exact rdn_append _ _ _
                have h2 : (S.data.toList.drop x).length = G - x := by rw [List.length_drop, ← Lib.size_eq, HG.out]
                rw [h1, h2, HG.out, show G = x + (G - x) by have := HG.out; omega, Nat.pow_add, Hst.out, show x + (G - x) - x = G - x by omega, Nat.add_mul, Nat.mul_assoc]
                omega)
              have hX : ByteArray.empty = S.extract S.size S.size := by simp
              have HX := Lib.hid hX
              have HGi := Lib.hid (show G - i < G by have := HG.out; omega)
              clear hX
              have hlt : a * st + p < b ^ (1000 - (G - i)) := by
                have h1 : 1000 - (G - i) = (1000 - G) + i := by have := HG.out; omega
                rw [h1, Nat.pow_add, Hst.out]
                have h2 : (a + 1) * st ≤ b ^ (1000 - G) * st := Nat.mul_le_mul_right _ hab
                rw [Nat.add_mul, Nat.one_mul] at h2
                omega
              obtain ⟨A, hA⟩ : ∃ A, a * st + p = A := ⟨_, rfl⟩
              rw [hA] at htp HN hlt
              clear hA hna Hst Hp
              go_wp2_with (go_at_call 135; refine htp.mono ?_; rintro e w5 ⟨⟨v5, rfl, hn5⟩, hb5⟩; obtain ⟨a5, c5, rfl⟩ := hn5.slice)
              go_roundg (G - i)
              case measure => exact HGi.out
              case rel =>
                have HM := HN.out _ (show _ = S.extract i S.size by first | exact HX.out.trans (by rw [show i = S.size by omega]) | exact (show S.extract k S.size = S.extract i S.size by rw [show i = k by omega]))
                exact ⟨_, A, rfl, HM.1, by omega, hn5, hlt, HM.2.1, HM.2.2, hB.trans hb5⟩
end Go.Proofs.YtmnibfdenmeepaaDoor
