/- The texts Words OfWords, one behind the other. -/
import Derived.Test.YtmnibfdenmeepaaDoorMgBigTimes12
import Derived.Laws.CopyOwn
/- words of the program. -/
namespace Go.Proofs.YtmnibfdenmeepaaDoor
open Go.RowKit Go.Shelf Big

theorem umake_any (n : Nat) (hn : n ≤ 1000000) (W : World) :
    (Instr.makeSlice 43 (.int .i64 (n : Int)) (.int .i64 (n : Int))).run Tryd.prog W = .ok (.slice (some ⟨W.heap.size, 0, none⟩) n n) (W.alloc (.cells (noughts n) 75)) := by
  obtain ⟨i0, hi, hz0, hz1, hz2⟩ := info_parts Tryd.info75
  have := run_make (P := Tryd.prog) W 43 75 i0 (.int .u32 0) Tryd.underlying43 hi hz0 .i64 .i64 (n : Int) (n : Int) (by omega) (by omega) (by rw [hz2]; omega) (by omega)
  rw [hz1] at this
  simpa [noughts, Value.cells] using this
theorem size32 : (Tryd.prog.info? 75).map (·.size) = some 1 := by kernel_rfl
theorem noughts_eq (n : Nat) : noughts n = ((List.replicate n 0).map u32v).toArray := by
  rw [← noughts_list]
theorem splice_pad (m n : Nat) : splice ((List.replicate n 0).map u32v) 0 ((lims 4294967296 m).map u32v) = (pad m n).map u32v := by
  unfold splice pad
  rw [List.map_append, List.take_zero, List.nil_append, Nat.zero_add, List.length_map, ← List.map_drop, List.drop_replicate]
theorem row_of {w : World} {B g n : Nat} {ds : List Nat} (hl : ds.length = n) (hB : B ≤ g) (hn : n ≤ 1000000) (h : w.heap[g]? = some (.cells (ds.map u32v).toArray 75 (0, 0))) : RowIs w B g n ds := by
  unfold RowIs
  rw [hl]
  refine ⟨by rw [List.length_map]; omega, .inr ⟨g, n, _, rfl, hB, h, Nat.le_refl _, by unfold maxLen; omega, by simp; omega, ?_⟩⟩
  rw [List.take_of_length_le (by simp; omega)]
/-- copy into a row from its beginning on. -/
theorem run_copy_all {w : World} {g dLen dCap sLen sCap : Nat} {sp : Option Addr} {cur cs : List Value} (hg : w.heap[g]? = some (.cells cur.toArray 75 (0, 0))) (hn : cs.length = Nat.min sLen dLen)
    (hpos : 0 < cs.length → ∃ ad, sp = some ad ∧ ∀ j v, cs[j]? = some v → w.cell? (ad.add j) = some v) (hfit : cs.length ≤ cur.length) (h1 : ∀ v ∈ cs, v.oneCell' = true) :
    ∃ w', (Builtin.copy_ #[43, 44] 3 #[.slice (some ⟨g, 0, none⟩) dLen dCap, .slice sp sLen sCap]).run Tryd.prog w = .ok (goInt cs.length) w' ∧ w'.heap[g]? = some (.cells (splice cur 0 cs).toArray 75 (0, 0)) ∧ Below g w w' := by
  by_cases h0 : cs.length = 0
  · obtain rfl : cs = [] := List.eq_nil_of_length_eq_zero h0
    refine ⟨w, run_copy_none (P := Tryd.prog) w 43 44 3 75 (some ⟨g, 0, none⟩) sp dLen dCap sLen sCap Tryd.underlying43 size32 (by simpa using hn.symm), ?_, Below.refl _ _⟩
    simpa [splice] using hg
  · obtain ⟨ad, rfl, hc⟩ := hpos (by omega)
    refine ⟨_, run_copy_row (P := Tryd.prog) w 43 44 3 75 g 0 dLen dCap ad sLen sCap cur.toArray 75 cs Tryd.underlying43 size32 hg hn hc (by simpa using hfit) h1, ?_, below_setRow (Below.refl _ _) (Nat.le_refl _) _⟩
    rw [setRow_heap w g cur.toArray _ 75 (0, 0) hg]
    simp [splice]
/-- What words answers. -/
def WordsRes (B n : Nat) (ds : List Nat) (w' : World) (e : Ending) : Prop := ∃ g, e = .returned (.slice (some ⟨g, 0, none⟩) n n) ∧ ds.length = n ∧ RowIs w' B g n ds

set_option maxRecDepth 100000 in
set_option maxHeartbeats 4000000 in
theorem words_pos (B m n : Nat) (va : Value) (l o : Bool) (w : World) (ha : NatIs w B va m) (hm : (lims 4294967296 m).length < n) (hn : n ≤ 1000) :
    Calls Tryd.prog 126 #[.agg #[.bool false, va, .bool l, .bool o], .int .i64 (n : Int)] w fun e w' => WordsRes w.heap.size n (pad m n) w' e ∧ Below w.heap.size w w' := by
  obtain ⟨av, ca, rfl⟩ := ha.slice
  have hmk := umake_any n (by omega)
  obtain ⟨W2, hW2⟩ : ∃ W2, (w.alloc (.cells #[.bool false, .slice av (lims 4294967296 m).length ca, .bool l, .bool o] 46)).alloc (.cells (noughts n) 75) = W2 := ⟨_, rfl⟩
  have hA2 : NatIs W2 B (.slice av (lims 4294967296 m).length ca) m := by rw [← hW2]; exact (ha.alloc _).alloc _
  have hg2 : W2.heap[w.heap.size + 1]? = some (.cells ((List.replicate n 0).map u32v).toArray 75 (0, 0)) := by
    rw [← hW2, ← noughts_eq]
    have h := Has.new' (w := w.alloc (.cells #[.bool false, .slice av (lims 4294967296 m).length ca, .bool l, .bool o] 46)) (n := w.heap.size + 1) (by simp) 75 (noughts n)
    exact h
  have hB2 : Below w.heap.size w W2 := by rw [← hW2]; exact ((Below.refl _ w).alloc (Nat.le_refl _) _).alloc (by simp) _
  have hX2 : Has W2 w.heap.size 46 #[.bool false, .slice av (lims 4294967296 m).length ca, .bool l, .bool o] := by rw [← hW2]; exact (Has.new w _ _).alloc _
  obtain ⟨x0, x1, -⟩ := hX2.four
  clear hX2
  have hpos : 0 < ((lims 4294967296 m).map u32v).length → ∃ ad, av = some ad ∧ ∀ j v, ((lims 4294967296 m).map u32v)[j]? = some v → W2.cell? (ad.add j) = some v := by
    intro h0
    rcases hA2.2 with ⟨e, hz⟩ | ⟨g, cap, cur, e, h1, h2, -⟩
    · rw [List.length_map] at h0; omega
    · cases e
      refine ⟨⟨g, 0, none⟩, rfl, fun j v hj => ?_⟩
      have hj' : j < (lims 4294967296 m).length := by
        rcases Nat.lt_or_ge j (lims 4294967296 m).length with h | h
        · exact h
        · rw [List.getElem?_eq_none (by simpa using h)] at hj; cases hj
      have h3 := World.ownsRow.cellAt hA2 j (by omega)
      rw [hj] at h3
      have e : (⟨g, 0, none⟩ : Addr).add j = ⟨g, j, none⟩ := by cases j <;> simp [Addr.add]
      rw [e]
      simpa using h3
  have hone : ∀ u ∈ (lims 4294967296 m).map u32v, u.oneCell' = true := by
    intro u hu
    obtain ⟨y, _, rfl⟩ := List.mem_map.1 hu
    rfl
  have HSp := Lib.hid (splice_pad m n)
  have HPL := Lib.hid (pad_len (m := m) (n := n) (by omega))
  obtain ⟨cs, hcs⟩ : ∃ cs, (lims 4294967296 m).map u32v = cs := ⟨_, rfl⟩
  obtain ⟨cur, hcur⟩ : ∃ cur, (List.replicate n 0).map u32v = cur := ⟨_, rfl⟩
  have hcl : cs.length = (lims 4294967296 m).length := by rw [← hcs, List.length_map]
  have hcul : cur.length = n := by rw [← hcur, List.length_map, List.length_replicate]
  rw [hcs] at hpos hone HSp
  rw [hcur] at hg2 HSp
  generalize (lims 4294967296 m).length = lv at *
  clear ha hA2 hcs hcur
  have hnm : cs.length = Nat.min lv n := by rw [hcl]; exact (Nat.min_eq_left (Nat.le_of_lt hm)).symm
  have hfit : 0 + cs.length ≤ cur.length := by omega
  have hBg : w.heap.size ≤ w.heap.size + 1 := by omega
  have HK := Lib.hid (And.intro hnm (And.intro hfit (And.intro hcl hcul)))
  have HG2 := Lib.hid hg2
  have HBB := Lib.hid hB2
  have HP := Lib.hid hpos
  have HO := Lib.hid hone
  clear hone
  clear hnm hfit hcl hcul hpos
  go_enter Tryd.func126, Tryd.ntmps126
  go_wp2_with (refine wpList_copy_splice rfl _ _ 43 44 rfl 75 Tryd.underlying43 size32 (some ⟨w.heap.size + 1, 0, none⟩) av n n lv ca rfl rfl (w.heap.size + 1) 0 cur 75 HG2.out cs HK.out.1 (fun h0 => ⟨rfl, HP.out h0⟩) HK.out.2.1 HO.out w.heap.size w HBB.out hBg ?_; intro w3 hg3 hb3)
  go_wp2
  go_ret
  refine ⟨⟨w.heap.size + 1, rfl, HPL.out, row_of HPL.out (by omega) (by omega) ?_⟩, hb3⟩
  have h := hg3.out
  rw [HSp.out] at h
  exact h

/-- The first i words complemented. -/
def mix (P : List Nat) (i : Nat) : List Nat := (P.take i).map compl ++ P.drop i
theorem mix_len (P : List Nat) (i : Nat) (h : i ≤ P.length) : (mix P i).length = P.length := by
  unfold mix
  rw [List.length_append, List.length_map, List.length_take, List.length_drop]
  omega
theorem mix_get (P : List Nat) (i : Nat) (h : i < P.length) (h' : i < (mix P i).length) : (mix P i)[i] = P[i] := by
  have e : (mix P i)[i]? = P[i]? := by
    show ((P.take i).map compl ++ P.drop i)[i]? = _
    have hl : ((P.take i).map compl).length = i := by rw [List.length_map, List.length_take]; omega
    rw [List.getElem?_append_right (by omega), hl, Nat.sub_self, List.getElem?_drop, Nat.add_zero]
  rw [List.getElem?_eq_getElem h, List.getElem?_eq_getElem h'] at e
  exact Option.some.inj e
theorem mix_set (P : List Nat) (i : Nat) (h : i < P.length) : (mix P i).set i (compl P[i]) = mix P (i + 1) := by
  unfold mix
  rw [List.set_append_right _ _ (by simp; omega)]
  simp only [List.length_map, List.length_take, Nat.min_eq_left (Nat.le_of_lt h), Nat.sub_self]
  rw [List.drop_eq_getElem_cons h, List.set_cons_zero, List.take_succ_eq_append_getElem h, List.map_append, List.append_assoc]
  rfl
theorem mix_zero (P : List Nat) : mix P 0 = P := by simp [mix]
theorem mix_all (P : List Nat) : mix P P.length = P.map compl := by simp [mix]

set_option maxRecDepth 100000 in
set_option maxHeartbeats 4000000 in
theorem words_neg (B m n : Nat) (va : Value) (l o : Bool) (w : World) (ha : NatIs w B va m) (h0 : 0 < m) (hm : (lims 4294967296 m).length < n) (hn : n ≤ 1000) :
    Calls Tryd.prog 126 #[.agg #[.bool true, va, .bool l, .bool o], .int .i64 (n : Int)] w fun e w' => WordsRes w.heap.size n ((pad (m - 1) n).map compl) w' e ∧ Below w.heap.size w w' := by
  obtain ⟨av, ca, rfl⟩ := ha.slice
  have hmk := umake_any n (by omega)
  obtain ⟨W2, hW2⟩ : ∃ W2, (w.alloc (.cells #[.bool true, .slice av (lims 4294967296 m).length ca, .bool l, .bool o] 46)).alloc (.cells (noughts n) 75) = W2 := ⟨_, rfl⟩
  have hA2 : NatIs W2 B (.slice av (lims 4294967296 m).length ca) m := by rw [← hW2]; exact (ha.alloc _).alloc _
  have hg2 : Has W2 (w.heap.size + 1) 75 ((List.replicate n 0).map u32v).toArray := by
    rw [← hW2, ← noughts_eq]
    exact Has.new' (by simp) 75 (noughts n)
  have hB2 : Below w.heap.size w W2 := by rw [← hW2]; exact ((Below.refl _ w).alloc (Nat.le_refl _) _).alloc (by simp) _
  have hX2 : Has W2 w.heap.size 46 #[.bool true, .slice av (lims 4294967296 m).length ca, .bool l, .bool o] := by rw [← hW2]; exact (Has.new w _ _).alloc _
  have hz2 : W2.heap.size = w.heap.size + 2 := by rw [← hW2]; simp
  have HNot := Lib.hid (numNot_any B m _ true l o W2 hA2 (by omega))
  obtain ⟨x0, x1, x2, x3, -⟩ := hX2.four
  have hpl := lims_pred (m := m)
  have HSp := Lib.hid (splice_pad (m - 1) n)
  have HPL := Lib.hid (pad_len (m := m - 1) (n := n) (by omega))
  have HPS := Lib.hid (pad_small (m - 1) n)
  generalize (lims 4294967296 m).length = lv at *
  obtain ⟨cur, hcur⟩ : ∃ cur, (List.replicate n 0).map u32v = cur := ⟨_, rfl⟩
  have hcul : cur.length = n := by rw [← hcur, List.length_map, List.length_replicate]
  rw [hcur] at hg2 HSp
  have HG2 := Lib.hid hg2
  have HB2 := Lib.hid hB2
  have HCU := Lib.hid hcul
  clear ha hA2 hcur hX2 hg2 hB2 hcul
  go_enter Tryd.func126, Tryd.ntmps126
  go_wp2_with fail
  refine HNot.out.mono ?_
  rintro e w3 ⟨⟨r, k, ⟨v, rfl, hn3⟩, hsg⟩, hb3⟩
  have hk : k = m - 1 := by
    unfold sgI at hsg
    cases r <;> simp at hsg <;> omega
  subst hk
  obtain ⟨v9, c9, rfl⟩ := hn3.slice
  have hg3 := HG2.out.below hb3
  have hB3 := HB2.out.trans (hb3.mono (show w.heap.size ≤ W2.heap.size by omega))
  have hcopy : 0 < ((lims 4294967296 (m - 1)).map u32v).length → ∃ ad, v9 = some ad ∧ ∀ j v, ((lims 4294967296 (m - 1)).map u32v)[j]? = some v → w3.cell? (ad.add j) = some v := by
    intro h0
    rcases hn3.2 with ⟨e, hz⟩ | ⟨g, cap, cur, e, h1, h2, -⟩
    · rw [List.length_map] at h0; omega
    · cases e
      refine ⟨⟨g, 0, none⟩, rfl, fun j v hj => ?_⟩
      have hj' : j < (lims 4294967296 (m - 1)).length := by
        rcases Nat.lt_or_ge j (lims 4294967296 (m - 1)).length with h | h
        · exact h
        · rw [List.getElem?_eq_none (by simpa using h)] at hj; cases hj
      have h3 := World.ownsRow.cellAt hn3 j (by omega)
      rw [hj] at h3
      have e : (⟨g, 0, none⟩ : Addr).add j = ⟨g, j, none⟩ := by cases j <;> simp [Addr.add]
      rw [e]
      simpa using h3
  have hone : ∀ u ∈ (lims 4294967296 (m - 1)).map u32v, u.oneCell' = true := by
    intro u hu
    obtain ⟨y, _, rfl⟩ := List.mem_map.1 hu
    rfl
  obtain ⟨cs, hcs⟩ : ∃ cs, (lims 4294967296 (m - 1)).map u32v = cs := ⟨_, rfl⟩
  have hcl : cs.length = (lims 4294967296 (m - 1)).length := by rw [← hcs, List.length_map]
  rw [hcs] at hcopy hone HSp
  generalize (lims 4294967296 (m - 1)).length = lk at *
  have hnm : cs.length = Nat.min lk n := by rw [hcl]; exact (Nat.min_eq_left (by omega)).symm
  have hfit : 0 + cs.length ≤ cur.length := by have := HCU.out; omega
  have hg3' : w3.heap[w.heap.size + 1]? = some (.cells cur.toArray 75 (0, 0)) := hg3
  have hfd : ∀ W : World, (Instr.field 46 (.agg #[.bool r, .slice v9 lk c9, .bool false, .bool false]) 1).run Tryd.prog W = .ok (.slice v9 lk c9) W := fun _ => by kernel_rfl
  obtain ⟨w4, hcp, hg4, hb4'⟩ := run_copy_all (dLen := n) (dCap := n) (sLen := lk) (sCap := c9) hg3' hnm hcopy (by omega) hone
  have hb4 := hB3.trans (hb4'.mono (show w.heap.size ≤ w.heap.size + 1 by omega))
  have HG4 := Lib.hid hg4
  have HB4 := Lib.hid hb4
  clear hnm hfit hcopy hone hg3 hB3 hcs hcl hn3 hb3 hsg hg3' hg4 hb4 hb4'
  go_wp2_with fail
  have hb4 := HB4.out
  clear hcp
  have hrow : RowIs w4 w.heap.size (w.heap.size + 1) n (pad (m - 1) n) := row_of HPL.out (by omega) (by omega) (by
    have h := HG4.out
    rw [HSp.out] at h
    exact h)
  go_loopg [24] n (fun gh v wx => ∃ i : Nat, v = .int .i64 (i : Int) ∧ i + gh = n ∧ RowIs wx w.heap.size (w.heap.size + 1) n (mix (pad (m - 1) n) i) ∧ Below w.heap.size w wx)
  case atStart => exact ⟨0, rfl, by omega, by rw [mix_zero]; exact hrow, hb4⟩
  case round =>
    obtain ⟨i, rfl, hik, hR, hB⟩ := hrel
    by_cases hi : i < n
    · have hiP : i < (pad (m - 1) n).length := by rw [HPL.out]; exact hi
      have hml := mix_len (pad (m - 1) n) i (by omega)
      have hc := hR.cell i (by omega)
      rw [mix_get _ i hiP] at hc
      have hf := hR.free i
      have hd : (pad (m - 1) n)[i] < 4294967296 := HPS.out _ (List.getElem_mem hiP)
      have hnx := hR.put i (compl (pad (m - 1) n)[i])
      rw [mix_set _ i hiP] at hnx
      generalize (pad (m - 1) n)[i] = d at hc hd hnx
      have hx := bits_compl d hd
      have hi1 : (i : Int) < (n : Int) := by omega
      have hi0 : (0 : Int) ≤ (i : Int) := by omega
      have HNX := Lib.hid hnx
      have HB := Lib.hid (hB.setCell (p := ⟨w.heap.size + 1, i, none⟩) (Nat.le_succ _) (.int .u32 (compl d : Int)))
      obtain ⟨G, rfl⟩ : ∃ G, gk = G + 1 := ⟨gk - 1, by omega⟩
      clear hrow hnx hB hR hml hiP
      go_wp2
      go_roundg G
      case measure => omega
      case rel => exact ⟨i + 1, by go_num, by omega, HNX.out, HB.out⟩
    · obtain rfl : i = n := by omega
      have hi1 : ¬ (i : Int) < (i : Int) := by omega
      have HL := Lib.hid (show ((pad (m - 1) i).map compl).length = i by rw [List.length_map]; exact HPL.out)
      have h1 : mix (pad (m - 1) i) i = (pad (m - 1) i).map compl := by
        have h2 := mix_all (pad (m - 1) i)
        rw [HPL.out] at h2
        exact h2
      rw [h1] at hR
      clear hrow h1
      go_wp2
      go_ret
      exact ⟨⟨w.heap.size + 1, rfl, HL.out, hR⟩, hB⟩
theorem words_any (B n : Nat) (z : Int) (va : Value) (l o : Bool) (w : World) (ha : NatIs w B va z.natAbs) (hm : (lims 4294967296 z.natAbs).length < n) (hn : n ≤ 1000) :
    Calls Tryd.prog 126 #[.agg #[.bool (decide (z < 0)), va, .bool l, .bool o], .int .i64 (n : Int)] w fun e w' => WordsRes w.heap.size n (tw z n) w' e ∧ Below w.heap.size w w' := by
  unfold tw
  by_cases h : z < 0
  · rw [decide_eq_true h, if_pos h]
    exact words_neg B _ n va l o w ha (by omega) hm hn
  · rw [decide_eq_false h, if_neg h]
    exact words_pos B _ n va l o w ha hm hn
end Go.Proofs.YtmnibfdenmeepaaDoor
/- ofWords of the program. -/
namespace Go.Proofs.YtmnibfdenmeepaaDoor
open Go.RowKit Go.Shelf Big

theorem top_get {ds : List Nat} {n : Nat} (hl : ds.length = n + 1) (h : n < ds.length) : top ds = decide (2147483648 ≤ ds[n]) := by
  unfold top
  rw [List.getLast?_eq_getElem?, hl, Nat.add_sub_cancel, List.getElem?_eq_getElem h]
set_option maxRecDepth 100000 in
set_option maxHeartbeats 4000000 in
theorem ofWords_neg (B g n : Nat) (ds : List Nat) (w : World) (h : RowIs w B g (n + 1) ds) (hl : ds.length = n + 1) (hs : Small ds) (hn : n ≤ 1000) (hB : B ≤ w.heap.size) (ht' : top ds = true) :
    Calls Tryd.prog 124 #[.slice (some ⟨g, 0, none⟩) (n + 1) (n + 1)] w fun e w' => (∃ r k, NumIs B r k w' e ∧ sgI r k = val ds) ∧ Below B w w' := by
  have hBg := (World.ownsRow.lt h.row g rfl)
  have hnl : n < ds.length := by omega
  obtain ⟨d, hd⟩ : ∃ d, ds[n] = d := ⟨_, rfl⟩
  have hd2 : d < 4294967296 := by rw [← hd]; exact hs _ (List.getElem_mem hnl)
  have htop := top_get hl hnl
  rw [hd] at htop
  obtain ⟨W1, hW1⟩ : ∃ W1, w.alloc (.cells #[.bool false, .slice none 0 0, .bool false, .bool false] 46) = W1 := ⟨_, rfl⟩
  have hR1 : RowIs W1 B g (n + 1) ds := by rw [← hW1]; exact World.ownsRow.alloc h _
  have hX1 : Has W1 w.heap.size 46 #[.bool false, .slice none 0 0, .bool false, .bool false] := by rw [← hW1]; exact Has.new _ _ _
  have hB1 : Below B w W1 := by rw [← hW1]; exact (Below.refl _ w).alloc hB _
  have hz1 : W1.heap.size = w.heap.size + 1 := by rw [← hW1]; simp
  have hc := hR1.cell n hnl
  rw [hd] at hc
  have HR1 := Lib.hid hR1
  have HX1 := Lib.hid hX1
  have HB1 := Lib.hid hB1
  have HS := Lib.hid hs
  have HL := Lib.hid hl
  have hi1 : ((n + 1 : Nat) : Int) - 1 = (n : Int) := by omega
  have hi2 : (0 : Int) ≤ (n : Int) := by omega
  have hi3 : (n : Int) < ((n + 1 : Nat) : Int) := by omega
  obtain ⟨q0, q1, q2, q3, q4, q5, q6, q7⟩ := hX1.four
  clear hR1 hX1 hB1 h hs hd hnl hl
  have ht : 2147483648 ≤ d := of_decide_eq_true (htop.symm.trans ht')
  have hsh : (d : Int) / 2147483648 = 1 := by omega
  have HV := Lib.hid (show val ds = (ev 4294967296 ds : Int) - (4294967296 ^ (n + 1) : Nat) by unfold val; rw [ht', if_pos rfl, HL.out])
  have HCE := Lib.hid (by have := compl_ev HS.out; rw [HL.out] at this; exact this : ev 4294967296 (ds.map compl) + ev 4294967296 ds + 1 = 4294967296 ^ (n + 1))
  clear htop ht ht'
  go_enter Tryd.func124, Tryd.ntmps124
  go_wp2_with fail
  go_loopg [17] (n + 1) (fun gh v wx => ∃ i : Nat, v = .int .i64 (i : Int) ∧ i + gh = n + 1 ∧ RowIs wx B g (n + 1) (mix ds i) ∧ Has wx w.heap.size 46 #[.bool false, .slice none 0 0, .bool false, .bool false] ∧ Below B w wx)
  case atStart => exact ⟨0, rfl, by omega, by rw [mix_zero]; exact HR1.out, HX1.out, HB1.out⟩
  case round =>
    obtain ⟨i, rfl, hik, hR, hX, hB⟩ := hrel
    by_cases hi : i < n + 1
    · have hiP : i < ds.length := by rw [HL.out]; exact hi
      have hml := mix_len ds i (by omega)
      have hc2 := hR.cell i (by omega)
      rw [mix_get _ i hiP] at hc2
      have hf := hR.free i
      have hdi : ds[i] < 4294967296 := HS.out _ (List.getElem_mem hiP)
      have hnx := hR.put i (compl ds[i])
      rw [mix_set _ i hiP] at hnx
      generalize ds[i] = di at hc2 hdi hnx
      have hx := bits_compl di hdi
      have hi4 : (i : Int) < ((n + 1 : Nat) : Int) := by omega
      have hi5 : (0 : Int) ≤ (i : Int) := by omega
      have HNX := Lib.hid hnx
      have HXX := Lib.hid (hX.far (p := ⟨g, i, none⟩) (by show w.heap.size ≠ g; omega) (.int .u32 (compl di : Int)))
      have HBX := Lib.hid (hB.setCell (p := ⟨g, i, none⟩) hBg.1 (.int .u32 (compl di : Int)))
      obtain ⟨G, rfl⟩ : ∃ G, gk = G + 1 := ⟨gk - 1, by omega⟩
      clear hnx hX hB hR hml hiP hc q0 q1 q2 q3 q4 q5 q6 q7
      go_wp2
      go_roundg G
      case measure => omega
      case rel => exact ⟨i + 1, by go_num, by omega, HNX.out, HXX.out, HBX.out⟩
    · obtain rfl : i = n + 1 := by omega
      have hi4 : ¬ ((n + 1 : Nat) : Int) < ((n + 1 : Nat) : Int) := by omega
      have h1 : mix ds (n + 1) = ds.map compl := by
        have h2 := mix_all ds
        rw [HL.out] at h2
        exact h2
      rw [h1] at hR
      have hrow := hR.row
      have hlm : (ds.map compl).length = n + 1 := by rw [List.length_map]; exact HL.out
      have hcut := cut_any B _ (ds.map compl) wr hrow (compl_small HS.out) (by omega)
      rw [hlm] at hcut
      have HCut := Lib.hid hcut
      have HX := Lib.hid hX
      have HBb := Lib.hid hB
      have hzr := hX.lt
      clear hcut hrow hR hX hB h1 hlm hc q0 q1 q2 q3 q4 q5 q6 q7
      go_wp2_with fail
      refine HCut.out.mono ?_
      rintro e w2 ⟨⟨v', rfl, hnat⟩, rfl⟩
      have HNot := Lib.hid (numNot_any B _ v' false false false wr hnat (by
        have h1 : ev 4294967296 (ds.map compl) < 4294967296 ^ (n + 1) := by have := HCE.out; omega
        have := (lims_len_le w32_ge _ _).2 h1
        omega))
      obtain ⟨a9, c9, rfl⟩ := hnat.slice
      clear hnat
      generalize (lims 4294967296 (ev 4294967296 (ds.map compl))).length = l9 at HNot ⊢
      go_wp2_with fail
      refine HNot.out.mono ?_
      rintro e w3 ⟨⟨r, k, ⟨v3, rfl, hn3⟩, hsg⟩, hb3⟩
      obtain ⟨p0, p1, p2, p3, p4, p5, p6, p7⟩ := (HX.out.below hb3).four
      obtain ⟨a8, c8, rfl⟩ := hn3.slice
      have HSG := Lib.hid hsg
      have HB3 := Lib.hid (HBb.out.trans (hb3.mono (show B ≤ wr.heap.size by omega)))
      have HN3 := Lib.hid hn3
      clear hsg hb3 hn3
      go_wp2
      refine bodyPost_ret (v := .agg #[.bool r, .slice a8 _ c8, .bool false, .bool false]) (by simp [results, Tryd.results124, go_sem, World.cell?_setCell_same', p0, p1, p2, p3]) rfl ⟨⟨r, k, ⟨_, rfl, NatIs.mono (HN3.out.apart4 (HN3.out.new (by omega)) _ _ _ _) (by omega)⟩, ?_⟩, Below.four HB3.out (by omega) _ _ _ _⟩
      rw [HSG.out, HV.out]
      have h1 := HCE.out
      unfold sgI
      generalize 4294967296 ^ (n + 1) = P at h1 ⊢
      simp only [Bool.false_eq_true, if_false]
      omega
set_option maxRecDepth 100000 in
set_option maxHeartbeats 4000000 in
theorem ofWords_pos (B g n : Nat) (ds : List Nat) (w : World) (h : RowIs w B g (n + 1) ds) (hl : ds.length = n + 1) (hs : Small ds) (hn : n ≤ 1000) (hB : B ≤ w.heap.size) (ht' : top ds = false) :
    Calls Tryd.prog 124 #[.slice (some ⟨g, 0, none⟩) (n + 1) (n + 1)] w fun e w' => (∃ r k, NumIs B r k w' e ∧ sgI r k = val ds) ∧ Below B w w' := by
  have hBg := (World.ownsRow.lt h.row g rfl)
  have hnl : n < ds.length := by omega
  obtain ⟨d, hd⟩ : ∃ d, ds[n] = d := ⟨_, rfl⟩
  have hd2 : d < 4294967296 := by rw [← hd]; exact hs _ (List.getElem_mem hnl)
  have htop := top_get hl hnl
  rw [hd] at htop
  obtain ⟨W1, hW1⟩ : ∃ W1, w.alloc (.cells #[.bool false, .slice none 0 0, .bool false, .bool false] 46) = W1 := ⟨_, rfl⟩
  have hR1 : RowIs W1 B g (n + 1) ds := by rw [← hW1]; exact World.ownsRow.alloc h _
  have hX1 : Has W1 w.heap.size 46 #[.bool false, .slice none 0 0, .bool false, .bool false] := by rw [← hW1]; exact Has.new _ _ _
  have hB1 : Below B w W1 := by rw [← hW1]; exact (Below.refl _ w).alloc hB _
  have hz1 : W1.heap.size = w.heap.size + 1 := by rw [← hW1]; simp
  have hc := hR1.cell n hnl
  rw [hd] at hc
  have HR1 := Lib.hid hR1
  have HX1 := Lib.hid hX1
  have HB1 := Lib.hid hB1
  have HS := Lib.hid hs
  have HL := Lib.hid hl
  have hi1 : ((n + 1 : Nat) : Int) - 1 = (n : Int) := by omega
  have hi2 : (0 : Int) ≤ (n : Int) := by omega
  have hi3 : (n : Int) < ((n + 1 : Nat) : Int) := by omega
  obtain ⟨q0, q1, q2, q3, q4, q5, q6, q7⟩ := hX1.four
  clear hR1 hX1 hB1 h hs hd hnl hl
  have ht : ¬ 2147483648 ≤ d := of_decide_eq_false (htop.symm.trans ht')
  have hsh : (d : Int) / 2147483648 = 0 := by omega
  have HV := Lib.hid (show val ds = (ev 4294967296 ds : Int) by unfold val; rw [ht', if_neg (by simp)])
  clear htop ht ht'
  have hcut := cut_any B _ ds W1 HR1.out.row HS.out (by have := HL.out; omega)
  rw [HL.out] at hcut
  have HCut := Lib.hid hcut
  clear hcut
  go_enter Tryd.func124, Tryd.ntmps124
  go_wp2_with fail
  refine HCut.out.mono ?_
  rintro e w2 ⟨⟨v', rfl, hnat⟩, rfl⟩
  obtain ⟨a9, c9, rfl⟩ := hnat.slice
  have HN := Lib.hid hnat
  clear hnat
  generalize (lims 4294967296 (ev 4294967296 ds)).length = l9 at HN ⊢
  go_wp2
  have hne : ∀ b, (Value.slice a9 l9 c9).ownBlock = some b → b ≠ w.heap.size := by
    intro b hb e
    subst e
    rcases HN.out.2 with ⟨h1, _⟩ | ⟨g', cap, cur, h1, h2, h3, _⟩
    · cases h1; cases hb
    · cases h1
      have : g' = w.heap.size := by
        have h : some g' = some w.heap.size := hb
        injection h
      subst this
      have h4 : some (Obj.cells cur 75) = some (Obj.cells #[.bool false, .slice none 0 0, .bool false, .bool false] 46) := h3.symm.trans HX1.out
      injection h4 with h5
      injection h5 with _ h6
      exact absurd h6 (by decide)
  exact bodyPost_ret (v := .agg #[.bool false, .slice a9 l9 c9, .bool false, .bool false]) (by simp [results, Tryd.results124, go_sem, World.cell?_setCell_same', q0, q1, q2, q3]) rfl ⟨⟨false, _, ⟨_, rfl, HN.out.apart4 hne _ _ _ _⟩, by rw [HV.out]; rfl⟩, Below.four HB1.out (by omega) _ _ _ _⟩
theorem ofWords_any (B g n : Nat) (ds : List Nat) (w : World) (h : RowIs w B g (n + 1) ds) (hl : ds.length = n + 1) (hs : Small ds) (hn : n ≤ 1000) (hB : B ≤ w.heap.size) :
    Calls Tryd.prog 124 #[.slice (some ⟨g, 0, none⟩) (n + 1) (n + 1)] w fun e w' => (∃ r k, NumIs B r k w' e ∧ sgI r k = val ds) ∧ Below B w w' := by
  cases ht : top ds with
  | true => exact ofWords_neg B g n ds w h hl hs hn hB ht
  | false => exact ofWords_pos B g n ds w h hl hs hn hB ht
end Go.Proofs.YtmnibfdenmeepaaDoor
