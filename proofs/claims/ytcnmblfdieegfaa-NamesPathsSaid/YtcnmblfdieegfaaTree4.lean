/- The tree of the sanity check of layer 16: Candidates. -/
import Derived.Test.YtcnmblfdieegfaaTree3
namespace Go.Proofs.Ytcnmblfdieegfaa
open Go.RowKit Go.Lib Go.ChangeMaps
attribute [local go_sem] put_size

def sF : ByteArray := ⟨#[102]⟩
def kR : ByteArray := ⟨#[58, 58]⟩
/-- The names that are tried. -/
def o1 : List UInt8 := [58, 58, 97, 58, 58, 102]
def o2 : List UInt8 := [58, 58, 98, 58, 58, 102]
def o3 : List UInt8 := [58, 58, 102]
def outs (i : Nat) : List (List UInt8) := [o1, o2, o3].take (i + 1)

/-- A clone of a node's search. -/
theorem searched_at (A g c : Nat) (w : World) (hA : Has w A 75 (nodeCells (.slice (some ⟨g, 0, none⟩) 1 c))) (hg : w.cell? ⟨g, 0, none⟩ = some (.string kB)) :
    Calls Try.prog 44 #[ptrTo A] w fun e w' => ∃ v, e = .returned v ∧ w'.ownsRow w.heap.size 9 1 v 1 [.string kB] ∧ Below w.heap.size w w' := by
  have K := fun W (h : World.cell? W ⟨g, 0, none⟩ = some (.string kB)) => Try.slices_Clone_string g 0 1 c [kB] W (by decide) (by decide) (fun j hj => by
    have : j = 0 := by simp at hj; exact hj
    subst this
    exact h)
  have c0 : w.cell? ⟨A, 0, none⟩ = some (.slice (some ⟨g, 0, none⟩) 1 c) := hA.cell 0
  obtain ⟨kb, hkb⟩ : ∃ k, kB = k := ⟨_, rfl⟩
  rw [hkb] at K hg ⊢
  clear hkb
  unfold ptrTo
  go_enter Try.func44, Try.ntmps44
  go_wp2_with fail
  refine (K _ hg).mono ?_
  rintro e w' ⟨v, rfl, ho, _, hb⟩
  go_wp2
  go_ret
  exact ⟨v, rfl, ho, hb⟩

theorem own_cells {w : World} {B n : Nat} {v : Value} {xs : List Value} (h : w.ownsRow B 9 1 v n xs) (hn : 0 < n) :
    ∃ g c, v = .slice (some ⟨g, 0, none⟩) n c ∧ B ≤ g ∧ g < w.heap.size ∧ n ≤ c ∧ ∀ (j : Nat) u, j < n → xs[j]? = some u → w.cell? ((⟨g, 0, none⟩ : Addr).add j) = some u := by
  rcases h.2 with ⟨_, h0⟩ | ⟨g, cap', cur, hv, hB, hg, hcap, _, _, hcur⟩
  · omega
  · refine ⟨g, cap', hv, hB, (Array.getElem?_eq_some_iff.1 hg).1, hcap, fun j u hjn hj => ?_⟩
    have e : (Addr.add ⟨g, 0, none⟩ j) = ⟨g, j, none⟩ := by unfold Addr.add; split <;> simp_all
    rw [e, cell_of_row w g j cur 9 (0, 0) hg]
    have h1 : (cur.toList.take (n * 1))[j]? = xs[j]? := by rw [hcur]
    rw [List.getElem?_take_of_lt (by omega)] at h1
    rw [← Array.getElem?_toList, h1, hj]
theorem own_new (w : World) (base : Nat) (hb : base ≤ w.heap.size) (x : Value) : (w.alloc (.cells #[x] 9)).ownsRow base 9 1 (.slice (some ⟨w.heap.size, 0, none⟩) 1 1) 1 [x] :=
  ⟨rfl, .inr ⟨w.heap.size, 1, #[x], rfl, hb, heap_alloc_new w _, Nat.le_refl _, by decide, rfl, rfl⟩⟩

theorem contains_own {w : World} {B n : Nat} {v : Value} {ps : List (List UInt8)} (h : w.ownsRow B 9 1 v n (partCells ps)) (hl : ps.length = n) (hn : 0 < n) (hn2 : n ≤ 1000) (x : ByteArray) {b : Bool} (hb : Lib.containsS (ps.map fun q => (⟨q.toArray⟩ : ByteArray)) x = b) :
    Calls Try.prog 45 #[v, .string x] w fun e w' => e = .returned (.bool b) ∧ w' = w := by
  obtain ⟨g, c, rfl, -, -, -, hc⟩ := own_cells h hn
  have hm : (ps.map fun q => (⟨q.toArray⟩ : ByteArray)).length = n := by rw [List.length_map]; exact hl
  have K := Try.slices_Contains_string g 0 n c (ps.map fun q => (⟨q.toArray⟩ : ByteArray)) x w (by omega) (by omega) (fun j hj => by
    have hjl : j < ps.length := by rw [List.length_map] at hj; exact hj
    have h1 := hc j (.string ⟨ps[j].toArray⟩) (by omega) (by simp [partCells, hjl])
    have e : (Addr.add ⟨g, 0, none⟩ j) = ⟨g, j, none⟩ := by unfold Addr.add; split <;> simp_all
    rw [e] at h1
    rw [Nat.zero_add, h1]
    simp [List.getD, hjl])
  rw [List.take_of_length_le (by omega), hb] at K
  exact K

theorem add_block (a : Addr) (j : Nat) : (a.add j).block = a.block := by unfold Addr.add; split <;> rfl
theorem Texts.grown {W W' : World} {a : Addr} {ps : List (List UInt8)} {row : Option Nat} (h : Texts W (some a) ps) (hg : W.grownBy W' row) (hl : a.block < W.heap.size) (hr : some a.block ≠ row) : Texts W' (some a) ps := fun i hi => by
  obtain ⟨b, e, hc⟩ := h i hi
  obtain rfl := Option.some.inj e
  exact ⟨a, rfl, (hg.cell_far _ (by rw [add_block]; exact hl) (by rw [add_block]; exact hr)).trans hc⟩

set_option maxHeartbeats 3200000 in
set_option maxRecDepth 100000 in
theorem cand_at (T M A B R g c i j k : Nat) (es : Array MapEntry) (ck : Nat) (w : World) (hT : Has w T 78 #[.map (some M)]) (hM : HasM w M es ck) (hA : Has w A 75 (nodeCells (.slice (some ⟨g, 0, none⟩) 1 c))) (hg : w.cell? ⟨g, 0, none⟩ = some (.string kB))
    (fa : Instr.findNow .string (.string kA) es.toList 0 = some (some (i, ptrTo A))) (fb : Instr.findNow .string (.string kB) es.toList 0 = some (some (j, ptrTo B))) (fr : Instr.findNow .string (.string kR) es.toList 0 = some (some (k, ptrTo R))) :
    Calls Try.prog 31 #[ptrTo T, .string sA, .string sF] w fun e w' => ∃ ao cc, e = .returned (.tuple #[.slice ao 3 cc, .int .i64 0]) ∧ Texts w' ao [o1, o2, o3] ∧ Below w.heap.size w w' := by
  obtain ⟨i9, hi9, hy0, hy1, hy2⟩ := info_parts Try.info9
  have FA := fun W (h1 : Has W T 78 #[.map (some M)]) (h2 : HasM W M es ck) => find_any T M i es ck sA kA (ptrTo A) W h1 h2 (by decide) key_a fa
  have AB := fun W => abs_any sF W
  have hAB : pabs sF.data.toList = false := rfl
  rw [hAB] at AB
  have C1 := fun W => canonical_any sA sF W (by decide) (by decide)
  have hC1 : (⟨(canP sA.data.toList sF.data.toList).toArray⟩ : ByteArray) = ⟨o1.toArray⟩ := by kernel_rfl
  rw [hC1] at C1
  have SE := fun W (h1 : Has W A 75 (nodeCells (.slice (some ⟨g, 0, none⟩) 1 c))) (h2 : World.cell? W ⟨g, 0, none⟩ = some (.string kB)) => searched_at A g c W h1 h2
  have kBe : kB = ⟨kBl.toArray⟩ := rfl
  have kRe : kR = ⟨([58, 58] : List UInt8).toArray⟩ := rfl
  have ST : ∀ n : Nat, n < 2 → ∃ (p cN : List UInt8) (jj Bx : Nat), [kBl, [58, 58]][n]? = some p ∧ (⟨(canP p sF.data.toList).toArray⟩ : ByteArray) = ⟨cN.toArray⟩ ∧ p.length ≤ 3000 ∧ Instr.findNow .string (.string ⟨p.toArray⟩) es.toList 0 = some (some (jj, ptrTo Bx)) ∧ Lib.containsS ((outs n).map fun q => (⟨q.toArray⟩ : ByteArray)) ⟨cN.toArray⟩ = false ∧ outs (n + 1) = outs n ++ [cN] := fun n hn => by
    rcases (by omega : n = 0 ∨ n = 1) with rfl | rfl
    · exact ⟨kBl, o2, j, B, rfl, by kernel_rfl, by decide, fb, by decide, rfl⟩
    · exact ⟨[58, 58], o3, k, R, rfl, by kernel_rfl, by decide, fr, by decide, rfl⟩
  have OL : ∀ n, n ≤ 2 → (outs n).length = n + 1 := fun n hn => by
    rcases (by omega : n = 0 ∨ n = 1 ∨ n = 2) with rfl | rfl | rfl <;> rfl
  have O0 : partCells (outs 0) = [.string ⟨o1.toArray⟩] := rfl
  have O2 : outs 2 = [o1, o2, o3] := rfl
  have hsF : sF.size ≤ 3000 := by decide
  rw [kBe] at SE hg
  obtain ⟨a, ha⟩ : ∃ a, sA = a := ⟨_, rfl⟩
  obtain ⟨f, hf⟩ : ∃ f, sF = f := ⟨_, rfl⟩
  obtain ⟨q1, hq1⟩ : ∃ q : ByteArray, ⟨o1.toArray⟩ = q := ⟨_, rfl⟩
  obtain ⟨kb, hkb⟩ : ∃ q : ByteArray, ⟨kBl.toArray⟩ = q := ⟨_, rfl⟩
  rw [ha] at FA C1 ⊢
  rw [hf] at AB C1 ST hsF ⊢
  rw [hq1] at C1 O0
  rw [hkb] at SE hg
  have B0 := Below.refl w.heap.size w
  have HKB := Lib.hid hkb
  clear hC1 hAB fa fb fr ha hf hq1 hkb kBe kRe
  unfold ptrTo at FA SE ST ⊢
  go_enter Try.func31, Try.ntmps31
  go_wp2_with fail
  refine (FA _ hT hM).mono ?_
  rintro e wa ⟨rfl, hba⟩
  go_wp2_with fail
  refine (AB _).mono ?_
  rintro e w' ⟨rfl, rfl⟩
  go_wp2_with fail
  refine (C1 _).mono ?_
  rintro e wb ⟨rfl, hbb⟩
  have hb1 := below_behind hba hbb
  have hb2 := hb1.alloc hb1.size (.cells #[.string q1] 9)
  have own1 := own_new wb w.heap.size hb1.size (.string q1)
  have hAx := hA.below hb2
  have hgx := cell_keep hg hb2
  go_wp2_with fail
  refine (SE _ hAx hgx).mono ?_
  rintro e wd ⟨v1, rfl, hov, hbd⟩
  have hb3 := below_behind hb2 hbd
  have own2 : wd.ownsRow w.heap.size 9 1 (.slice (some ⟨wb.heap.size, 0, none⟩) 1 1) 1 [.string q1] := (Kept.of_below (S := fun _ => False) hbd).owns own1 (fun _ _ => id)
  have zS : wb.heap.size < wd.heap.size := by have := hbd.size; simp at this; omega
  rw [World.size_alloc] at hov
  go_wp2_with (at_builtin; refine wpList_append_own _ rfl _ _ 28 rfl (wb.heap.size + 1) 9 i9 (.string ⟨#[]⟩) 1 16 Try.underlying28 hi9 hy0 hy1 hy2 rfl (by decide) v1 1 _ rfl (hov.alloc _) ⟨wd.heap.size, 0, none⟩ 1 1 [.string ⟨#[58, 58]⟩] rfl rfl (cell_one_new _ _ _) (by intro u hu; simp at hu; subst hu; rfl) (by unfold maxLen; omega) (by omega) (by simp; omega) ?_; intro v' w2 hown hgrow _; obtain ⟨g2, c2, rfl, hg2, hg2l, hc2, hcells⟩ := own_cells hown (by omega))
  have hX : Texts w2 (some ⟨g2, 0, none⟩) [kBl, [58, 58]] := fun n hn => by
    rcases (by simp at hn; omega : n = 0 ∨ n = 1) with rfl | rfl
    · exact ⟨_, rfl, hcells 0 _ (by omega) (by show some (Value.string kb) = _; rw [← HKB.out]; rfl)⟩
    · exact ⟨_, rfl, hcells 1 _ (by omega) rfl⟩
  have hne : some wb.heap.size ≠ v1.ownBlock := fun e => by
    have := (hov.lt _ e.symm).1
    omega
  have ho9 : w2.ownsRow w.heap.size 9 1 (.slice (some ⟨wb.heap.size, 0, none⟩) 1 1) 1 [.string q1] := (own2.alloc _).kept hgrow (.inr hne)
  have hb4 := (hb3.alloc hb3.size (.cells #[.string ⟨#[58, 58]⟩] 9)).grown hgrow (by simp; exact Nat.le_trans hb3.size (by omega)) (fun q hq => by have := (hov.lt _ hq).1; have := hb1.size; omega)
  have hgn : g2 ≠ wb.heap.size := by omega
  have hab2 : (⟨g2, 0, none⟩ : Addr).block = g2 := rfl
  obtain ⟨a2, ha2⟩ : ∃ a2, (⟨g2, 0, none⟩ : Addr) = a2 := ⟨_, rfl⟩
  rw [ha2] at hX hab2 ⊢
  rw [← O0] at ho9
  clear hcells hown hgrow ha2 own1 own2 hov hbd hba hbb hb1 hb2 hb3 zS hne hAx hgx SE FA AB C1 hA hg
  go_wp2
  go_loopg [9, 32] 2 (fun gg v9 v32 wx => ∃ n : Nat, v32 = .int .i64 n ∧ n ≤ 2 ∧ 2 ≤ n + gg ∧ wx.ownsRow w.heap.size 9 1 v9 (n + 1) (partCells (outs n)) ∧ some g2 ≠ v9.ownBlock ∧ g2 < wx.heap.size ∧ Texts wx (some a2) [kBl, [58, 58]] ∧ Below w.heap.size w wx)
  case atStart => exact ⟨0, rfl, by omega, by omega, ho9, fun e => hgn (Option.some.inj e), hg2l, hX, hb4⟩
  case round =>
    obtain ⟨n, rfl, hn, hgg, hown, hfar, hgl, hXx, hbx⟩ := hrel
    have hTx := hT.below hbx
    have hMx := hM.below hbx
    by_cases hin : n < 2
    · have hin1 : (n : Int) < 2 := by omega
      have hn0 : (0 : Int) ≤ (n : Int) := by omega
      obtain ⟨p, cN, jj, Bx, hp, hcan, hpl, hfp, hct, hout⟩ := ST n hin
      obtain ⟨a3, e3, hc⟩ := hXx n (by simpa using hin)
      obtain rfl := Option.some.inj e3
      have hpe : [kBl, [58, 58]][n]'(by simpa using hin) = p := (List.getElem?_eq_some_iff.1 hp).2
      rw [hpe] at hc
      have C := fun W => canonical_any ⟨p.toArray⟩ f W (by rw [Lib.size_eq]; exact hpl) hsF
      have hC : (⟨(canP (⟨p.toArray⟩ : ByteArray).data.toList f.data.toList).toArray⟩ : ByteArray) = ⟨cN.toArray⟩ := hcan
      rw [hC] at C
      obtain ⟨P, hP⟩ : ∃ P : ByteArray, ⟨p.toArray⟩ = P := ⟨_, rfl⟩
      obtain ⟨q, hq⟩ : ∃ q : ByteArray, ⟨cN.toArray⟩ = q := ⟨_, rfl⟩
      have hpc : partCells (outs (n + 1)) = partCells (outs n) ++ [.string q] := by rw [hout, cells_append, ← hq]; rfl
      rw [hP] at hc C hfp
      rw [hq] at C hct
      have HPC := Lib.hid hpc
      have OLn := OL n hn
      clear hpe hp e3 hC hcan hP hq hpc hout
      obtain ⟨g, rfl⟩ : ∃ g, gk = g + 1 := ⟨gk - 1, by omega⟩
      go_wp2_with fail
      refine (C _).mono ?_
      rintro e wy ⟨rfl, hby⟩
      have hby2 := below_behind hbx hby
      have cT : wy.cell? ⟨T, 0, none⟩ = some (.map (some M)) := (hTx.below hby).cell 0
      have lK := look_hit hfp (hMx.below hby)
      have hown2 : wy.ownsRow w.heap.size 9 1 u9 (n + 1) (partCells (outs n)) := (Kept.of_below (S := fun _ => False) hby).owns hown (fun _ _ => id)
      have hXy := hXx.below hby
      have zy := hby.size
      go_wp2_with fail
      refine (contains_own hown2 OLn (by omega) (by omega) q hct).mono ?_
      rintro e w' ⟨rfl, rfl⟩
      go_wp2_with (at_builtin; refine wpList_append_own_at _ rfl _ _ 28 rfl w.heap.size 9 i9 (.string ⟨#[]⟩) 1 16 Try.underlying28 hi9 hy0 hy1 hy2 rfl (by decide) u9 (n + 1) (partCells (outs n)) rfl (hown2.alloc _) ⟨w'.heap.size, 0, none⟩ 1 1 [.string q] rfl rfl (cell_one_new _ _ _) (by intro u hu; simp at hu; subst hu; rfl) (by unfold maxLen; omega) (by omega) (by simp; exact Nat.le_trans hby2.size (by omega)) ?_; intro v' w2 hown3 hgrow _ hob)
      go_roundg g
      case measure => omega
      case rel =>
        refine ⟨n + 1, by push_cast; rfl, by omega, by omega, by rw [HPC.out]; exact hown3, ?_, ?_, ?_, ?_⟩
        · rcases hob with e | e
          · rw [e]; exact hfar
          · rw [e]; intro x; have := Option.some.inj x; simp at this; omega
        · have := hgrow.size; simp at this; omega
        · exact (hXy.below ((Below.refl _ _).alloc (Nat.le_refl _) _)).grown hgrow (by rw [hab2]; simp; omega) (by rw [hab2]; exact hfar)
        · exact (hby2.alloc hby2.size _).grown hgrow (by simp; exact Nat.le_trans hby2.size (by omega)) (fun x hx => (hown2.lt x hx).1)
    · have hin1 : ¬ (n : Int) < 2 := by omega
      obtain rfl : n = 2 := by omega
      obtain ⟨ao, cc, rfl⟩ := slice_of_own hown
      go_wp2
      refine bodyPost_ret (results_tmp2 rfl _ _ _) rfl ?_
      have HX := Texts.of_own (ps := [o1, o2, o3]) (base := w.heap.size) (cap := cc) hown
      exact ⟨ao, ⟨cc, rfl⟩, HX, hbx⟩
end Go.Proofs.Ytcnmblfdieegfaa
