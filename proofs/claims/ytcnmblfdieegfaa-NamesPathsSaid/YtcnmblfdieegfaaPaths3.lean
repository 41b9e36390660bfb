/- Canonical of both. -/
import Derived.Test.YtcnmblfdieegfaaPaths2
import Derived.Laws.AppendOwnNone
import Derived.Deep.Onto
namespace Go.Proofs.Ytcnmblfdieegfaa
open Go.RowKit Go.Lib

theorem cells_append (ps qs : List (List UInt8)) : partCells (ps ++ qs) = partCells ps ++ partCells qs := by simp [partCells]

set_option maxHeartbeats 1600000 in
theorem canonical_any (sp l : ByteArray) (w : World) (h1 : sp.size ≤ 3000) (h2 : l.size ≤ 3000) :
    Calls Try.prog 9 #[.string sp, .string l] w fun e w' => e = .returned (.string ⟨(canP sp.data.toList l.data.toList).toArray⟩) ∧ Below w.heap.size w w' := by
  obtain ⟨i9, hi9, hy0, hy1, hy2⟩ := info_parts Try.info9
  have W1 := wt_parts sp.data.toList
  have W2 := wt_parts l.data.toList
  rw [← Lib.size_eq] at W1 W2
  have HC : canP sp.data.toList l.data.toList = canon (partsIn sp.data.toList l.data.toList) := rfl
  have HP := wt_in sp.data.toList l.data.toList
  rw [← Lib.size_eq, ← Lib.size_eq] at HP
  by_cases hab : pabs l.data.toList = true
  · have hin : partsIn sp.data.toList l.data.toList = partsOf l.data.toList := if_pos hab
    rw [HC, hin]
    have P2 := fun W => parts_any l W h2
    have A2 := fun W => abs_any l W
    rw [hab] at A2
    generalize partsOf l.data.toList = qs at *
    clear HC hin
    go_enter Try.func9, Try.ntmps9
    go_wp2_with fail
    refine (P2 _).mono ?_
    rintro e wa ⟨v, rfl, ho, hb⟩
    go_wp2_with fail
    refine (A2 _).mono ?_
    rintro e w' ⟨rfl, rfl⟩
    go_wp2_with fail
    refine (joined_any qs v _ _ ho (by omega)).mono ?_
    rintro e wb ⟨rfl, hb2⟩
    go_wp2
    go_ret
    exact ⟨rfl, hb.trans (hb2.mono hb.size)⟩
  · have hin : partsIn sp.data.toList l.data.toList = partsOf sp.data.toList ++ partsOf l.data.toList := if_neg hab
    have hab' : pabs l.data.toList = false := by simpa using hab
    rw [hin] at HP
    rw [HC, hin]
    have P1 := fun W => parts_any sp W h1
    have P2 := fun W => parts_any l W h2
    have A2 := fun W => abs_any l W
    rw [hab'] at A2
    have C1 := wt_count (partsOf sp.data.toList)
    have C2 := wt_count (partsOf l.data.toList)
    generalize partsOf l.data.toList = qs at *
    generalize partsOf sp.data.toList = ps at *
    clear HC hin hab hab'
    go_enter Try.func9, Try.ntmps9
    go_wp2_with fail
    refine (P2 _).mono ?_
    rintro e wa ⟨v, rfl, ho, hb⟩
    go_wp2_with fail
    refine (A2 _).mono ?_
    rintro e w' ⟨rfl, rfl⟩
    go_wp2_with fail
    refine (P1 _).mono ?_
    rintro e wb ⟨v1, rfl, ho1, hb1⟩
    have hob := ho1.mono (hb.size)
    have hbb := hb.trans (hb1.mono hb.size)
    rcases own_form ho with ⟨rfl, rfl⟩ | ⟨g, c, rfl, hBg, hg, hcap, hcells⟩
    · go_wp2_with (at_builtin; refine wpList_append_own_none rfl _ _ 28 rfl w.heap.size 9 i9 1 Try.underlying28 hi9 v1 ps.length _ rfl hob rfl ?_)
      refine (joined_any ps v1 _ _ hob (by omega)).mono ?_
      rintro e wd ⟨rfl, hb2⟩
      go_wp2
      go_ret
      exact ⟨by rw [List.append_nil]; rfl, hbb.trans (hb2.mono hbb.size)⟩
    · have hcl : ∀ j u, (partCells qs)[j]? = some u → wb.cell? ((⟨g, 0, none⟩ : Addr).add j) = some u := fun j u hu => by
        unfold partCells at hu
        rw [List.getElem?_map, Option.map_eq_some_iff] at hu
        obtain ⟨p, hp, rfl⟩ := hu
        have e : (Addr.add ⟨g, 0, none⟩ j) = ⟨g, j, none⟩ := by unfold Addr.add; split <;> simp_all
        rw [e]
        exact (hb1.cell hg).trans (hcells j p hp)
      go_wp2_with (at_builtin; refine wpList_append_own _ rfl _ _ 28 rfl w.heap.size 9 i9 (.string ⟨#[]⟩) 1 16 Try.underlying28 hi9 hy0 hy1 hy2 rfl (by decide) v1 ps.length _ rfl hob ⟨g, 0, none⟩ qs.length c (partCells qs) rfl (by simp [partCells]) hcl (by intro u hu; unfold partCells at hu; rw [List.mem_map] at hu; obtain ⟨p, _, rfl⟩ := hu; rfl) (by unfold maxLen; omega) (by omega) (by exact hbb.size) ?_; intro v' w2 hown2 hgrow _)
      have hbg := hbb.grown hgrow hbb.size (fun q hq => (hob.lt q hq).1)
      refine (joined_any (ps ++ qs) v' w.heap.size _ (by rw [List.length_append, cells_append]; exact hown2) (by omega)).mono ?_
      rintro e wd ⟨rfl, hb2⟩
      go_wp2
      go_ret
      exact ⟨rfl, hbg.trans (hb2.mono hbg.size)⟩

set_option maxHeartbeats 1600000 in
theorem refCanonical_any (sp l : ByteArray) (w : World) (h1 : sp.size ≤ 3000) (h2 : l.size ≤ 3000) :
    Calls Try.prog 15 #[.string sp, .string l] w fun e w' => e = .returned (.string ⟨(canP sp.data.toList l.data.toList).toArray⟩) ∧ Below w.heap.size w w' := by
  obtain ⟨i9, hi9, hy0, hy1, hy2⟩ := info_parts Try.info9
  have W1 := wt_parts sp.data.toList
  have W2 := wt_parts l.data.toList
  rw [← Lib.size_eq] at W1 W2
  have HC : canP sp.data.toList l.data.toList = canon (partsIn sp.data.toList l.data.toList) := rfl
  have HP := wt_in sp.data.toList l.data.toList
  rw [← Lib.size_eq, ← Lib.size_eq] at HP
  have A2 := fun W => refAbs_any l W
  have P2 := fun W => parts_ref l W h2
  by_cases hab : pabs l.data.toList = true
  · have hin : partsIn sp.data.toList l.data.toList = partsOf l.data.toList := if_pos hab
    rw [HC, hin]
    rw [hab] at A2
    generalize partsOf l.data.toList = qs at *
    clear HC hin
    go_enter Try.func15, Try.ntmps15
    go_wp2_with fail
    refine (A2 _).mono ?_
    rintro e w' ⟨rfl, rfl⟩
    go_wp2_with fail
    refine (P2 _).mono ?_
    rintro e wa ⟨v, rfl, ho, hb⟩
    obtain ⟨ao, c, rfl⟩ := slice_of_own ho
    go_wp2_with fail
    refine (of_any qs ao c _ (Texts.of_own ho) (by omega)).mono ?_
    rintro e wb ⟨rfl, rfl⟩
    go_wp2
    go_ret
    exact ⟨rfl, hb⟩
  · have hin : partsIn sp.data.toList l.data.toList = partsOf sp.data.toList ++ partsOf l.data.toList := if_neg hab
    have hab' : pabs l.data.toList = false := by simpa using hab
    rw [hin] at HP
    rw [HC, hin]
    have P1 := fun W => parts_ref sp W h1
    rw [hab'] at A2
    have C1 := wt_count (partsOf sp.data.toList)
    have C2 := wt_count (partsOf l.data.toList)
    generalize partsOf l.data.toList = qs at *
    generalize partsOf sp.data.toList = ps at *
    clear HC hin hab hab'
    go_enter Try.func15, Try.ntmps15
    go_wp2_with fail
    refine (A2 _).mono ?_
    rintro e w' ⟨rfl, rfl⟩
    go_wp2_with fail
    refine (P1 _).mono ?_
    rintro e wa ⟨v1, rfl, ho1, hb1⟩
    go_wp2_with fail
    refine (P2 _).mono ?_
    rintro e wb ⟨v, rfl, ho, hb⟩
    have hob : wb.ownsRow w.heap.size 9 1 v1 ps.length (partCells ps) := (Kept.of_below (S := fun _ => False) hb).owns ho1 (fun _ _ => id)
    have hbb := hb1.trans (hb.mono hb1.size)
    rcases own_form ho with ⟨rfl, rfl⟩ | ⟨g, c, rfl, hBg, hg, hcap, hcells⟩
    · go_wp2_with (at_builtin; refine wpList_append_own_none rfl _ _ 28 rfl w.heap.size 9 i9 1 Try.underlying28 hi9 v1 ps.length _ rfl hob rfl ?_)
      obtain ⟨ao, c, rfl⟩ := slice_of_own hob
      refine (of_any ps ao c _ (Texts.of_own hob) (by omega)).mono ?_
      rintro e wd ⟨rfl, rfl⟩
      go_wp2
      go_ret
      exact ⟨by rw [List.append_nil]; rfl, hbb⟩
    · have hcl : ∀ j u, (partCells qs)[j]? = some u → wb.cell? ((⟨g, 0, none⟩ : Addr).add j) = some u := fun j u hu => by
        unfold partCells at hu
        rw [List.getElem?_map, Option.map_eq_some_iff] at hu
        obtain ⟨p, hp, rfl⟩ := hu
        have e : (Addr.add ⟨g, 0, none⟩ j) = ⟨g, j, none⟩ := by unfold Addr.add; split <;> simp_all
        rw [e]
        exact hcells j p hp
      go_wp2_with (at_builtin; refine wpList_append_own _ rfl _ _ 28 rfl w.heap.size 9 i9 (.string ⟨#[]⟩) 1 16 Try.underlying28 hi9 hy0 hy1 hy2 rfl (by decide) v1 ps.length _ rfl hob ⟨g, 0, none⟩ qs.length c (partCells qs) rfl (by simp [partCells]) hcl (by intro u hu; unfold partCells at hu; rw [List.mem_map] at hu; obtain ⟨p, _, rfl⟩ := hu; rfl) (by unfold maxLen; omega) (by omega) (by exact hbb.size) ?_; intro v' w2 hown2 hgrow _; obtain ⟨ao, cc, rfl⟩ := slice_of_own hown2)
      have hbg := hbb.grown hgrow hbb.size (fun q hq => (hob.lt q hq).1)
      have O := of_any (ps ++ qs) ao cc w2 (Texts.of_own (base := w.heap.size) (cap := cc) (by rw [List.length_append, cells_append]; exact hown2)) (by omega)
      rw [List.length_append] at O
      refine O.mono ?_
      rintro e wd ⟨rfl, rfl⟩
      go_wp2
      go_ret
      exact ⟨rfl, hbg⟩
end Go.Proofs.Ytcnmblfdieegfaa
