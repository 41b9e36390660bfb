/- Reverse of the reference; Title of both. -/
import Derived.Test.YtneklmalkmeohaaForms1
import Derived.Test.YtneklmalkmeohaaFinds4
import Derived.Test.YtneklmalkmeohaaLong
import Derived.Deep.RegionHeld3
namespace Go.Proofs.Ytneklmalkmeohaa
open Go.RowKit Go.Lib

theorem rev_next (s : ByteArray) (m : Nat) (hm : m < s.size) : byteCells ((s.data.toList.drop m).reverse) = byteCells ((s.data.toList.drop (m + 1)).reverse) ++ [Value.int .u8 ((s[m]).toNat : Int)] := by
  have hl : m < s.data.toList.length := by rw [← Lib.size_eq]; exact hm
  rw [List.drop_eq_getElem_cons hl, List.reverse_cons, Lib.byteCells_append]
  rfl

set_option maxHeartbeats 1600000 in
set_option maxRecDepth 100000 in
theorem refReverse_any (s : ByteArray) (w : World) (hs : s.size ≤ 400) :
    Calls Try.prog 24 #[.string s] w fun e w' => e = .returned (.string ⟨s.data.toList.reverse.toArray⟩) ∧ Below w.heap.size w w' := by
  obtain ⟨i5, hi5, hy0, hy1, hy2⟩ := info_parts Try.info5
  have hlen : s.data.toList.length = s.size := (Lib.size_eq s).symm
  go_enter Try.func24, Try.ntmps24
  go_wp2
  go_loopg [3, 4] s.size (fun g v3 v wx => Down g v ∧ g ≤ s.size ∧ wx.ownsRow w.heap.size 5 1 v3 (s.size - g) (byteCells ((s.data.toList.drop g).reverse)) ∧ Below w.heap.size w wx)
  case atStart =>
    refine ⟨down_pred _, Nat.le_refl _, ?_, Below.refl _ _⟩
    rw [Nat.sub_self, List.drop_eq_nil_of_le (by omega)]
    exact World.ownsRow_nil _ _ _ _
  case round =>
    obtain ⟨hd, hg, hown, hbx⟩ := hrel
    rcases hd with ⟨rfl, rfl⟩ | ⟨m, rfl, rfl⟩
    · obtain ⟨ao, cc, rfl⟩ := slice_of_own hown
      rw [Nat.sub_zero, List.drop_zero] at hown
      have hcv := conv_own (w := wr) (l := s.data.toList.reverse) (v := .slice ao s.size cc) (by rw [List.length_reverse, hlen]; exact hown)
      simp only [Nat.sub_zero] at *
      go_wp2
      go_ret
      exact ⟨rfl, hbx⟩
    · obtain ⟨ao, cc, rfl⟩ := slice_of_own hown
      obtain ⟨K, hK⟩ : ∃ K, s.size - (m + 1) = K := ⟨_, rfl⟩
      rw [hK] at hown ⊢
      have hm0 : (m : Int) ≥ 0 := by omega
      have hm1 : (m : Int) < (s.size : Int) := by omega
      have hK2 := Lib.hid (show s.size - m = K + 1 by omega)
      have hK4 : K ≤ 400 := by omega
      clear hK
      go_wp2_with (at_builtin; refine wpList_append_own _ rfl _ _ 56 rfl w.heap.size 5 i5 (.int .u8 0) 1 1 Try.underlying56 hi5 hy0 hy1 hy2 rfl (by decide) (.slice ao K cc) K _ rfl (hown.alloc _) ⟨wr.heap.size, 0, none⟩ 1 1 [.int .u8 ((s[m]).toNat : Int)] rfl rfl (cell_one_new _ _ _) (by intro u hu; simp at hu; subst hu; rfl) (by unfold maxLen; omega) (by omega) (by simp; exact Nat.le_trans hbx.size (by omega)) ?_; intro v' w2 hown2 hgrow _)
      go_roundg m
      case measure => omega
      case rel =>
        refine ⟨down_pred m, by omega, ?_, (hbx.alloc hbx.size _).grown hgrow (by simp; exact Nat.le_trans hbx.size (by omega)) (fun q hq => (hown.lt q hq).1)⟩
        rw [hK2.out, rev_next s m (by omega)]
        exact hown2
/-- The first letter great, the others small. -/
def titleOf (s : ByteArray) : ByteArray :=
  if s.toList.isEmpty = true then ⟨#[]⟩ else ⟨((s.extract 0 1).data.toList.map greatOf).toArray⟩ ++ ⟨((s.extract 1 s.size).data.toList.map smallOf).toArray⟩
theorem size_mk (l : List UInt8) : (⟨l.toArray⟩ : ByteArray).size = l.length := by simp [ByteArray.size]

set_option maxHeartbeats 1600000 in
set_option maxRecDepth 100000 in
theorem title_any (s : ByteArray) (w : World) (hs : s.size ≤ 400) :
    Calls Try.prog 29 #[.string s] w fun e w' => e = .returned (.string (titleOf s)) ∧ Below w.heap.size w w' := by
  by_cases hE : s.toList.isEmpty = true
  · have H := Lib.hid (show titleOf s = ⟨#[]⟩ by unfold titleOf; rw [if_pos hE])
    go_enter Try.func29, Try.ntmps29
    go_wp2
    go_ret
    exact ⟨by rw [H.out]; rfl, Below.refl _ _⟩
  · have H : titleOf s = ⟨((s.extract 0 1).data.toList.map greatOf).toArray⟩ ++ ⟨((s.extract 1 s.size).data.toList.map smallOf).toArray⟩ := by unfold titleOf; rw [if_neg hE]
    have hE' : s.toList.isEmpty = false := by simpa using hE
    have hpos : 0 < s.size := by
      rcases Nat.eq_zero_or_pos s.size with h | h
      · exact absurd ((empty_iff s).2 (List.eq_nil_of_length_eq_zero (by rw [← Lib.size_eq]; exact h))) hE
      · exact h
    clear hE
    have cU := fun W => upper_any (s.extract 0 1) W (by simp; omega)
    have cL := fun W => lower_any (s.extract 1 s.size) W (by simp; omega)
    have hz : ¬ 9223372036854775807 < (⟨((s.extract 0 1).data.toList.map greatOf).toArray⟩ : ByteArray).size + (⟨((s.extract 1 s.size).data.toList.map smallOf).toArray⟩ : ByteArray).size := by
      rw [size_mk, size_mk, List.length_map, List.length_map, ← Lib.size_eq, ← Lib.size_eq]
      simp
      omega
    generalize (⟨((s.extract 0 1).data.toList.map greatOf).toArray⟩ : ByteArray) = U at cU hz H
    generalize (⟨((s.extract 1 s.size).data.toList.map smallOf).toArray⟩ : ByteArray) = V at cL hz H
    have h1 : (1 : Int) ≤ (s.size : Int) := by omega
    have HH := Lib.hid H
    have CU := Lib.hid cU
    have CL := Lib.hid cL
    clear H cU cL
    have hb0 : Below w.heap.size w w := Below.refl _ w
    go_enter Try.func29, Try.ntmps29
    go_wp2
    go_region_held3 (fun w' => Below w.heap.size w w') ((first | assumption | (exact Below.drewAt (by assumption) _) | (exact Below.behind (by assumption) (by assumption))))
      ((first
        | (go_at_call 27; refine (CU.out _).mono ?_; rintro e w' ⟨rfl, hb1⟩)
        | (go_at_call 25; refine (CL.out _).mono ?_; rintro e w' ⟨rfl, hb1⟩)))
    all_goals
      go_wp2
      go_ret
      exact ⟨by rw [HH.out]; rfl, by assumption⟩

set_option maxHeartbeats 1600000 in
set_option maxRecDepth 100000 in
theorem refTitle_any (s : ByteArray) (w : World) (hs : s.size ≤ 400) :
    Calls Try.prog 30 #[.string s] w fun e w' => e = .returned (.string (titleOf s)) ∧ Below w.heap.size w w' := by
  by_cases hE : s.toList.isEmpty = true
  · have H := Lib.hid (show titleOf s = ⟨#[]⟩ by unfold titleOf; rw [if_pos hE])
    go_enter Try.func30, Try.ntmps30
    go_wp2
    go_ret
    exact ⟨by rw [H.out]; rfl, Below.refl _ _⟩
  · have H : titleOf s = ⟨((s.extract 0 1).data.toList.map greatOf).toArray⟩ ++ ⟨((s.extract 1 s.size).data.toList.map smallOf).toArray⟩ := by unfold titleOf; rw [if_neg hE]
    have hE' : s.toList.isEmpty = false := by simpa using hE
    have hpos : 0 < s.size := by
      rcases Nat.eq_zero_or_pos s.size with h | h
      · exact absurd ((empty_iff s).2 (List.eq_nil_of_length_eq_zero (by rw [← Lib.size_eq]; exact h))) hE
      · exact h
    clear hE
    have cU := fun W => refUpper_any (s.extract 0 1) W (by simp; omega)
    have cL := fun W => refLower_any (s.extract 1 s.size) W (by simp; omega)
    have hz : ¬ 9223372036854775807 < (⟨((s.extract 0 1).data.toList.map greatOf).toArray⟩ : ByteArray).size + (⟨((s.extract 1 s.size).data.toList.map smallOf).toArray⟩ : ByteArray).size := by
      rw [size_mk, size_mk, List.length_map, List.length_map, ← Lib.size_eq, ← Lib.size_eq]
      simp
      omega
    generalize (⟨((s.extract 0 1).data.toList.map greatOf).toArray⟩ : ByteArray) = U at cU hz H
    generalize (⟨((s.extract 1 s.size).data.toList.map smallOf).toArray⟩ : ByteArray) = V at cL hz H
    have h1 : (1 : Int) ≤ (s.size : Int) := by omega
    have HH := Lib.hid H
    have CU := Lib.hid cU
    have CL := Lib.hid cL
    clear H cU cL
    have hb0 : Below w.heap.size w w := Below.refl _ w
    go_enter Try.func30, Try.ntmps30
    go_wp2
    go_region_held3 (fun w' => Below w.heap.size w w') ((first | assumption | (exact Below.drewAt (by assumption) _) | (exact Below.behind (by assumption) (by assumption))))
      ((first
        | (go_at_call 28; refine (CU.out _).mono ?_; rintro e w' ⟨rfl, hb1⟩)
        | (go_at_call 26; refine (CL.out _).mono ?_; rintro e w' ⟨rfl, hb1⟩)))
    all_goals
      go_wp2
      go_ret
      exact ⟨by rw [HH.out]; rfl, by assumption⟩

end Go.Proofs.Ytneklmalkmeohaa
