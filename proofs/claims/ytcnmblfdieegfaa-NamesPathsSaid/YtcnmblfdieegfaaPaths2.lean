/- Absolute, joined and of: what is a path's beginning, and the canonical form of parts. -/
import Derived.Test.YtcnmblfdieegfaaPaths1
import Derived.Test.YtcnmblfdieegfaaParts4
import Derived.Test.YtcnmblfdieegfaaParts7
import Derived.Test.YtcnmblfdieegfaaShelf
namespace Go.Proofs.Ytcnmblfdieegfaa
open Go.RowKit Go.Lib

def col2 : ByteArray := ⟨#[58, 58]⟩
theorem pre_abs (l : List UInt8) : Lib.hasPrefix l [58, 58] = pabs l := by
  unfold Lib.hasPrefix pabs
  match l with
  | [] => rfl
  | [x] => simp [List.isPrefixOf]
  | x :: y :: r =>
    rw [Bool.eq_iff_iff]
    simp [List.isPrefixOf]
    exact ⟨fun h => ⟨h.1.symm, h.2.symm⟩, fun h => ⟨h.1.symm, h.2.symm⟩⟩

theorem abs_any (s : ByteArray) (w : World) : Calls Try.prog 13 #[.string s] w fun e w' => e = .returned (.bool (pabs s.data.toList)) ∧ w = w' := by
  go_enter Try.func13, Try.ntmps13
  go_wp2_with fail
  refine (Try.strings_HasPrefix s ⟨#[58, 58]⟩ _).mono ?_
  rintro e w' ⟨rfl, rfl⟩
  go_wp2
  go_ret
  exact ⟨by rw [pre_abs]; rfl, rfl⟩

theorem abs_long (s : ByteArray) (_h : 1 < s.size) : ((s.extract 0 2).toList == [58, 58]) = pabs s.data.toList := by
  rw [toList_data, Lib.extract_data, List.drop_zero]
  unfold pabs
  rw [Bool.eq_iff_iff, beq_iff_eq, decide_eq_true_iff]
theorem abs_short (s : ByteArray) (h : ¬ 1 < s.size) : false = pabs s.data.toList := by
  unfold pabs
  symm
  rw [decide_eq_false_iff_not]
  intro e
  have := congrArg List.length e
  rw [List.length_take, ← Lib.size_eq] at this
  simp at this
  omega
theorem refAbs_any (s : ByteArray) (w : World) : Calls Try.prog 14 #[.string s] w fun e w' => e = .returned (.bool (pabs s.data.toList)) ∧ w = w' := by
  by_cases h : 1 < s.size
  · have h1 : (1 : Int) < (s.size : Int) := by omega
    have h2 : (2 : Int) ≤ (s.size : Int) := by omega
    have H := Lib.hid (abs_long s h)
    go_enter Try.func14, Try.ntmps14
    go_wp2
    go_ret
    exact ⟨by rw [← H.out]; rfl, rfl⟩
  · have h1 : ¬ (1 : Int) < (s.size : Int) := by omega
    have H := Lib.hid (abs_short s h)
    go_enter Try.func14, Try.ntmps14
    go_wp2
    go_ret
    exact ⟨by rw [← H.out]; rfl, rfl⟩

theorem own_form {w : World} {B : Nat} {v : Value} {ps : List (List UInt8)} (h : w.ownsRow B 9 1 v ps.length (partCells ps)) :
    (v = .slice none 0 0 ∧ ps = []) ∨ ∃ g c, v = .slice (some ⟨g, 0, none⟩) ps.length c ∧ B ≤ g ∧ g < w.heap.size ∧ ps.length ≤ c ∧ ∀ (j : Nat) p, ps[j]? = some p → w.cell? ⟨g, j, none⟩ = some (.string ⟨p.toArray⟩) := by
  rcases h.2 with ⟨hv, h0⟩ | ⟨g, cap', cur, hv, hB, hg, hcap, _, _, hcur⟩
  · exact .inl ⟨hv, List.length_eq_zero_iff.1 h0⟩
  · refine .inr ⟨g, cap', hv, hB, (Array.getElem?_eq_some_iff.1 hg).1, hcap, fun j p hj => ?_⟩
    have hjl : j < ps.length := (List.getElem?_eq_some_iff.1 hj).1
    rw [cell_of_row w g j cur 9 (0, 0) hg]
    have h1 : (cur.toList.take (ps.length * 1))[j]? = (partCells ps)[j]? := by rw [hcur]
    rw [List.getElem?_take_of_lt (by omega)] at h1
    rw [← Array.getElem?_toList, h1]
    simp [partCells, hj]

theorem str_add (a b : List UInt8) : (⟨a.toArray⟩ : ByteArray) ++ ⟨b.toArray⟩ = ⟨(a ++ b).toArray⟩ := by
  apply ByteArray.ext
  apply Array.toList_inj.1
  simp

set_option maxHeartbeats 800000 in
theorem joined_any (ps : List (List UInt8)) (v : Value) (B : Nat) (w : World) (ho : w.ownsRow B 9 1 v ps.length (partCells ps)) (hn : wt ps ≤ 100000) :
    Calls Try.prog 32 #[v] w fun e w' => e = .returned (.string ⟨(canon ps).toArray⟩) ∧ Below w.heap.size w w' := by
  have hc := wt_count ps
  have hl := flat_len ps
  rcases own_form ho with ⟨rfl, rfl⟩ | ⟨g, c, rfl, -, hg, hcap, hcells⟩
  · go_enter Try.func32, Try.ntmps32
    go_wp2_with fail
    refine (Try.strings_Join_none none 0 ⟨#[58, 58]⟩ _).mono ?_
    rintro e w' ⟨rfl, rfl⟩
    go_wp2
    go_ret
    exact ⟨rfl, Below.refl _ _⟩
  · have hm : ((ps.map fun p => (⟨p.toArray⟩ : ByteArray)).map (·.data.toList)) = ps := by
      rw [List.map_map]
      exact (List.map_congr_left fun p _ => rfl).trans (List.map_id ps)
    have hjl : (Lib.join ps [58, 58]).length ≤ 140737488355328 := by
      have e := congrArg List.length (join_canon ps)
      have := canon_len ps
      simp at e
      omega
    have J := Try.strings_Join g 0 c (ps.map fun p => (⟨p.toArray⟩ : ByteArray)) ⟨#[58, 58]⟩ w (fun j x hx => by
      rw [List.getElem?_map, Option.map_eq_some_iff] at hx
      obtain ⟨p, hp, rfl⟩ := hx
      rw [Nat.zero_add]
      exact hcells j p hp) hg (by rw [List.length_map]; omega) (by rw [List.length_map]; exact hcap) (by rw [hm]; exact hjl)
    rw [hm, List.length_map] at J
    have E := Lib.hid (join_canon ps)
    have h9 : ¬ 9223372036854775807 < 2 + (join ps [58, 58]).length := by omega
    clear hm hjl hc hl hcells
    go_enter Try.func32, Try.ntmps32
    go_wp2_with fail
    refine J.mono ?_
    rintro e w' ⟨rfl, hb⟩
    go_wp2
    go_ret
    refine ⟨?_, hb⟩
    rw [← E.out, ← str_add]
    rfl

theorem flat_take (ps : List (List UInt8)) (i : Nat) (h : i < ps.length) : flat (ps.take (i + 1)) = flat (ps.take i) ++ (58 :: 58 :: ps[i]) := by
  rw [List.take_succ_eq_append_getElem h]
  unfold flat
  rw [List.flatMap_append]
  simp
theorem flat_take_len (ps : List (List UInt8)) (i : Nat) : (flat (ps.take i)).length ≤ (flat ps).length := by
  have e : flat ps = flat (ps.take i) ++ flat (ps.drop i) := by
    unfold flat
    rw [← List.flatMap_append, List.take_append_drop]
  rw [e, List.length_append]
  omega
theorem flat_canon {ps : List (List UInt8)} (h : ps ≠ []) : flat ps = canon ps := by rw [canon, if_neg h]; rfl

set_option maxHeartbeats 1600000 in
theorem of_any (ps : List (List UInt8)) (ao : Option Addr) (c : Nat) (w : World) (hP : Texts w ao ps) (hn : wt ps ≤ 100000) :
    Calls Try.prog 34 #[.slice ao ps.length c] w fun e w' => e = .returned (.string ⟨(canon ps).toArray⟩) ∧ w = w' := by
  have hc := wt_count ps
  have hl := flat_len ps
  go_enter Try.func34, Try.ntmps34
  go_wp2
  go_loopg [3, 8] ps.length (fun g v3 v8 wx => ∃ i : Nat, v3 = .string ⟨(flat (ps.take i)).toArray⟩ ∧ v8 = .int .i64 i ∧ i ≤ ps.length ∧ ps.length ≤ i + g ∧ w = wx)
  case atStart => exact ⟨0, rfl, rfl, Nat.zero_le _, by omega, rfl⟩
  case round =>
    obtain ⟨i, rfl, rfl, hi, hg, rfl⟩ := hrel
    by_cases hin : i < ps.length
    · have hin1 : (i : Int) < (ps.length : Int) := by omega
      have hi0 : (0 : Int) ≤ (i : Int) := by omega
      obtain ⟨a, rfl, ha⟩ := hP i hin
      have hlt := flat_take_len ps (i + 1)
      have ht := flat_take ps i hin
      have hlen := congrArg List.length ht
      rw [List.length_append] at hlen
      obtain ⟨A, hA⟩ : ∃ A, ps[i] = A := ⟨_, rfl⟩
      rw [hA] at ha ht hlen
      obtain ⟨D, hD⟩ : ∃ D, flat (ps.take i) = D := ⟨_, rfl⟩
      rw [hD] at ht hlen ⊢
      simp at hlen
      have h8 : ¬ 9223372036854775807 < 2 + A.length := by omega
      have h9 : ¬ 9223372036854775807 < D.length + (2 + A.length) := by omega
      have HT := Lib.hid ht
      clear ht hA hD
      obtain ⟨g, rfl⟩ : ∃ g, gk = g + 1 := ⟨gk - 1, by omega⟩
      go_wp2
      go_roundg g
      case measure => omega
      case rel =>
        refine ⟨i + 1, ?_, by push_cast; rfl, by omega, by omega, rfl⟩
        rw [HT.out, ← str_add]
        rfl
    · have hin1 : ¬ (i : Int) < (ps.length : Int) := by omega
      have hie : i = ps.length := by omega
      subst hie
      rw [List.take_length]
      by_cases hp : ps = []
      · subst hp
        go_wp2
        go_ret
        exact ⟨rfl, rfl⟩
      · have hne : (flat ps).isEmpty = false := by
          cases ps with
          | nil => exact absurd rfl hp
          | cons p r => rfl
        have E := Lib.hid (flat_canon hp)
        go_wp2
        go_ret
        exact ⟨by rw [← E.out]; rfl, rfl⟩
end Go.Proofs.Ytcnmblfdieegfaa
