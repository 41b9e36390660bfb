/- VarsSplits returns true for every input and leaves its argument as it was: Split of the program answers as that of the reference does, for all words, and a word put together again is the word. No condition. -/
import Derived.Test.YtcnmblfdieegfaaSplit2
import Derived.Test.YtcnmblfdieegfaaAwake
import Derived.ProofKit
import Derived.HandedShaped
import Derived.Shelf.Vars
import Derived.Below
import Derived.ChangeSame
namespace Go.Proofs.Ytcnmblfdieegfaa
open Go.ChangeShapes Go.WideShapes Go.ChangeAt Go.RowKit Go.Lib
open Go.ChangeMaps (open_string shut_string)

theorem split_back (s : ByteArray) (k j : Nat) (hk : openOf s = k) (hj : s.size = j + 1) (hkj : k + 1 ≤ j) (hl : s.data.toList.getLast? = some 41) :
    s.extract 0 k ++ ⟨#[40]⟩ ++ s.extract (k + 1) j ++ ⟨#[41]⟩ = s := by
  have hlen : s.data.toList.length = j + 1 := by rw [← Lib.size_eq]; exact hj
  have h1 := (indexByte_some hk).1
  apply ByteArray.ext
  apply Array.toList_inj.1
  simp only [ByteArray.data_append, Array.toList_append, Lib.extract_data, List.drop_zero, Nat.sub_zero]
  generalize s.data.toList = l at *
  rw [List.getElem?_eq_getElem (by omega)] at h1
  rw [List.getLast?_eq_getElem?, hlen, Nat.add_sub_cancel, List.getElem?_eq_getElem (by omega)] at hl
  have e40 : [(40 : UInt8)] = [l[k]'(by omega)] := by rw [Option.some.inj h1]
  have e41 : [(41 : UInt8)] = [l[j]'(by omega)] := by rw [Option.some.inj hl]
  show l.take k ++ [40] ++ (l.drop (k + 1)).take (j - (k + 1)) ++ [41] = l
  have h3 : (l.drop (k + 1)).take (j - (k + 1)) ++ [41] = l.drop (k + 1) := by
    have hd : (l.drop (k + 1)).length = j - (k + 1) + 1 := by rw [List.length_drop]; omega
    have h4 := List.take_succ_eq_append_getElem (l := l.drop (k + 1)) (i := j - (k + 1)) (by omega)
    rw [List.take_of_length_le (by omega), List.getElem_drop] at h4
    rw [e41]
    conv => rhs; rw [h4]
    congr 2
    exact getElem_congr rfl (by omega) _
  rw [List.append_assoc, h3, e40, ← List.take_succ_eq_append_getElem (by omega), List.take_append_drop]

/-- What Split hands on, and that it can be put together. -/
theorem split_ways (s : ByteArray) (hs : s.size ≤ 300) {Q : Prop} (whole : splitVal s = .tuple #[.string s, .string ⟨#[]⟩, .bool false] → Q)
    (parts : ∀ A B : ByteArray, splitVal s = .tuple #[.string A, .string B, .bool true] → A.size ≤ 300 → B.size ≤ 300 → A ++ ⟨#[40]⟩ ++ B ++ ⟨#[41]⟩ = s → Q) : Q := by
  by_cases h : isElem s = true
  · have h' := h
    unfold isElem at h'
    rw [Bool.and_eq_true, decide_eq_true_eq] at h'
    obtain ⟨h1, h2⟩ := h'
    have h2' : s.data.toList.getLast? = some 41 := by simpa using h2
    obtain ⟨k, hk⟩ : ∃ k : Nat, openOf s = k := ⟨(openOf s).toNat, by omega⟩
    have hlt := open_lt hk
    obtain ⟨j, hj⟩ : ∃ j, s.size = j + 1 := ⟨s.size - 1, by omega⟩
    have hkj : k + 1 ≤ j := by
      rcases Nat.lt_or_ge k j with h | h
      · exact h
      · exfalso
        have e : k = j := by omega
        subst e
        have h3 := (indexByte_some hk).1
        rw [List.getLast?_eq_getElem?, show s.data.toList.length - 1 = k by rw [← Lib.size_eq]; omega, h3] at h2'
        exact absurd (Option.some.inj h2') (by decide)
    refine parts (s.extract 0 k) (s.extract (k + 1) j) ?_ (by simp; omega) (by simp; omega) (split_back s k j hk hj hkj h2')
    unfold splitVal
    rw [if_pos h, hk, hj]
    simp
  · exact whole (by unfold splitVal; rw [if_neg h])

theorem below_drewN {w : World} (n : Nat) : Below w.heap.size w (w.drewN n) := ⟨rfl, rfl, rfl, Nat.le_refl _, fun _ _ => rfl⟩

set_option maxHeartbeats 1600000 in
set_option maxRecDepth 100000 in
theorem splits_any (s : ByteArray) (w : World) : Calls Try.prog 3 #[.string s] w fun e w' => e = .returned (.bool true) ∧ Below w.heap.size w w' := by
  by_cases hs : 300 < s.size
  · have hs1 : (s.size : Int) > 300 := by omega
    clear hs
    go_enter Try.func3, Try.ntmps3
    go_wp2_with fail
    refine (awake_any _).mono ?_
    rintro e w' ⟨rfl, hb⟩
    go_wp2
    go_ret
    exact ⟨rfl, hb⟩
  · have hs1 : ¬ (s.size : Int) > 300 := by omega
    have h4 : s.size ≤ 400 := by omega
    refine split_ways s (by omega) (fun hv => ?_) (fun A B hv hA hB he => ?_)
    · have hS := fun W => split_any s W h4
      have hR := fun W => refSplit_any s W h4
      rw [hv] at hS hR
      clear hv
      go_enter Try.func3, Try.ntmps3
      go_wp2_with fail
      refine (hS _).mono ?_
      rintro e w' ⟨rfl, m, rfl⟩
      go_wp2_with fail
      refine (hR _).mono ?_
      rintro e w' ⟨rfl, m2, rfl⟩
      have hb2 : Below w.heap.size w ((w.drewN m).drewN m2) := (below_drewN m).trans ⟨rfl, rfl, rfl, Nat.le_refl _, fun _ _ => rfl⟩
      generalize (w.drewN m).drewN m2 = W2 at *
      go_wp2_with fail
      refine (awake_any _).mono ?_
      rintro e w' ⟨rfl, hb⟩
      go_wp2
      go_ret
      exact ⟨rfl, hb2.trans (hb.mono hb2.size)⟩
    · have hS := fun W => split_any s W h4
      have hR := fun W => refSplit_any s W h4
      rw [hv] at hS hR
      clear hv
      go_enter Try.func3, Try.ntmps3
      go_wp2_with fail
      refine (hS _).mono ?_
      rintro e w' ⟨rfl, m, rfl⟩
      go_wp2_with fail
      refine (hR _).mono ?_
      rintro e w' ⟨rfl, m2, rfl⟩
      have hb2 : Below w.heap.size w ((w.drewN m).drewN m2) := (below_drewN m).trans ⟨rfl, rfl, rfl, Nat.le_refl _, fun _ _ => rfl⟩
      generalize (w.drewN m).drewN m2 = W2 at *
      go_wp2_with fail
      refine (awake_any _).mono ?_
      rintro e w' ⟨rfl, hb⟩
      go_wp2
      go_ret
      exact ⟨rfl, hb2.trans (hb.mono hb2.size)⟩

theorem Try.own : ownKnob Try.prog.godebug = none := by kernel_rfl

set_option maxRecDepth 100000 in
theorem splits_lifted (os : Os) (started : os.Started) (H : Type) (enc : TypeId × Value → H) :
    ReturnsInHanded {} Try.checked os 3 .any (Rows.varsSplitsSpec.pre6 enc Try.prog Try.f3 Rows.varsSplitsRow.domain false) (Rows.varsSplitsSpec.post enc Try.prog Try.f3 false true false false) := by
  refine returnsInHanded_of_change_shaped (C := Try.checked) Try.own started (by kernel_rfl) Try.func3
    (ChangeSpec.witness6 (enc := enc) (C := Try.checked) false ⟨#[], #[.string ⟨#[]⟩], []⟩ 8 (by kernel_rfl) (by kernel_rfl) (by kernel_rfl) (by kernel_rfl)) ?_
  intro W base args ds gs before hval0 hW hcnd _ hsh _
  have hval : ∀ (j : Nat) t v, Try.f3.params[j]? = some t → args[j]? = some v → Value.okWide Try.prog W .any base t v := hval0
  have hW' := hW
  obtain ⟨p, q, hA0, hV, rfl, hfz, hnd⟩ := hW
  have hA : DataW.TrodAll enc Try.prog W 0 (fun _ => true) true Try.f3.params.toList args.toList ds p := hA0
  rw [Try.params3] at hA hval
  obtain ⟨v0, d0, rfl, rfl, h0⟩ := trodAll_one hA
  obtain ⟨rfl, rfl⟩ := trodVars_none hV
  obtain ⟨a, rfl, rfl, rfl, wa⟩ := open_string Try.underlying9 (hval 0 9 v0 rfl rfl) h0
  clear hA0 hval0
  refine (splits_any a W).mono fun e W' ⟨he, bel⟩ => ?_
  subst he
  exact ⟨_, rfl, _, _, _, [], _, [], hW', trodAll_mk1 (shut_bool Try.underlying4 _), trodAll_mk1 (shut_string Try.underlying9 wa), rfl, bel.frame _, fun h => by cases h⟩

theorem splits_holds : Rows.VarsSplitsSaid :=
  OpenClaim.holds_of_wide 3 Try.f3 rfl rfl rfl rfl rfl rfl rfl ⟨rfl, rfl, rfl, rfl, rfl⟩ rfl rfl rfl rfl rfl (by kernel_rfl) Try.func3 (by kernel_rfl)
    (of_decide_eq_true (by kernel_rfl)) (by unfold Func.isWrapper; first | (rw [if_pos (by decide +kernel)]; kernel_rfl) | (rw [if_neg (by decide +kernel)]; exact ⟨rfl, rfl⟩))
    (fun os started H enc _ => splits_lifted os started H enc)
end Go.Proofs.Ytcnmblfdieegfaa
