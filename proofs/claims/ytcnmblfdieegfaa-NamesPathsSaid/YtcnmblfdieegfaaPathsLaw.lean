/- NamesPaths: the walk through the law. -/
import Derived.Test.YtcnmblfdieegfaaAwake16
namespace Go.Proofs.Ytcnmblfdieegfaa
open Go.RowKit Go.Lib Go.ChangeMaps

theorem size_mk (l : List UInt8) : (⟨l.toArray⟩ : ByteArray).size = l.length := by rw [Lib.size_eq]
theorem tail_len (s : ByteArray) : (tailS s).size ≤ s.size := by
  rw [Lib.size_eq s, tailS, size_mk, tailP]
  split
  · exact Nat.le_refl _
  · rw [List.length_drop]; omega
theorem head_len (s : ByteArray) (h : s.size ≤ 400) : (headS s).size ≤ 3000 := by
  have h1 := before_len s
  rw [beforeS, size_mk] at h1
  have h2 := canP_len [] (beforeP s.data.toList)
  rw [headS, size_mk, headP]
  simp at h2
  omega

set_option maxHeartbeats 6400000 in
set_option maxRecDepth 100000 in
theorem paths_any (sp l : ByteArray) (w : World) (z1 : sp.size ≤ 140737488355328) (z2 : l.size ≤ 140737488355328) : Calls Try.prog 4 #[.string sp, .string l] w fun e w' => e = .returned (.bool true) ∧ Below w.heap.size w w' := by
  by_cases hbig : 400 < sp.size + l.size
  · have h1 : (400 : Int) < (sp.size : Int) + (l.size : Int) := by omega
    go_enter Try.func4, Try.ntmps4
    go_wp2_with fail
    refine (awake16 _).mono ?_
    rintro e w' ⟨rfl, hb⟩
    go_wp2
    go_ret
    exact ⟨rfl, hb⟩
  · have h1 : ¬ (400 : Int) < (sp.size : Int) + (l.size : Int) := by omega
    have s1 : sp.size ≤ 400 := by omega
    have s2 : l.size ≤ 400 := by omega
    have hcl := canP_len sp.data.toList l.data.toList
    rw [← Lib.size_eq, ← Lib.size_eq, ← size_mk] at hcl
    have K9a := fun W => canonical_any sp l W (by omega) (by omega)
    have K15 := fun W => refCanonical_any sp l W (by omega) (by omega)
    have K11 := fun W => parts_any l W (by omega)
    have K12 := fun W => parts_ref l W (by omega)
    have K13 := fun W => abs_any l W
    have K14 := fun W => refAbs_any l W
    have K16 := fun W => head_any l W (by omega)
    have K17 := fun W => refHead_any l W (by omega)
    have K18 := fun W => tail_any l W (by omega)
    have K19 := fun W => refTail_any l W (by omega)
    have K9b := fun W => canonical_any ⟨#[58, 58]⟩ ⟨(canP sp.data.toList l.data.toList).toArray⟩ W (by show 2 ≤ 3000; omega) (by omega)
    have K9c := fun W => canonical_any sp ⟨(canP sp.data.toList l.data.toList).toArray⟩ W (by omega) (by omega)
    have K9d := fun W => canonical_any (headS l) (tailS l) W (head_len l s2) (by have := tail_len l; omega)
    have K9e := fun W => canonical_any ⟨#[58, 58]⟩ l W (by show 2 ≤ 3000; omega) (by omega)
    have e1 : (⟨(canP (⟨#[58, 58]⟩ : ByteArray).data.toList (⟨(canP sp.data.toList l.data.toList).toArray⟩ : ByteArray).data.toList).toArray⟩ : ByteArray) = ⟨(canP sp.data.toList l.data.toList).toArray⟩ := congrArg (fun x : List UInt8 => (⟨x.toArray⟩ : ByteArray)) (canP_twice _ _ _)
    have e2 : (⟨(canP sp.data.toList (⟨(canP sp.data.toList l.data.toList).toArray⟩ : ByteArray).data.toList).toArray⟩ : ByteArray) = ⟨(canP sp.data.toList l.data.toList).toArray⟩ := congrArg (fun x : List UInt8 => (⟨x.toArray⟩ : ByteArray)) (canP_twice _ _ _)
    have e3 : (⟨(canP (headS l).data.toList (tailS l).data.toList).toArray⟩ : ByteArray) = ⟨(canP (⟨#[58, 58]⟩ : ByteArray).data.toList l.data.toList).toArray⟩ := congrArg (fun x : List UInt8 => (⟨x.toArray⟩ : ByteArray)) (head_tail l.data.toList)
    rw [e1] at K9b
    rw [e2] at K9c
    rw [e3] at K9d
    have hpl := parts_len l.data.toList
    rw [← Lib.size_eq] at hpl
    clear e1 e2 e3 hcl
    generalize (⟨(canP sp.data.toList l.data.toList).toArray⟩ : ByteArray) = c at *
    generalize (⟨(canP (⟨#[58, 58]⟩ : ByteArray).data.toList l.data.toList).toArray⟩ : ByteArray) = r at *
    generalize headS l = h at *
    generalize tailS l = t at *
    generalize pabs l.data.toList = b at *
    generalize partsOf l.data.toList = ps at *
    have B0 := Below.refl w.heap.size w
    go_enter Try.func4, Try.ntmps4
    go_wp2_with fail
    refine (K9a _).mono ?_
    rintro e w1 ⟨rfl, b1⟩
    go_wp2_with fail
    refine (K11 _).mono ?_
    rintro e w2 ⟨v, rfl, ho, b2⟩
    obtain ⟨ao, cc, rfl⟩ := slice_of_own ho
    have hX := Texts.of_own ho
    have b2' := below_behind b1 b2
    clear ho b1 b2
    go_wp2_with fail
    refine (K12 _).mono ?_
    rintro e w3 ⟨v, rfl, ho, b3⟩
    obtain ⟨ao2, cc2, rfl⟩ := slice_of_own ho
    have hY := Texts.of_own ho
    have hX' := hX.below b3
    have b3' := below_behind b2' b3
    clear ho b3 b2' hX
    go_wp2_with fail
    refine (same_any ps ps ao ao2 cc cc2 _ (by omega) hX' hY).mono ?_
    rintro e w4 ⟨rfl, b4⟩
    have b4' := below_behind b3' b4
    clear b4 b3' hX' hY
    rw [show decide (ps = ps) = true from decide_eq_true rfl]
    go_wp2_with fail
    refine (K13 _).mono ?_
    rintro e w' ⟨rfl, rfl⟩
    go_wp2_with fail
    refine (K14 _).mono ?_
    rintro e w' ⟨rfl, rfl⟩
    go_wp2_with fail
    refine (K15 _).mono ?_
    rintro e w5 ⟨rfl, b5⟩
    have b5' := below_behind b4' b5
    clear b4' b5
    go_wp2_with fail
    refine (K16 _).mono ?_
    rintro e w6 ⟨rfl, b6⟩
    have b6' := below_behind b5' b6
    clear b5' b6
    go_wp2_with fail
    refine (K17 _).mono ?_
    rintro e w7 ⟨rfl, b7⟩
    have b7' := below_behind b6' b7
    clear b6' b7
    go_wp2_with fail
    refine (K18 _).mono ?_
    rintro e w8 ⟨rfl, b8⟩
    have b8' := below_behind b7' b8
    clear b7' b8
    go_wp2_with fail
    refine (K19 _).mono ?_
    rintro e w9 ⟨rfl, b9⟩
    have b9' := below_behind b8' b9
    clear b8' b9
    go_wp2_with fail
    refine (K9b _).mono ?_
    rintro e wa ⟨rfl, ba⟩
    have ba' := below_behind b9' ba
    clear b9' ba
    go_wp2_with fail
    refine (K9c _).mono ?_
    rintro e wb ⟨rfl, bb⟩
    have bb' := below_behind ba' bb
    clear ba' bb
    go_wp2_with fail
    refine (K18 _).mono ?_
    rintro e wc ⟨rfl, bc⟩
    have bc' := below_behind bb' bc
    clear bb' bc
    by_cases ht : t = ⟨#[]⟩
    · subst ht
      go_wp2_with fail
      refine (awake16 _).mono ?_
      rintro e wd ⟨rfl, bd⟩
      have bd' := below_behind bc' bd
      go_wp2
      go_ret
      exact ⟨rfl, bd'⟩
    · have hne := not_empty ht
      clear ht
      go_wp2_with fail
      refine (K16 _).mono ?_
      rintro e wd ⟨rfl, bd⟩
      have bd' := below_behind bc' bd
      clear bc' bd
      go_wp2_with fail
      refine (K9d _).mono ?_
      rintro e we ⟨rfl, be⟩
      have be' := below_behind bd' be
      clear bd' be
      go_wp2_with fail
      refine (K9e _).mono ?_
      rintro e wf ⟨rfl, bf⟩
      have bf' := below_behind be' bf
      clear be' bf
      go_wp2_with fail
      refine (awake16 _).mono ?_
      rintro e wg ⟨rfl, bg⟩
      have bg' := below_behind bf' bg
      go_wp2
      go_ret
      exact ⟨rfl, bg'⟩
end Go.Proofs.Ytcnmblfdieegfaa
