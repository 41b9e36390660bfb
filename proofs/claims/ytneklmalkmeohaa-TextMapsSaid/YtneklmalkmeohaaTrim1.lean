/- Trim of the program. -/
import Derived.Test.YtneklmalkmeohaaForms3
import Derived.Test.YtneklmalkmeohaaSet
import Derived.Deep.DeepCutAuto
import Derived.Deep.CutBlock
namespace Go.Proofs.Ytneklmalkmeohaa
open Go.RowKit Go.Lib Go.Shelf

/-- What Trim leaves, from the left, then from the right. -/
def trimLeft (on : Bool) (l : List UInt8) (p : UInt8 → Bool) : List UInt8 := if on = true then l.dropWhile p else l
def trimRight (on : Bool) (l : List UInt8) (p : UInt8 → Bool) : List UInt8 := if on = true then (l.reverse.dropWhile p).reverse else l

theorem last_split (T : ByteArray) (j : Nat) (h : j < T.size) (hj : T.size = j + 1) : T.data.toList.reverse = T[j] :: (T.data.toList.take j).reverse := by
  have hl : T.data.toList.length = T.size := (Lib.size_eq T).symm
  have h' : j < T.data.toList.length := by omega
  have h2 := List.take_succ_eq_append_getElem h'
  rw [List.take_of_length_le (by omega)] at h2
  conv => lhs; rw [h2]
  rw [List.reverse_append]
  rfl

theorem head_split (S : ByteArray) (h : 0 < S.size) : S.data.toList = S[0] :: S.data.toList.drop 1 := by
  have hl : 0 < S.data.toList.length := by rw [← Lib.size_eq]; exact h
  have h2 := List.drop_eq_getElem_cons hl
  rw [List.drop_zero] at h2
  exact h2

/-- The set's cells behind some bytes. -/
noncomputable def setOf (pre : List UInt8) : Array Value := pre.foldl (fun c x => c.setIfInBounds x.toNat (.bool true)) Try.zeroCells60
theorem zero_all : Try.zeroCells60 = Array.replicate 256 (.bool false) := by kernel_rfl
theorem set_fold (c : UInt8) : ∀ (l : List UInt8) (C : Array Value) (b : Bool), C.size = 256 → C[c.toNat]? = some (.bool b) →
    (l.foldl (fun c x => c.setIfInBounds x.toNat (.bool true)) C)[c.toNat]? = some (.bool (b || hasOf l c))
  | [], C, b, _, h => by rw [List.foldl_nil, h]; simp [hasOf]
  | x :: l, C, b, hC, h => by
    rw [List.foldl_cons]
    by_cases hx : x = c
    · subst hx
      have hx := x.toNat_lt
      rw [set_fold x l _ true (by simpa using hC) (by simp [Array.getElem?_setIfInBounds, hC]; omega)]
      simp [hasOf]
    · have hne : x.toNat ≠ c.toNat := fun h => hx (UInt8.toNat_inj.1 h)
      rw [set_fold c l _ b (by simpa using hC) (by rw [Array.getElem?_setIfInBounds, if_neg hne, h])]
      have hcx : ¬ c = x := fun h => hx h.symm
      simp [hasOf, hcx]
theorem setOf_get (l : List UInt8) (c : UInt8) : (setOf l)[c.toNat]? = some (.bool (hasOf l c)) := by
  have hc := c.toNat_lt
  rw [setOf, set_fold c l Try.zeroCells60 false zero_size (by rw [zero_all, Array.getElem?_replicate, if_pos (by omega)]), Bool.false_or]
theorem setOf_next (s : ByteArray) (k : Nat) (h : k < s.size) : setOf (s.data.toList.take (k + 1)) = (setOf (s.data.toList.take k)).setIfInBounds s[k].toNat (.bool true) := by
  have hl : k < s.data.toList.length := by rw [← Lib.size_eq]; exact h
  rw [List.take_succ_eq_append_getElem hl, setOf, List.foldl_append]
  rfl

set_option maxHeartbeats 4000000 in
set_option maxRecDepth 100000 in
theorem trim_any (s x : ByteArray) (on off : Bool) (w : World) (hs : s.size ≤ 400) (hx : x.size ≤ 400) :
    Calls Try.prog 33 #[.string s, .string x, .bool on, .bool off] w fun e w' => e = .returned (.string ⟨(trimRight off (trimLeft on s.data.toList (hasOf x.data.toList)) (hasOf x.data.toList)).toArray⟩) ∧ Below w.heap.size w w' := by
  have hlen : x.data.toList.length = x.size := (Lib.size_eq x).symm
  have hnew := Has.new w 60 Try.zeroCells60
  have hbel : Below w.heap.size w (w.alloc (.cells Try.zeroCells60 60)) := (Below.refl _ w).alloc (Nat.le_refl _) _
  go_enter Try.func33, Try.ntmps33
  go_upto_block 0 with fail
  go_cut [13] from 13 to 20 (fun v wx => (∃ k : Nat, v = .int .i64 k) ∧ Has wx w.heap.size 60 (setOf x.data.toList) ∧ Below w.heap.size w wx)
  case first =>
    go_wp2_with fail
    go_loopg [13] x.size (fun g v wx => ∃ k : Nat, v = .int .i64 k ∧ k + g = x.size ∧ Has wx w.heap.size 60 (setOf (x.data.toList.take k)) ∧ Below w.heap.size w wx)
    case atStart => exact ⟨0, rfl, by omega, hnew, hbel⟩
    case round =>
      obtain ⟨k, rfl, hkg, hH, hbx⟩ := hrel
      by_cases hk : k < x.size
      · have hk1 : (k : Int) < (x.size : Int) := by omega
        have hk0 : (0 : Int) ≤ (k : Int) := by omega
        obtain ⟨c, hc⟩ : ∃ c, x[k] = c := ⟨_, rfl⟩
        have hn := setOf_next x k hk
        rw [hc] at hn
        have hc256 := c.toNat_lt
        have hcell := (hH.cell c.toNat).trans (setOf_get _ _)
        have hfree := hH.free c.toNat
        have hput := hH.put c.toNat (.bool true)
        rw [← hn] at hput
        have HP := Lib.hid hput
        have HB := Lib.hid (hbx.setCell (p := ⟨w.heap.size, c.toNat, none⟩) (Nat.le_refl _) (.bool true))
        clear hn hput hH hbx
        have HK := Lib.hid hc
        obtain ⟨g, rfl⟩ : ∃ g, gk = g + 1 := ⟨gk - 1, by omega⟩
        go_wp2
        go_roundg g
        case measure => omega
        case rel => exact ⟨k + 1, rfl, by omega, HP.out, HB.out⟩
      · have hk1 : ¬ (k : Int) < (x.size : Int) := by omega
        rw [List.take_of_length_le (by omega)] at hH
        go_wp2
        go_meet
        exact ⟨⟨k, rfl⟩, hH, hbx⟩
  case rest =>
    obtain ⟨⟨k, rfl⟩, hH, hbx⟩ := hcut
    have HCL := Lib.hid (fun c : UInt8 => (hH.cell c.toNat).trans (setOf_get x.data.toList c))
    go_upto_block 2 with fail
    go_cut [0] from 21 to 33 (fun v0 wx => wc = wx ∧ ∃ S : ByteArray, v0 = .string S ∧ S.size ≤ 400 ∧ S.data.toList = trimLeft on s.data.toList (hasOf x.data.toList))
    case first =>
      go_wp2_with fail
      go_loopg [0] s.size (fun g v0 wx => wc = wx ∧ ∃ S : ByteArray, v0 = .string S ∧ S.size = g ∧ g ≤ 400 ∧ trimLeft on S.data.toList (hasOf x.data.toList) = trimLeft on s.data.toList (hasOf x.data.toList) ∧ (on = false → S = s))
      case atStart => exact ⟨rfl, s, rfl, rfl, hs, rfl, fun _ => rfl⟩
      case round =>
        obtain ⟨rfl, S, rfl, hg, hg4, hT, hF⟩ := hrel
        cases on
        · have hS := Lib.hid (hF rfl)
          clear hF hT
          go_wp2
          go_meet
          exact ⟨rfl, S, rfl, by omega, by rw [hS.out]; rfl⟩
        by_cases hE : S.toList.isEmpty = true
        · have HT := Lib.hid hT
          clear hF hT
          go_wp2
          go_meet
          refine ⟨rfl, S, rfl, by omega, ?_⟩
          rw [← HT.out, (empty_iff S).1 hE]
          rfl
        have hE' : S.toList.isEmpty = false := by simpa using hE
        have hpos : 0 < S.size := by
          rcases Nat.eq_zero_or_pos S.size with h | h
          · exact absurd ((empty_iff S).2 (List.eq_nil_of_length_eq_zero (by rw [← Lib.size_eq]; exact h))) hE
          · exact h
        clear hE hF
        have hp1 : (0 : Int) < (S.size : Int) := by omega
        have hp2 : (1 : Int) ≤ (S.size : Int) := by omega
        obtain ⟨c, hc⟩ : ∃ c, S[0] = c := ⟨_, rfl⟩
        have hc256 := c.toNat_lt
        have hcell := HCL.out c
        have HC := Lib.hid hc
        by_cases hh : hasOf x.data.toList c = true
        · rw [hh] at hcell
          have HT := Lib.hid (show trimLeft true (S.extract 1 S.size).data.toList (hasOf x.data.toList) = trimLeft true s.data.toList (hasOf x.data.toList) by
            rw [← hT, Lib.extract_to_end]
            unfold trimLeft
            rw [if_pos rfl, if_pos rfl]
            conv => rhs; rw [head_split S hpos, List.dropWhile_cons_of_pos (by rw [hc]; exact hh)])
          obtain ⟨g, rfl⟩ : ∃ g, gk = g + 1 := ⟨gk - 1, by omega⟩
          have HG := Lib.hid hg
          clear hh hT hg
          go_wp2
          go_roundg g
          case measure => omega
          case rel => exact ⟨rfl, S.extract 1 S.size, rfl, by have := HG.out; simp; omega, by omega, HT.out, fun h => by cases h⟩
        · have hh' : hasOf x.data.toList c = false := by simpa using hh
          rw [hh'] at hcell
          have HT := Lib.hid (show S.data.toList = trimLeft true s.data.toList (hasOf x.data.toList) by
            rw [← hT]
            unfold trimLeft
            rw [if_pos rfl]
            conv => rhs; rw [head_split S hpos, List.dropWhile_cons_of_neg (by rw [hc]; exact hh), ← head_split S hpos])
          clear hh hh' hT
          go_wp2
          go_meet
          exact ⟨rfl, S, rfl, by omega, HT.out⟩
    case rest =>
      obtain ⟨rfl, S, rfl, hS4, hS⟩ := hcut
      have HS := Lib.hid hS
      clear hS
      go_wp2_with fail
      go_loopg [0] S.size (fun g v0 wx => wc = wx ∧ ∃ T : ByteArray, v0 = .string T ∧ T.size = g ∧ g ≤ 400 ∧ trimRight off T.data.toList (hasOf x.data.toList) = trimRight off S.data.toList (hasOf x.data.toList) ∧ (off = false → T = S))
      case atStart => exact ⟨rfl, S, rfl, rfl, hS4, rfl, fun _ => rfl⟩
      case round =>
        obtain ⟨rfl, T, rfl, hg, hg4, hT, hF⟩ := hrel
        cases off
        · have hS := Lib.hid (hF rfl)
          clear hF hT
          go_wp2
          go_ret
          refine ⟨?_, hbx⟩
          rw [← HS.out, ← hS.out]
          rfl
        by_cases hE : T.toList.isEmpty = true
        · have HT := Lib.hid (show (⟨(trimRight true S.data.toList (hasOf x.data.toList)).toArray⟩ : ByteArray) = T by
            rw [← hT, (empty_iff T).1 hE]
            apply ByteArray.ext
            apply Array.toList_inj.1
            rw [(empty_iff T).1 hE]
            rfl)
          clear hF hT
          go_wp2
          go_ret
          refine ⟨?_, hbx⟩
          rw [← HS.out, HT.out]
          rfl
        have hE' : T.toList.isEmpty = false := by simpa using hE
        obtain ⟨j, hj⟩ : ∃ j, T.size = j + 1 := by
          rcases Nat.eq_zero_or_pos T.size with h | h
          · exact absurd ((empty_iff T).2 (List.eq_nil_of_length_eq_zero (by rw [← Lib.size_eq]; exact h))) hE
          · exact ⟨T.size - 1, by omega⟩
        clear hE hF
        have hjl : j < T.size := by omega
        have hp0 : (0 : Int) ≤ (j : Int) := by omega
        have hp1 : (j : Int) < (T.size : Int) := by omega
        have hp2 : (T.size : Int) - 1 = (j : Int) := by omega
        have hp3 : (j : Int) ≤ (T.size : Int) := by omega
        have hpw : wrap64 (j : Int) = (j : Int) := by unfold wrap64; omega
        obtain ⟨c, hc⟩ : ∃ c, T[j] = c := ⟨_, rfl⟩
        have hc256 := c.toNat_lt
        have hcell := HCL.out c
        have HC := Lib.hid hc
        have HJ := Lib.hid hj
        have HG := Lib.hid hg
        by_cases hh : hasOf x.data.toList c = true
        · rw [hh] at hcell
          have HT := Lib.hid (show trimRight true (T.extract 0 j).data.toList (hasOf x.data.toList) = trimRight true S.data.toList (hasOf x.data.toList) by
            rw [← hT, Lib.extract_data, List.drop_zero, Nat.sub_zero]
            unfold trimRight
            rw [if_pos rfl, if_pos rfl]
            conv => rhs; rw [last_split T j hjl hj, List.dropWhile_cons_of_pos (by rw [hc]; exact hh)])
          obtain ⟨g, rfl⟩ : ∃ g, gk = g + 1 := ⟨gk - 1, by omega⟩
          clear hh hT hj hg
          go_wp2
          go_roundg g
          case measure => omega
          case rel => exact ⟨rfl, T.extract 0 j, rfl, by have := HG.out; have := HJ.out; simp; omega, by omega, HT.out, fun h => by cases h⟩
        · have hh' : hasOf x.data.toList c = false := by simpa using hh
          rw [hh'] at hcell
          have HT := Lib.hid (show (⟨(trimRight true S.data.toList (hasOf x.data.toList)).toArray⟩ : ByteArray) = T by
            rw [← hT]
            apply ByteArray.ext
            apply Array.toList_inj.1
            unfold trimRight
            rw [if_pos rfl, last_split T j hjl hj, List.dropWhile_cons_of_neg (by rw [hc]; exact hh), ← last_split T j hjl hj, List.reverse_reverse])
          clear hh hh' hT hj hg
          go_wp2
          go_ret
          refine ⟨?_, hbx⟩
          rw [← HS.out, HT.out]
          rfl
end Go.Proofs.Ytneklmalkmeohaa
