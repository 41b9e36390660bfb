/- Trim of the reference. -/
import Derived.Test.YtneklmalkmeohaaTrim1
namespace Go.Proofs.Ytneklmalkmeohaa
open Go.RowKit Go.Lib

set_option maxHeartbeats 4000000 in
set_option maxRecDepth 100000 in
theorem refTrim_any (s x : ByteArray) (on off : Bool) (w : World) (hs : s.size ≤ 400) (hx : x.size ≤ 400) :
    Calls Try.prog 34 #[.string s, .string x, .bool on, .bool off] w fun e w' => e = .returned (.string ⟨(trimRight off (trimLeft on s.data.toList (hasOf x.data.toList)) (hasOf x.data.toList)).toArray⟩) ∧ w = w' := by
  go_enter Try.func34, Try.ntmps34
  go_upto_block 0 with fail
  go_cut [0] from 9 to 21 (fun v0 wx => w = wx ∧ ∃ S : ByteArray, v0 = .string S ∧ S.size ≤ 400 ∧ S.data.toList = trimLeft on s.data.toList (hasOf x.data.toList))
  case first =>
    go_wp2_with fail
    go_loopg [0] s.size (fun g v0 wx => w = wx ∧ ∃ S : ByteArray, v0 = .string S ∧ S.size = g ∧ g ≤ 400 ∧ trimLeft on S.data.toList (hasOf x.data.toList) = trimLeft on s.data.toList (hasOf x.data.toList) ∧ (on = false → S = s))
    case atStart => exact ⟨rfl, s, rfl, rfl, hs, rfl, fun _ => rfl⟩
    case round =>
      obtain ⟨rfl, S, rfl, hg, hg4, hT, hF⟩ := hrel
      cases on
      · have hS := Lib.hid (hF rfl)
        clear hF hT
        go_wp2
        go_meet
        exact ⟨rfl, S, rfl, by omega, by rw [hS.out]; rfl⟩
      by_cases hE : S.toList.isEmpty = true
      · have HT := Lib.hid hT
        clear hF hT
        go_wp2
        go_meet
        refine ⟨rfl, S, rfl, by omega, ?_⟩
        rw [← HT.out, (empty_iff S).1 hE]
        rfl
      have hE' : S.toList.isEmpty = false := by simpa using hE
      have hpos : 0 < S.size := by
        rcases Nat.eq_zero_or_pos S.size with h | h
        · exact absurd ((empty_iff S).2 (List.eq_nil_of_length_eq_zero (by rw [← Lib.size_eq]; exact h))) hE
        · exact h
      clear hE hF
      have hp1 : (0 : Int) < (S.size : Int) := by omega
      have hp2 : (1 : Int) ≤ (S.size : Int) := by omega
      obtain ⟨c, hc0⟩ : ∃ c, S[0] = c := ⟨_, rfl⟩
      have HC0 := Lib.hid hc0
      have hc := fun W => has_any x c W hx
      by_cases hh : hasOf x.data.toList c = true
      · simp only [hh] at hc
        have HC := Lib.hid hc
        have HT := Lib.hid (show trimLeft true (S.extract 1 S.size).data.toList (hasOf x.data.toList) = trimLeft true s.data.toList (hasOf x.data.toList) by
          rw [← hT, Lib.extract_to_end]
          unfold trimLeft
          rw [if_pos rfl, if_pos rfl]
          conv => rhs; rw [head_split S hpos, List.dropWhile_cons_of_pos (by rw [hc0]; exact hh)])
        obtain ⟨g, rfl⟩ : ∃ g, gk = g + 1 := ⟨gk - 1, by omega⟩
        have HG := Lib.hid hg
        clear hc hh hT hg
        go_wp2_with (go_at_call 64; refine (HC.out _).mono ?_; rintro e w' ⟨rfl, rfl⟩)
        go_roundg g
        case measure => omega
        case rel => exact ⟨rfl, S.extract 1 S.size, rfl, by have := HG.out; simp; omega, by omega, HT.out, fun h => by cases h⟩
      · have hh' : hasOf x.data.toList c = false := by simpa using hh
        simp only [hh'] at hc
        have HC := Lib.hid hc
        have HT := Lib.hid (show S.data.toList = trimLeft true s.data.toList (hasOf x.data.toList) by
          rw [← hT]
          unfold trimLeft
          rw [if_pos rfl]
          conv => rhs; rw [head_split S hpos, List.dropWhile_cons_of_neg (by rw [hc0]; exact hh), ← head_split S hpos])
        clear hc hh hh' hT
        go_wp2_with (go_at_call 64; refine (HC.out _).mono ?_; rintro e w' ⟨rfl, rfl⟩)
        go_meet
        exact ⟨rfl, S, rfl, by omega, HT.out⟩
  case rest =>
    obtain ⟨rfl, S, rfl, hS4, hS⟩ := hcut
    have HS := Lib.hid hS
    clear hS
    go_wp2
    go_loopg [0] S.size (fun g v0 wx => w = wx ∧ ∃ T : ByteArray, v0 = .string T ∧ T.size = g ∧ g ≤ 400 ∧ trimRight off T.data.toList (hasOf x.data.toList) = trimRight off S.data.toList (hasOf x.data.toList) ∧ (off = false → T = S))
    case atStart => exact ⟨rfl, S, rfl, rfl, hS4, rfl, fun _ => rfl⟩
    case round =>
      obtain ⟨rfl, T, rfl, hg, hg4, hT, hF⟩ := hrel
      cases off
      · have hS := Lib.hid (hF rfl)
        clear hF hT
        go_wp2
        go_ret
        refine ⟨?_, rfl⟩
        rw [← HS.out, ← hS.out]
        rfl
      by_cases hE : T.toList.isEmpty = true
      · have HT := Lib.hid (show (⟨(trimRight true S.data.toList (hasOf x.data.toList)).toArray⟩ : ByteArray) = T by
          rw [← hT, (empty_iff T).1 hE]
          apply ByteArray.ext
          apply Array.toList_inj.1
          rw [(empty_iff T).1 hE]
          rfl)
        clear hF hT
        go_wp2
        go_ret
        refine ⟨?_, rfl⟩
        rw [← HS.out, HT.out]
        rfl
      have hE' : T.toList.isEmpty = false := by simpa using hE
      obtain ⟨j, hj⟩ : ∃ j, T.size = j + 1 := by
        rcases Nat.eq_zero_or_pos T.size with h | h
        · exact absurd ((empty_iff T).2 (List.eq_nil_of_length_eq_zero (by rw [← Lib.size_eq]; exact h))) hE
        · exact ⟨T.size - 1, by omega⟩
      clear hE hF
      have hjl : j < T.size := by omega
      have hp0 : (0 : Int) ≤ (j : Int) := by omega
      have hp1 : (j : Int) < (T.size : Int) := by omega
      have hp2 : (T.size : Int) - 1 = (j : Int) := by omega
      have hp3 : (j : Int) ≤ (T.size : Int) := by omega
      have hpw : wrap64 (j : Int) = (j : Int) := by unfold wrap64; omega
      obtain ⟨c, hc0⟩ : ∃ c, T[j] = c := ⟨_, rfl⟩
      have HC0 := Lib.hid hc0
      have hc := fun W => has_any x c W hx
      have HJ := Lib.hid hj
      have HG := Lib.hid hg
      by_cases hh : hasOf x.data.toList c = true
      · simp only [hh] at hc
        have HC := Lib.hid hc
        have HT := Lib.hid (show trimRight true (T.extract 0 j).data.toList (hasOf x.data.toList) = trimRight true S.data.toList (hasOf x.data.toList) by
          rw [← hT, Lib.extract_data, List.drop_zero, Nat.sub_zero]
          unfold trimRight
          rw [if_pos rfl, if_pos rfl]
          conv => rhs; rw [last_split T j hjl hj, List.dropWhile_cons_of_pos (by rw [hc0]; exact hh)])
        obtain ⟨g, rfl⟩ : ∃ g, gk = g + 1 := ⟨gk - 1, by omega⟩
        clear hc hh hT hj hg
        go_wp2_with (go_at_call 64; refine (HC.out _).mono ?_; rintro e w' ⟨rfl, rfl⟩)
        go_roundg g
        case measure => omega
        case rel => exact ⟨rfl, T.extract 0 j, rfl, by have := HG.out; have := HJ.out; simp; omega, by omega, HT.out, fun h => by cases h⟩
      · have hh' : hasOf x.data.toList c = false := by simpa using hh
        simp only [hh'] at hc
        have HC := Lib.hid hc
        have HT := Lib.hid (show (⟨(trimRight true S.data.toList (hasOf x.data.toList)).toArray⟩ : ByteArray) = T by
          rw [← hT]
          apply ByteArray.ext
          apply Array.toList_inj.1
          unfold trimRight
          rw [if_pos rfl, last_split T j hjl hj, List.dropWhile_cons_of_neg (by rw [hc0]; exact hh), ← last_split T j hjl hj, List.reverse_reverse])
        clear hc hh hh' hT hj hg
        go_wp2_with (go_at_call 64; refine (HC.out _).mono ?_; rintro e w' ⟨rfl, rfl⟩)
        go_ret
        refine ⟨?_, rfl⟩
        rw [← HS.out, HT.out]
        rfl
end Go.Proofs.Ytneklmalkmeohaa
