/- Map of the reference. -/
import Derived.Test.YtneklmalkmeohaaMaps1
import Derived.Test.YtneklmalkmeohaaReplaces2
import Derived.Deep.DeepCutAuto
import Derived.Deep.CutBlock
namespace Go.Proofs.Ytneklmalkmeohaa
open Go.RowKit Go.Lib

theorem add_succ (a : Addr) (q : Nat) : a.add (q + 1) = { block := a.block, off := a.off + (q + 1) } := by simp [Addr.add]

set_option maxHeartbeats 400000 in
set_option maxRecDepth 100000 in
theorem refMap_odd (s : ByteArray) (prs : List ByteArray) (ao : Option Addr) (cap : Nat) (fold : Bool) (w : World) (hn : prs.length ≤ 20) (ho : prs.length % 2 = 1) :
    Calls Try.prog 44 #[.string s, .slice ao prs.length cap, .bool fold] w fun e w' => e = .returned (mapVal s prs fold) ∧ w = w' := by
  have H := Lib.hid (show mapVal s prs fold = .tuple #[.string ⟨#[]⟩, .int .i64 1] by unfold mapVal; rw [if_pos ho])
  have h1 : ¬ (prs.length : Int) % 2 = 0 := by omega
  have h0 : (0 : Int) ≤ (prs.length : Int) := by omega
  go_enter Try.func44, Try.ntmps44
  go_wp2
  go_ret2
  exact ⟨by rw [H.out]; rfl, rfl⟩

set_option maxHeartbeats 3200000 in
set_option maxRecDepth 100000 in
theorem refMap_even (s : ByteArray) (prs : List ByteArray) (ao : Option Addr) (cap : Nat) (fold : Bool) (w : World) (hs : s.size ≤ 400) (hn : prs.length ≤ 20) (h4 : ∀ p ∈ prs, p.size ≤ 400) (hP : Strs w ao prs) (ho : prs.length % 2 = 0) :
    Calls Try.prog 44 #[.string s, .slice ao prs.length cap, .bool fold] w fun e w' => e = .returned (mapVal s prs fold) ∧ Below w.heap.size w w' := by
  have hlen : s.data.toList.length = s.size := (Lib.size_eq s).symm
  have h1 : (prs.length : Int) % 2 = 0 := by omega
  have h0 : (0 : Int) ≤ (prs.length : Int) := by omega
  go_enter Try.func44, Try.ntmps44
  go_wp2_with fail
  clear h1
  go_loopg [8, 9] s.size (fun g o a wx => ∃ (O : ByteArray) (i : Nat), o = .string O ∧ a = .int .i64 i ∧ i ≤ s.size ∧ s.size ≤ i + g ∧ O.size ≤ 65536 ∧ mapAll fold prs g O.data.toList (s.data.toList.drop i) = mapAll fold prs s.size [] s.data.toList ∧ Strs wx ao prs ∧ Below w.heap.size w wx)
  case atStart => exact ⟨⟨#[]⟩, 0, rfl, rfl, by omega, by omega, by decide, rfl, hP, Below.refl _ _⟩
  case round =>
    obtain ⟨O, i, rfl, rfl, hi, hg, hO, hM, hPx, hbx⟩ := hrel
    by_cases hk : i < s.size
    · have hk1 : (i : Int) < (s.size : Int) := by omega
      have hk0 : (0 : Int) ≤ (i : Int) := by omega
      have hk2 : (i : Int) + 1 ≤ (s.size : Int) := by omega
      have hk3 : (i : Int) ≤ (i : Int) + 1 := by omega
      obtain ⟨rest, hrest⟩ : ∃ rest, s.data.toList.drop i = rest := ⟨_, rfl⟩
      have hrl : rest.length = s.size - i := by rw [← hrest, List.length_drop, hlen]
      go_upto_block 2 with fail
      go_cut [10, 11, 12, 13, 14] from 28 to 75 (fun st pt v12 v13 v14 wx => ∃ (n : Nat) (v : ByteArray), st = .int .i64 n ∧ pt = .string v ∧ (findPair fold rest prs = some (n, v) ∨ (findPair fold rest prs = none ∧ n = 1 ∧ v = s.extract i (i + 1))) ∧ Strs wx ao prs ∧ Below w.heap.size w wx)
      case first =>
        go_wp2_with fail
        go_loopg [10, 11, 12, 13, 14] prs.length (fun g v10 v11 v12 v13 v14 wx => ∃ j : Nat, v10 = .int .i64 1 ∧ v11 = .string (s.extract i (i + 1)) ∧ v12 = .int .i64 (2 * j : Nat) ∧ prs.length ≤ 2 * j + 2 * g ∧ 2 * j ≤ prs.length ∧ findPair fold rest (prs.drop (2 * j)) = findPair fold rest prs ∧ Strs wx ao prs ∧ Below w.heap.size w wx)
        case atStart => exact ⟨0, rfl, rfl, rfl, by omega, by omega, rfl, hPx, hbx⟩
        case round =>
          obtain ⟨j, rfl, rfl, rfl, hjg, hj, hF, hPy, hby⟩ := hrel
          obtain ⟨q, hq⟩ : ∃ q, 2 * j = q := ⟨_, rfl⟩
          rw [hq]
          have HQ := Lib.hid hq
          by_cases hkq : q < prs.length
          · have hq1 : q + 1 < prs.length := by omega
            obtain ⟨ad, rfl, hc1⟩ := hPy q hkq
            obtain ⟨ad', had, hc2⟩ := hPy (q + 1) hq1
            cases had
            have hstep := findPair_step (fold := fold) (rest := rest) (prs := prs) (j := j) (by omega)
            rw [hF] at hstep
            have hK4 := h4 prs[q] (List.getElem_mem hkq)
            have e1 : prs[2 * j]'(by omega) = prs[q] := getElem_congr rfl hq _
            have e2 : prs[2 * j + 1]'(by omega) = prs[q + 1] := getElem_congr rfl (by omega) _
            rw [e1, e2] at hstep
            obtain ⟨K, hK⟩ : ∃ K, prs[q] = K := ⟨_, rfl⟩
            obtain ⟨V, hV⟩ : ∃ V, prs[q + 1] = V := ⟨_, rfl⟩
            rw [hK] at hc1 hK4 hstep
            rw [hV] at hc2 hstep
            rw [add_succ] at hc2
            have HF := Lib.hid hstep
            clear hstep hF hK hV e1 e2
            have hx0 : (0 : Int) ≤ (q : Int) := by omega
            have hx1 : (q : Int) < (prs.length : Int) := by omega
            have hx2 : (q : Int) + 1 < (prs.length : Int) := by omega
            have HPY := Lib.hid hPy
            have HBY := Lib.hid hby
            have hzy := hby.size
            clear hPy hby
            by_cases hE : K.toList.isEmpty = true
            · have HN := Lib.hid (show findPair fold rest (prs.drop (2 * (j + 1))) = findPair fold rest prs by
                rw [HF.out, (empty_iff K).1 hE, fits_empty, if_neg (by simp)])
              obtain ⟨g, rfl⟩ : ∃ g, gk = g + 1 := ⟨gk - 1, by omega⟩
              go_wp2
              go_roundg g
              case measure => omega
              case rel => exact ⟨j + 1, rfl, rfl, by rw [← HQ.out]; push_cast; congr 1, by omega, by omega, HN.out, HPY.out, HBY.out⟩
            have hE' : K.toList.isEmpty = false := by simpa using hE
            have hKne : K.data.toList ≠ [] := fun h => hE ((empty_iff K).2 h)
            have hKl : K.data.toList.length = K.size := (Lib.size_eq K).symm
            clear hE
            by_cases hfar : i + K.size ≤ s.size
            · have hf1 : ¬ (i : Int) + (K.size : Int) > (s.size : Int) := by omega
              have hf2 : (i : Int) + (K.size : Int) ≤ (s.size : Int) := by omega
              have hf3 : (i : Int) ≤ (i : Int) + (K.size : Int) := by omega
              have hfit := fits_iff fold rest K.data.toList hKne (by omega)
              obtain ⟨T, hT⟩ : ∃ T, s.extract i (i + K.size) = T := ⟨_, rfl⟩
              have hTl : T.data.toList = rest.take K.data.toList.length := by rw [← hT, Lib.extract_data, hrest, hKl, Nat.add_sub_cancel_left]
              have hT4 : T.size ≤ 400 := by rw [Lib.size_eq, hTl, List.length_take]; omega
              rw [← hTl] at hfit
              by_cases hB : (T.toList == K.toList) = true
              · have hTK : T.data.toList = K.data.toList := by
                  rw [toList_data, toList_data] at hB
                  simpa using hB
                have HM := Lib.hid (show findPair fold rest prs = some (K.size, V) by rw [HF.out, if_pos (hfit.2 (by rw [hTK]))])
                clear hfit hTl hTK
                go_wp2
                go_meet
                exact ⟨K.size, V, rfl, rfl, .inl HM.out, HPY.out, HBY.out⟩
              have hB' : (T.toList == K.toList) = false := by simpa using hB
              cases fold
              · have HN := Lib.hid (show findPair false rest (prs.drop (2 * (j + 1))) = findPair false rest prs by
                  rw [HF.out, if_neg]
                  intro h
                  refine hB ?_
                  rw [toList_data, toList_data, show T.data.toList = K.data.toList from hfit.1 h]
                  simp)
                clear hfit hTl hB
                obtain ⟨g, rfl⟩ : ∃ g, gk = g + 1 := ⟨gk - 1, by omega⟩
                go_wp2
                go_roundg g
                case measure => omega
                case rel => exact ⟨j + 1, rfl, rfl, by rw [← HQ.out]; push_cast; congr 1, by omega, by omega, HN.out, HPY.out, HBY.out⟩
              · have hL1 := fun W => refLower_any T W hT4
                have hL2 := fun W => refLower_any K W hK4
                obtain ⟨A, hA⟩ : ∃ A : ByteArray, (⟨(T.data.toList.map smallOf).toArray⟩ : ByteArray) = A := ⟨_, rfl⟩
                obtain ⟨B, hBB⟩ : ∃ B : ByteArray, (⟨(K.data.toList.map smallOf).toArray⟩ : ByteArray) = B := ⟨_, rfl⟩
                rw [hA] at hL1
                rw [hBB] at hL2
                have hAl : A.data.toList = fd true T.data.toList := by rw [← hA]; rfl
                have hBl : B.data.toList = fd true K.data.toList := by rw [← hBB]; rfl
                have HL1 := Lib.hid hL1
                have HL2 := Lib.hid hL2
                clear hL1 hL2 hA hBB
                by_cases hC : (A.toList == B.toList) = true
                · have HM := Lib.hid (show findPair true rest prs = some (K.size, V) by
                    rw [HF.out, if_pos (hfit.2 _)]
                    rw [toList_data, toList_data, hAl, hBl] at hC
                    simpa using hC)
                  clear hfit hTl hAl hBl hB
                  go_wp2_with fail
                  refine (HL1.out _).mono ?_
                  rintro e w1 ⟨rfl, hb1⟩
                  have HW1 := Lib.hid hb1
                  have hz1 := hb1.size
                  have c21 := (hb1.cell (World.block_lt_of_cell? _ _ hc2)).trans hc2
                  clear hb1
                  go_wp2_with fail
                  refine (HL2.out _).mono ?_
                  rintro e w2 ⟨rfl, hb2⟩
                  have HW2 := Lib.hid hb2
                  have c22 := (hb2.cell (World.block_lt_of_cell? _ _ c21)).trans c21
                  clear hb2
                  go_wp2
                  go_meet
                  exact ⟨K.size, V, rfl, rfl, .inl HM.out, (HPY.out.below HW1.out).below HW2.out, (HBY.out.trans (HW1.out.mono hzy)).trans (HW2.out.mono (by omega))⟩
                · have hC' : (A.toList == B.toList) = false := by simpa using hC
                  have HN := Lib.hid (show findPair true rest (prs.drop (2 * (j + 1))) = findPair true rest prs by
                    rw [HF.out, if_neg]
                    intro h
                    refine hC ?_
                    rw [toList_data, toList_data, hAl, hBl, hfit.1 h]
                    simp)
                  clear hfit hTl hAl hBl hB hC
                  obtain ⟨g, rfl⟩ : ∃ g, gk = g + 1 := ⟨gk - 1, by omega⟩
                  go_wp2_with fail
                  refine (HL1.out _).mono ?_
                  rintro e w1 ⟨rfl, hb1⟩
                  have HW1 := Lib.hid hb1
                  have hz1 := hb1.size
                  clear hb1
                  go_wp2_with fail
                  refine (HL2.out _).mono ?_
                  rintro e w2 ⟨rfl, hb2⟩
                  have HW2 := Lib.hid hb2
                  clear hb2
                  go_wp2
                  go_roundg g
                  case measure => omega
                  case rel => exact ⟨j + 1, rfl, rfl, by rw [← HQ.out]; push_cast; congr 1, by omega, by omega, HN.out, (HPY.out.below HW1.out).below HW2.out, (HBY.out.trans (HW1.out.mono hzy)).trans (HW2.out.mono (by omega))⟩
            · have hf1 : (i : Int) + (K.size : Int) > (s.size : Int) := by omega
              have HN := Lib.hid (show findPair fold rest (prs.drop (2 * (j + 1))) = findPair fold rest prs by
                rw [HF.out, fits_far fold rest K.data.toList (by omega), if_neg (by simp)])
              obtain ⟨g, rfl⟩ : ∃ g, gk = g + 1 := ⟨gk - 1, by omega⟩
              go_wp2
              go_roundg g
              case measure => omega
              case rel => exact ⟨j + 1, rfl, rfl, by rw [← HQ.out]; push_cast; congr 1, by omega, by omega, HN.out, HPY.out, HBY.out⟩
          · have hx1 : ¬ (q : Int) < (prs.length : Int) := by omega
            have HN := Lib.hid (show findPair fold rest prs = none by rw [← hF, findPair_end (by omega)])
            clear hF
            go_wp2
            go_meet
            exact ⟨1, _, rfl, rfl, .inr ⟨HN.out, rfl, rfl⟩, hPy, hby⟩
      case rest =>
        obtain ⟨n, v, rfl, rfl, hcase, hPz, hbz⟩ := hcut
        have hne : rest ≠ [] := fun h => by rw [h] at hrl; simp at hrl; omega
        have hst : 1 ≤ n ∧ n ≤ rest.length ∧ v.size ≤ 400 ∧ ∀ g, mapAll fold prs (g + 1) O.data.toList rest = if (O.data.toList ++ v.data.toList).length ≤ 65536 then mapAll fold prs g (O.data.toList ++ v.data.toList) (rest.drop n) else none := by
          rcases hcase with h | ⟨h, rfl, rfl⟩
          · obtain ⟨f1, f2, f3⟩ := findPair_le h
            exact ⟨f1, f2, h4 v f3, fun g => mapAll_hit hne h⟩
          · have hvl : (s.extract i (i + 1)).data.toList = rest.take 1 := by rw [Lib.extract_data, hrest, Nat.add_sub_cancel_left]
            refine ⟨Nat.le_refl _, by omega, by rw [Lib.size_eq, hvl, List.length_take]; omega, fun g => ?_⟩
            rw [hvl]
            cases hc : rest with
            | nil => exact absurd hc hne
            | cons c l =>
              rw [hc] at h
              exact mapAll_miss h
        obtain ⟨n1, n2, v4, hst⟩ := hst
        obtain ⟨g, rfl⟩ : ∃ g, gk = g + 1 := ⟨gk - 1, by omega⟩
        rw [hrest, hst g] at hM
        have happ : (O ++ v).data.toList = O.data.toList ++ v.data.toList := by simp
        have hsz : (O.data.toList ++ v.data.toList).length = O.size + v.size := by rw [List.length_append, ← Lib.size_eq, ← Lib.size_eq]
        rw [hsz, ← happ] at hM
        have m0 : (0 : Int) ≤ (n : Int) := by omega
        have n3 : n ≤ 400 := by omega
        clear hcase hst hne happ hsz
        by_cases hbig : O.size + v.size ≤ 65536
        · rw [if_pos hbig] at hM
          have HM := Lib.hid hM
          have b1 : ¬ (O.size : Int) + (v.size : Int) > 65536 := by omega
          have HR := Lib.hid hrest
          have HRL := Lib.hid hrl
          clear hM hrest hrl
          go_wp2
          go_roundg g
          case measure => omega
          case rel =>
            refine ⟨O ++ v, i + n, rfl, by push_cast; rfl, by have := HRL.out; omega, by omega, by simp; exact hbig, ?_, hPz, hbz⟩
            rw [← HM.out, ← HR.out, List.drop_drop]
        · rw [if_neg hbig] at hM
          have HV := Lib.hid (show mapVal s prs fold = .tuple #[.string ⟨#[]⟩, .int .i64 4] by
            unfold mapVal
            rw [if_neg (by omega), ← hM])
          have b1 : (O.size : Int) + (v.size : Int) > 65536 := by omega
          clear hM
          go_wp2
          go_ret2
          exact ⟨by rw [HV.out]; rfl, hbz⟩
    · obtain rfl : i = s.size := by omega
      have HV := Lib.hid (show mapVal s prs fold = .tuple #[.string O, .int .i64 0] by
        unfold mapVal
        rw [if_neg (by omega), ← hM, List.drop_of_length_le (by omega), mapAll_nil])
      have hk1 : ¬ (s.size : Int) < (s.size : Int) := by omega
      clear hM
      go_wp2_with (go_at_call 68; refine (long_short O _ hO).mono ?_; rintro e w' ⟨rfl, rfl⟩)
      go_ret2
      exact ⟨by rw [HV.out]; rfl, hbx⟩

theorem refMap_any (s : ByteArray) (prs : List ByteArray) (ao : Option Addr) (cap : Nat) (fold : Bool) (w : World) (hs : s.size ≤ 400) (hn : prs.length ≤ 20) (h4 : ∀ p ∈ prs, p.size ≤ 400) (hP : Strs w ao prs) :
    Calls Try.prog 44 #[.string s, .slice ao prs.length cap, .bool fold] w fun e w' => e = .returned (mapVal s prs fold) ∧ Below w.heap.size w w' := by
  by_cases ho : prs.length % 2 = 1
  · exact (refMap_odd s prs ao cap fold w hn ho).mono fun _ _ ⟨he, hw⟩ => ⟨he, hw ▸ Below.refl _ _⟩
  · exact refMap_even s prs ao cap fold w hs hn h4 hP (by omega)
end Go.Proofs.Ytneklmalkmeohaa
