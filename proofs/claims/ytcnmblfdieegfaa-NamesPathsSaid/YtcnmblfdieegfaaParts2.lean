/- Parts of the program. -/
import Derived.Test.YtcnmblfdieegfaaParts1
import Derived.Test.YtcnmblfdieegfaaOwn
namespace Go.Proofs.Ytcnmblfdieegfaa
open Go.RowKit Go.Lib

theorem flushed_len (acc : List UInt8) : (flushed acc).length ≤ 1 := by unfold flushed; split <;> simp

set_option maxHeartbeats 3200000 in
set_option maxRecDepth 100000 in
theorem parts_any (s : ByteArray) (w : World) (hs : s.size ≤ 3000) :
    Calls Try.prog 11 #[.string s] w fun e w' => ∃ v, e = .returned v ∧ w'.ownsRow w.heap.size 9 1 v (partsOf s.data.toList).length (partCells (partsOf s.data.toList)) ∧ Below w.heap.size w w' := by
  obtain ⟨i9, hi9, hy0, hy1, hy2⟩ := info_parts Try.info9
  have hlen : s.data.toList.length = s.size := (Lib.size_eq s).symm
  obtain ⟨l, hl⟩ : ∃ l, s.data.toList = l := ⟨_, rfl⟩
  rw [hl] at hlen ⊢
  have HL := Lib.hid hl
  clear hl
  go_enter Try.func11, Try.ntmps11
  go_wp2
  go_step3
  go_wp2
  go_step3
  go_wp2_with fail
  go_loopg [3, 4, 5] (s.size + 1) (fun g v3 v4 v5 wx => ∃ (i b : Nat) (ps : List (List UInt8)), v4 = .int .i64 b ∧ v5 = .int .i64 i ∧ b ≤ i ∧ i ≤ s.size + 1 ∧ s.size + 1 ≤ i + g ∧ ps.length ≤ i
    ∧ ((i ≤ s.size ∧ ps ++ scan (decide (i = 0)) false ((l.take i).drop b) (l.drop i) = partsOf l) ∨ (i = s.size + 1 ∧ ps = partsOf l)) ∧ wx.ownsRow w.heap.size 9 1 v3 ps.length (partCells ps) ∧ Below w.heap.size w wx)
  case atStart => exact ⟨0, 0, [], rfl, rfl, by omega, by omega, by omega, by simp, .inl ⟨by omega, rfl⟩, World.ownsRow_nil _ _ _ _, Below.refl _ _⟩
  case round =>
    obtain ⟨i, b, ps, rfl, rfl, hbi, hi, hg, hps, hM, hown, hbx⟩ := hrel
    obtain ⟨ao, cc, rfl⟩ := slice_of_own hown
    by_cases hin : i ≤ s.size
    · have hin1 : (i : Int) ≤ (s.size : Int) := by omega
      have hM' := (hM.resolve_right (fun h => by omega)).2
      go_upto_block 2 with fail
      clear hM
      obtain ⟨acc, hacc⟩ : ∃ acc, (l.take i).drop b = acc := ⟨_, rfl⟩
      rw [hacc] at hM'
      have HACC := Lib.hid hacc
      have HOWN := Lib.hid hown
      have HBX := Lib.hid hbx
      have hi0 : (0 : Int) ≤ (i : Int) := by omega
      clear hacc hown hbx
      go_cut [5, 14, 19, 24, 51] from 15 to 60 (fun v5 _ _ _ _ wx => ∃ j : Nat, v5 = .int .i64 j ∧ i ≤ j ∧ ((j = s.size ∧ ps ++ flushed acc = partsOf l) ∨ (j < s.size ∧ ps ++ (flushed acc ++ scan false false [] (l.drop (j + 1))) = partsOf l)) ∧ wr = wx)
      case first =>
        by_cases hin2 : i < s.size
        · have hil : i < l.length := by omega
          have hne : ¬ (i : Int) = (s.size : Int) := by omega
          have hlt : (i : Int) < (s.size : Int) := by omega
          obtain ⟨c, hc⟩ : ∃ c, s[i] = c := ⟨_, rfl⟩
          have hcl : l[i] = c := by
            have h1 : s.data.toList[i]'(by rw [HL.out]; exact hil) = c := hc
            rw [← h1]
            exact (List.getElem_of_eq HL.out _).symm
          have hdr : l.drop i = c :: l.drop (i + 1) := by rw [List.drop_eq_getElem_cons hil, hcl]
          have hacc2 : (l.take (i + 1)).drop b = acc ++ [c] := by
            rw [List.take_succ_eq_append_getElem hil, hcl, List.drop_append_of_le_length (by rw [List.length_take]; omega), HACC.out]
          rw [hdr] at hM'
          have HC := Lib.hid hc
          have hc256 := c.toNat_lt
          by_cases h58 : c = 58
          · subst h58
            have hc1 : ((58 : UInt8).toNat : Int) = 58 := rfl
            by_cases hnx : i + 1 < s.size
            · have hnx1 : (i : Int) + 1 < (s.size : Int) := by omega
              have hnx0 : (0 : Int) ≤ (i : Int) + 1 := by omega
              obtain ⟨d, hd⟩ : ∃ d, s[i + 1] = d := ⟨_, rfl⟩
              have hdl : l.drop (i + 1) = d :: l.drop (i + 2) := by
                have h1 : s.data.toList[i + 1]'(by rw [HL.out]; omega) = d := hd
                rw [List.drop_eq_getElem_cons (by omega : i + 1 < l.length), ← h1]
                congr 1
                exact (List.getElem_of_eq HL.out _).symm
              by_cases hd58 : d = 58
              · subst hd58
                rw [hdl, scan_run] at hM'
                have hM0 : ps ++ (flushed acc ++ scan false true [] (l.drop (i + 1))) = partsOf l := by rw [hdl, scan_run_more]; exact hM'
                clear hM' hdr hcl hacc2 hdl
                go_wp2
                go_loopg [5] s.size (fun g v5 wx => ∃ j : Nat, v5 = .int .i64 j ∧ i ≤ j ∧ j < s.size ∧ s.size ≤ j + g ∧ ps ++ (flushed acc ++ scan false true [] (l.drop (j + 1))) = partsOf l ∧ wr = wx)
                case atStart => exact ⟨i, rfl, Nat.le_refl _, hin2, by omega, hM0, rfl⟩
                case round =>
                  obtain ⟨j, rfl, hij, hjn, hjg, hMj, rfl⟩ := hrel
                  have hj0 : (0 : Int) ≤ (j : Int) + 1 := by omega
                  by_cases hnj : j + 1 < s.size
                  · have hnj1 : (j : Int) + 1 < (s.size : Int) := by omega
                    obtain ⟨x, hx⟩ : ∃ x, s[j + 1] = x := ⟨_, rfl⟩
                    have hxl : l.drop (j + 1) = x :: l.drop (j + 2) := by
                      have h1 : s.data.toList[j + 1]'(by rw [HL.out]; omega) = x := hx
                      rw [List.drop_eq_getElem_cons (by omega : j + 1 < l.length), ← h1]
                      congr 1
                      exact (List.getElem_of_eq HL.out _).symm
                    have hx256 := x.toNat_lt
                    by_cases hx58 : x = 58
                    · subst hx58
                      have HM := Lib.hid (show ps ++ (flushed acc ++ scan false true [] (l.drop (j + 1 + 1))) = partsOf l by
                        rw [hxl, scan_run_more] at hMj
                        exact hMj)
                      obtain ⟨g, rfl⟩ : ∃ g, gk = g + 1 := ⟨gk - 1, by omega⟩
                      clear hMj hxl hM0
                      go_wp2
                      go_roundg g
                      case measure => omega
                      case rel => exact ⟨j + 1, by push_cast; rfl, by omega, hnj, by omega, HM.out, rfl⟩
                    · have hx1 : ((x.toNat : Int) == 58) = false := by
                        simp only [beq_eq_false_iff_ne, ne_eq]
                        exact fun h => hx58 (UInt8.toNat_inj.1 (by rw [show (58 : UInt8).toNat = 58 from rfl]; omega))
                      have HM := Lib.hid (show ps ++ (flushed acc ++ scan false false [] (l.drop (j + 1))) = partsOf l by
                        rw [← scan_run_end (by rw [hxl]; simpa using hx58)]
                        exact hMj)
                      clear hMj hxl hM0
                      go_wp2
                      go_meet
                      exact ⟨j, rfl, hij, .inr ⟨hjn, HM.out⟩, rfl⟩
                  · have hnj1 : ¬ (j : Int) + 1 < (s.size : Int) := by omega
                    have HM := Lib.hid (show ps ++ (flushed acc ++ scan false false [] (l.drop (j + 1))) = partsOf l by
                      rw [← scan_run_end (by rw [List.drop_of_length_le (by omega)]; simp)]
                      exact hMj)
                    clear hMj hM0
                    go_wp2
                    go_meet
                    exact ⟨j, rfl, hij, .inr ⟨hjn, HM.out⟩, rfl⟩
              · have hd1 : ((d.toNat : Int) == 58) = false := by
                  simp only [beq_eq_false_iff_ne, ne_eq]
                  exact fun h => hd58 (UInt8.toNat_inj.1 (by rw [show (58 : UInt8).toNat = 58 from rfl]; omega))
                by_cases hz : i = 0
                · have hb0 : ((i : Int) != 0) = false := by simp [hz]
                  have HM := Lib.hid (show ps ++ (flushed acc ++ scan false false [] (l.drop (i + 1))) = partsOf l by
                    rw [hdl, show decide (i = 0) = true by simpa using hz, scan_lone_first hd58] at hM'
                    rw [hdl]
                    exact hM')
                  have hzle : i ≤ i := Nat.le_refl _
                  have HZ := Lib.hid hz
                  clear hM' hdr hcl hacc2 hdl hz
                  go_wp2
                  go_meet
                  exact ⟨i, rfl, hzle, .inr ⟨hin2, HM.out⟩, rfl⟩
                · have hb0 : ((i : Int) != 0) = true := by simp [hz]
                  have HM := Lib.hid (show ps ++ scan (decide (i + 1 = 0)) false ((l.take (i + 1)).drop b) (l.drop (i + 1)) = partsOf l by
                    rw [hdl, show decide (i = 0) = false by simpa using hz, scan_lone hd58] at hM'
                    rw [hacc2, hdl]
                    exact hM')
                  have HZ := Lib.hid hz
                  obtain ⟨g, rfl⟩ : ∃ g, gk = g + 1 := ⟨gk - 1, by omega⟩
                  clear hM' hdr hcl hacc2 hdl hz
                  go_wp2
                  go_roundg g
                  case measure => omega
                  case rel => exact ⟨i + 1, b, ps, rfl, by push_cast; rfl, by omega, by omega, by omega, by omega, .inl ⟨by omega, HM.out⟩, HOWN.out, HBX.out⟩
            · have hnx1 : ¬ (i : Int) + 1 < (s.size : Int) := by omega
              have hend : l.drop (i + 1) = [] := List.drop_of_length_le (by omega)
              have HM := Lib.hid (show ps ++ (flushed acc ++ scan false false [] (l.drop (i + 1))) = partsOf l by
                rw [hend, scan_last] at hM'
                rw [hend]
                exact hM')
              by_cases hz : i = 0
              · have hb0 : ((i : Int) != 0) = false := by simp [hz]
                have HZ := Lib.hid hz
                clear hM' hdr hcl hacc2 hend hz
                go_wp2
                go_meet
                exact ⟨i, rfl, Nat.le_refl _, .inr ⟨hin2, HM.out⟩, rfl⟩
              · have hb0 : ((i : Int) != 0) = true := by simp [hz]
                have HZ := Lib.hid hz
                clear hM' hdr hcl hacc2 hend hz
                go_wp2
                go_meet
                exact ⟨i, rfl, Nat.le_refl _, .inr ⟨hin2, HM.out⟩, rfl⟩
          · have hc1 : ((c.toNat : Int) != 58) = true := by
              simp only [bne_iff_ne, ne_eq]
              exact fun h => h58 (UInt8.toNat_inj.1 (by rw [show (58 : UInt8).toNat = 58 from rfl]; omega))
            rw [scan_other h58, ← hacc2] at hM'
            have HM := Lib.hid hM'
            obtain ⟨g, rfl⟩ : ∃ g, gk = g + 1 := ⟨gk - 1, by omega⟩
            clear hM' hdr hcl hacc2
            go_wp2
            go_roundg g
            case measure => omega
            case rel => exact ⟨i + 1, b, ps, rfl, by push_cast; rfl, by omega, by omega, by omega, by omega, .inl ⟨by omega, HM.out⟩, HOWN.out, HBX.out⟩
        · obtain rfl : i = s.size := by omega
          have HM := Lib.hid (show ps ++ flushed acc = partsOf l by
            rw [List.drop_of_length_le (by omega)] at hM'
            exact hM')
          clear hM'
          go_wp2
          go_meet
          exact ⟨s.size, rfl, Nat.le_refl _, .inl ⟨rfl, HM.out⟩, rfl⟩
      case rest =>
        obtain ⟨j, rfl, hij, hj, rfl⟩ := hcut
        have hjs : j ≤ s.size := by rcases hj with h | h <;> omega
        have hal : acc.length = i - b := by rw [← HACC.out, List.length_drop, List.length_take]; omega
        have hnil : (l.take (j + 1)).drop (j + 1) = [] := List.drop_of_length_le (by rw [List.length_take]; omega)
        have HREL := Lib.hid (show (j + 1 ≤ s.size ∧ (ps ++ flushed acc) ++ scan (decide (j + 1 = 0)) false ((l.take (j + 1)).drop (j + 1)) (l.drop (j + 1)) = partsOf l) ∨ (j + 1 = s.size + 1 ∧ ps ++ flushed acc = partsOf l) by
          rcases hj with ⟨h1, h2⟩ | ⟨h1, h2⟩
          · exact .inr ⟨by omega, h2⟩
          · refine .inl ⟨by omega, ?_⟩
            rw [hnil, List.append_assoc]
            exact h2)
        have hfl := flushed_len acc
        obtain ⟨g, rfl⟩ : ∃ g, gk = g + 1 := ⟨gk - 1, by omega⟩
        have hj0 : (0 : Int) ≤ (j : Int) + 1 := by omega
        clear hj hnil hM'
        by_cases hib : b < i
        · have hib1 : (i : Int) > (b : Int) := by omega
          have hib2 : (b : Int) ≤ (i : Int) := by omega
          have hb0 : (0 : Int) ≤ (b : Int) := by omega
          have hF := Lib.hid (show flushed acc = [acc] by
            unfold flushed
            rw [if_neg]
            intro h
            rw [h] at hal
            simp at hal
            omega)
          have hex := slice_acc s b i
          rw [HL.out, HACC.out] at hex
          have HEX := Lib.hid hex
          obtain ⟨P, hPe⟩ : ∃ P, s.extract b i = P := ⟨_, rfl⟩
          have HPE := Lib.hid hPe
          clear hex
          go_wp2_with (at_builtin; refine wpList_append_own _ rfl _ _ 28 rfl w.heap.size 9 i9 (.string ⟨#[]⟩) 1 16 Try.underlying28 hi9 hy0 hy1 hy2 rfl (by decide) (.slice ao ps.length cc) ps.length _ rfl ((HOWN.out).alloc _) ⟨wr.heap.size, 0, none⟩ 1 1 [.string P] rfl rfl (cell_one_new _ _ _) (by intro u hu; simp at hu; subst hu; rfl) (by unfold maxLen; omega) (by omega) (by simp; exact Nat.le_trans HBX.out.size (by omega)) ?_; intro v' w2 hown2 hgrow _; obtain ⟨va, vc, rfl⟩ := slice_of_own hown2)
          go_roundg g
          case measure => omega
          case rel =>
            refine ⟨j + 1, j + 1, ps ++ flushed acc, by push_cast; rfl, by push_cast; rfl, Nat.le_refl _, by omega, by omega, by rw [List.length_append]; omega, HREL.out, ?_, ((HBX.out.alloc HBX.out.size _).grown hgrow (by simp; exact Nat.le_trans HBX.out.size (by omega)) (fun q hq => (HOWN.out.lt q hq).1))⟩
            rw [hF.out]
            have e : partCells (ps ++ [acc]) = partCells ps ++ [.string P] := by
              rw [← HPE.out, HEX.out]
              simp [partCells]
            rw [e, List.length_append]
            exact hown2
        · have hib1 : ¬ (i : Int) > (b : Int) := by omega
          have hF := Lib.hid (show flushed acc = [] by
            unfold flushed
            rw [if_pos (List.eq_nil_of_length_eq_zero (by omega))])
          go_wp2
          go_roundg g
          case measure => omega
          case rel =>
            refine ⟨j + 1, j + 1, ps ++ flushed acc, by push_cast; rfl, by push_cast; rfl, Nat.le_refl _, by omega, by omega, by rw [List.length_append]; omega, HREL.out, ?_, HBX.out⟩
            rw [hF.out, List.append_nil]
            exact HOWN.out
    · have hin1 : ¬ (i : Int) ≤ (s.size : Int) := by omega
      have hM' := (hM.resolve_left (fun h => hin h.1)).2
      clear hM
      rw [hM'] at hown
      go_wp2
      go_ret
      exact ⟨_, rfl, hown, hbx⟩
end Go.Proofs.Ytcnmblfdieegfaa
