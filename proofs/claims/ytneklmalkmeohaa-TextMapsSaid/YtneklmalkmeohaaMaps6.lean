/- Map of the program. -/
import Derived.Test.YtneklmalkmeohaaMaps4
import Derived.Test.YtneklmalkmeohaaMaps5
import Derived.Test.YtneklmalkmeohaaUnesc6
namespace Go.Proofs.Ytneklmalkmeohaa
open Go.RowKit Go.Lib

set_option maxHeartbeats 400000 in
set_option maxRecDepth 100000 in
theorem map_odd (s : ByteArray) (prs : List ByteArray) (ao : Option Addr) (cap : Nat) (fold : Bool) (w : World) (hn : prs.length ≤ 20) (ho : prs.length % 2 = 1) :
    Calls Try.prog 43 #[.string s, .slice ao prs.length cap, .bool fold] w fun e w' => e = .returned (mapVal s prs fold) ∧ w = w' := by
  have H := Lib.hid (show mapVal s prs fold = .tuple #[.string ⟨#[]⟩, .int .i64 1] by unfold mapVal; rw [if_pos ho])
  have h1 : ¬ (prs.length : Int) % 2 = 0 := by omega
  have h0 : (0 : Int) ≤ (prs.length : Int) := by omega
  go_enter Try.func43, Try.ntmps43
  go_wp2
  go_step3
  go_wp2
  rw [Exit.noGoto_ret]
  go_ret2
  exact ⟨by rw [H.out]; rfl, rfl⟩

theorem Below.drewAt'' {B : Nat} {w W : World} (hB : Below B w W) (n : Nat) : Below B w (W.drewN n) := hB.trans ⟨rfl, rfl, rfl, Nat.le_refl _, fun _ _ => rfl⟩

theorem add_succ' (a : Addr) (q : Nat) : a.add (q + 1) = { block := a.block, off := a.off + (q + 1) } := by simp [Addr.add]

theorem Has.fresh' {w : World} {g : Nat} (h : w.heap.size = g) (t : TypeId) (cs : Array Value) : Has (w.alloc (.cells cs t)) g t cs := h ▸ Has.new w t cs

set_option maxHeartbeats 3200000 in
set_option maxRecDepth 100000 in
theorem map_even (s : ByteArray) (prs : List ByteArray) (n2 : Nat) (ao : Option Addr) (cap : Nat) (fold : Bool) (w : World) (hs : s.size ≤ 400) (hn : prs.length = 2 * n2) (hn2 : n2 ≤ 10) (h4 : ∀ p ∈ prs, p.size ≤ 400) (hP : Strs w ao prs) :
    Calls Try.prog 43 #[.string s, .slice ao prs.length cap, .bool fold] w fun e w' => e = .returned (mapVal s prs fold) ∧ Below w.heap.size w w' := by
  have hlen : s.data.toList.length = s.size := (Lib.size_eq s).symm
  have h1 : (prs.length : Int) % 2 = 0 := by omega
  have h0 : (0 : Int) ≤ (prs.length : Int) := by omega
  have HN := Lib.hid hn
  clear hn
  go_enter Try.func43, Try.ntmps43
  go_wp2
  go_step3
  go_upto_if 20 with fail
  clear h1
  go_cut [8] from 21 to 22 (fun v8 wx => ∃ seen : ByteArray, v8 = .string seen ∧ seen.data.toList = fd fold s.data.toList ∧ Below w.heap.size w wx)
  case first =>
    cases fold
    · go_wp2
      go_meet
      exact ⟨s, rfl, rfl, Below.refl _ _⟩
    · have hL := lower_any s w hs
      go_wp2_with fail
      refine hL.mono ?_
      rintro e w1 ⟨rfl, hb⟩
      go_wp2
      go_meet
      exact ⟨_, rfl, rfl, hb⟩
  case rest =>
    obtain ⟨seen, rfl, hseen, hb1⟩ := hcut
    have hP1 := hP.below hb1
    have hm := mapKeys_any prs n2 ao cap fold wc HN.out hn2 h4 hP1
    go_wp2_with fail
    refine hm.mono ?_
    rintro e w1 ⟨F, rfl, hK, hT, hb2⟩
    have hi : (Try.prog.info? 73).map (·.size) = some F.size := by rw [hT.firsts.size]; exact size73
    have ho := all_oneCell_toArray hT.firsts.one
    simp only [Array.toArray_toList] at ho
    have ht : (w1.alloc (.cells Try.zeroCells73 73)).there w1.heap.size 0 F.size := fun j hj => by
      have hN := Has.new w1 73 Try.zeroCells73
      rw [hT.firsts.size] at hj
      have := zero73_size
      constructor
      · rw [hN.cell (0 + j)]
        simp
        omega
      · exact hN.free (0 + j)
    clear hm
    go_wp2_with (refine wpList_store_mid rfl 73 (.tmp 10) (.tmp 28) rfl w1.heap.size 0 F rfl rfl ht hi ho ?_)
    have KP : Kept (fun k => k = w1.heap.size) (w1.alloc (.cells Try.zeroCells73 73)) ((w1.alloc (.cells Try.zeroCells73 73)).setCells w1.heap.size 0 F.toList) := Kept.puts (S := fun k => k = w1.heap.size) (g := w1.heap.size) (.inl rfl) _ _ _ (Kept.refl _ _)
    have hrr : ((w1.alloc (.cells Try.zeroCells73 73)).setCells w1.heap.size 0 F.toList).rangeAt w1.heap.size 0 F.toList := World.rangeAt_setCells_same _ _ _ _ (by simpa using ht)
    have K1 : Kept (fun k => k = w1.heap.size) w1 ((w1.alloc (.cells Try.zeroCells73 73)).setCells w1.heap.size 0 F.toList) := ((Kept.refl _ w1).alloc _).trans KP
    have lK := hK.lt
    have hK0 := K1.has hK (by omega)
    have hb3 : Below w1.heap.size w1 ((w1.alloc (.cells Try.zeroCells73 73)).setCells w1.heap.size 0 F.toList) := K1.below (Nat.le_refl _) (fun k hk e => by omega)
    have hT0 := hT.kept (grownBy_below hb3) (fun r e => by cases e)
    have hP0 := hP1.below (hb2.trans (hb3.mono hb2.size))
    have hB0 := hb1.trans ((hb2.trans (hb3.mono hb2.size)).mono hb1.size)
    have hz0 := KP.size
    rw [World.size_alloc] at hz0
    have hrc : ∀ c v, F[c]? = some v → ((w1.alloc (.cells Try.zeroCells73 73)).setCells w1.heap.size 0 F.toList).cell? ⟨w1.heap.size, c, none⟩ = some v := fun c v h => by
      have := hrr c v (by simpa using h)
      rwa [Nat.zero_add] at this
    obtain ⟨X, hX⟩ : ∃ X, (w1.alloc (.cells Try.zeroCells73 73)).setCells w1.heap.size 0 F.toList = X := ⟨_, rfl⟩
    rw [hX] at hK0 hT0 hP0 hB0 hz0 hrc ⊢
    clear hX KP hrr K1 hb3 ht ho hi hK hT hb2 hP1 hP hb1
    generalize w1.heap.size = fb at *
    generalize wc.heap.size + 1 = kb at *
    obtain ⟨b, hbe⟩ : ∃ b, X.heap.size = b := ⟨_, rfl⟩
    have hbd : Lib.IsBuilder 64 5 b b [] (X.alloc (.cells #[.pointer none, .slice none 0 0] 64)) := .inl ⟨Nat.le_refl _, _, Has.fresh' hbe 64 _, World.ownsRow_nil _ _ _ _, by simp [Value.ownBlock]⟩
    have hBX : Below b X (X.alloc (.cells #[.pointer none, .slice none 0 0] 64)) := (Below.refl _ X).alloc (by omega) _
    have hwb : w.heap.size ≤ b := by have := hB0.size; omega
    rw [hbe]
    go_step3
    go_wp2_with fail
    go_loopg [12] s.size (fun g a wx => ∃ (i : Nat) (O : List UInt8), a = .int .i64 i ∧ i ≤ s.size ∧ s.size ≤ i + g ∧ O.length ≤ 66000 ∧ ((O.length ≤ 65536 ∧ mapAll fold prs g O (s.data.toList.drop i) = mapAll fold prs s.size [] s.data.toList) ∨ (65536 < O.length ∧ mapAll fold prs s.size [] s.data.toList = none)) ∧ Lib.IsBuilder 64 5 b b (byteCells O) wx ∧ Below b X wx)
    case atStart => exact ⟨0, [], rfl, by omega, by omega, by simp, .inl ⟨by simp, rfl⟩, hbd, hBX⟩
    case round =>
      obtain ⟨i, O, rfl, hi, hg, hO, hM, hbx, hXx⟩ := hrel
      have HLn : Calls Try.prog 70 #[.pointer (some ⟨b, 0, none⟩)] wr fun e w' => e = .returned (.int .i64 (O.length : Int)) ∧ wr = w' := by
        have := len_any b _ wr hbx
        rwa [Lib.byteCells_length] at this
      have HBX := Lib.hid hbx
      have HXX := Lib.hid hXx
      have hzx := hXx.size
      by_cases hk : i < s.size
      · have hk1 : (i : Int) < (s.size : Int) := by omega
        have hk0 : (0 : Int) ≤ (i : Int) := by omega
        by_cases hol : O.length ≤ 65536
        · have hol1 : (O.length : Int) ≤ 65536 := by omega
          obtain ⟨G, rfl⟩ : ∃ G, gk = G + 1 := ⟨gk - 1, by omega⟩
          have hM' := hM.resolve_right (fun h => by omega)
          have HM := Lib.hid hM'.2
          clear hM hM' hbx hXx
          have hsl : seen.data.toList.length = s.size := by rw [hseen, fd_len, hlen]
          have hss : seen.size = s.size := by rw [Lib.size_eq, hsl]
          have hsi : i < seen.size := by omega
          have hsi1 : (i : Int) < (seen.size : Int) := by omega
          have hsi2 : (i : Int) ≤ (seen.size : Int) := by omega
          have HSS := Lib.hid hss
          clear hss
          obtain ⟨x, hx⟩ : ∃ x, seen[i]'hsi = x := ⟨_, rfl⟩
          have hx256 := x.toNat_lt
          obtain ⟨rest, hrest⟩ : ∃ rest, s.data.toList.drop i = rest := ⟨_, rfl⟩
          have hfx : fd fold rest = x :: (fd fold rest).tail := by
            rw [← hrest, fd_drop, ← hseen]
            have := List.drop_eq_getElem_cons (l := seen.data.toList) (i := i) (by omega)
            rw [this, show seen.data.toList[i]'(by omega) = x from hx]
            rfl
          have hfp := findPair_idx fold rest n2 x.toNat prs x _ HN.out hfx rfl
          obtain ⟨v, hv, ho⟩ := hT0.row x.toNat hx256
          have hcf : wr.cell? ⟨fb, x.toNat, none⟩ = some v := (HXX.out.cell (p := ⟨fb, x.toNat, none⟩) (by simp; omega)).trans (hrc _ _ hv)
          obtain ⟨va, vc, rfl⟩ := slice_of_own ho
          obtain ⟨idx, hidx⟩ : ∃ idx, idxOf (keyOfPair fold prs) n2 x.toNat = idx := ⟨_, rfl⟩
          rw [hidx] at ho hcf hfp
          have hmem : ∀ k ∈ idx, k < n2 := fun k hk => by
            rw [← hidx] at hk
            unfold idxOf at hk
            exact List.mem_range.1 (List.mem_filter.1 hk).1
          have hil : idx.length ≤ n2 := by
            rw [← hidx]
            unfold idxOf
            exact Nat.le_trans (List.length_filter_le _ _) (by rw [List.length_range]; exact Nat.le_refl _)
          have HX := Lib.hid hx
          clear hv hidx
          obtain ⟨n, hnn⟩ : ∃ n, idx.length = n := ⟨_, rfl⟩
          rw [hnn] at ho hcf
          have hn1 : n ≤ 10 := by omega
          go_wp2_with (go_at_call 70; refine HLn.mono ?_; rintro e w' ⟨rfl, rfl⟩)
          go_loopg [12, 14, 43] n (fun g v12 _ v43 wx => ∃ j : Nat, v12 = .int .i64 (i : Int) ∧ v43 = .int .i64 j ∧ j + g = n ∧ (∀ q (h : q < idx.length), q < j → Lib.hasPrefix (fd fold rest) (keyOfPair fold prs idx[q]).data.toList = false) ∧ Lib.IsBuilder 64 5 b b (byteCells O) wx ∧ Below b X wx)
          case atStart => exact ⟨0, rfl, rfl, by omega, fun q h hq => by omega, HBX.out, HXX.out⟩
          case round =>
            obtain ⟨j, rfl, rfl, hjg, hno, hby, hXy⟩ := hrel
            have HBY := Lib.hid hby
            have HXY := Lib.hid hXy
            have hzy := hXy.size
            by_cases hj : j < n
            · have hjl : j < idx.length := by omega
              have hj1 : (j : Int) < (n : Int) := by omega
              have hj0 : (0 : Int) ≤ (j : Int) := by omega
              rcases ho.2 with ⟨he, _⟩ | ⟨gr, cp, cur, he, _⟩
              · exfalso
                simp at he
                omega
              have he' := he
              simp only [Value.slice.injEq] at he'
              obtain ⟨rfl, -, rfl⟩ := he'
              obtain ⟨k, hke⟩ : ∃ k, idx[j] = k := ⟨_, rfl⟩
              have hkn : k < n2 := by rw [← hke]; exact hmem _ (List.getElem_mem hjl)
              have c1 := ints_cells ho j (.int .i64 (k : Int)) (by simp [ints, hjl, hke])
              have lgr := (ho.lt gr rfl).2
              have d1 : wr.cell? ⟨gr, j, none⟩ = some (.int .i64 (k : Int)) := (HXY.out.cell (p := ⟨gr, j, none⟩) (by simp; omega)).trans c1
              have c2 := (hK0.cell k).trans (keyCells_get _ n2 n2 k hkn)
              rw [if_pos hkn] at c2
              have lkb := hK0.lt
              have d2 : wr.cell? ⟨kb, k, none⟩ = some (.string (keyOfPair fold prs k)) := (HXY.out.cell (p := ⟨kb, k, none⟩) (by simp; omega)).trans c2
              obtain ⟨Kk, hKk⟩ : ∃ Kk, keyOfPair fold prs k = Kk := ⟨_, rfl⟩
              rw [hKk] at d2
              have hk2 : (k : Int) < (n2 : Int) := by omega
              have hk3 : (0 : Int) ≤ (k : Int) := by omega
              have hdrop : (seen.extract i seen.size).data.toList = fd fold rest := by rw [Lib.extract_to_end, hseen, ← hrest, fd_drop]
              have hpre := fun W => Try.strings_HasPrefix (seen.extract i seen.size) Kk W
              rw [hdrop] at hpre
              by_cases hh : Lib.hasPrefix (fd fold rest) Kk.data.toList = true
              · rw [hh] at hpre
                have hq : 2 * k + 1 < prs.length := by have := HN.out; omega
                obtain ⟨ad, rfl, cV⟩ := hP0 (2 * k + 1) hq
                obtain ⟨V, hV⟩ : ∃ V, prs[2 * k + 1] = V := ⟨_, rfl⟩
                have hV4 := h4 _ (List.getElem_mem hq)
                rw [hV] at cV hV4
                have hfind : findPair fold rest prs = some (Kk.size, V) := by
                  rw [hfp, find_at idx j hjl hno (by rw [hke, hKk]; exact hh), hke, Option.map_some, ← keyOf_size fold, hKk]
                  congr 2
                  rw [← hV]
                  simp [hq]
                obtain ⟨m1, m2, _⟩ := findPair_le hfind
                have hrl : rest.length = s.size - i := by rw [← hrest, List.length_drop, hlen]
                have hrne : rest ≠ [] := fun h => by rw [h] at hrl; simp at hrl; omega
                have hM2 := HM.out
                rw [hrest, mapAll_hit hrne hfind] at hM2
                obtain ⟨q, hqe⟩ : ∃ q, 2 * k = q := ⟨_, rfl⟩
                rw [hqe] at cV hq
                rw [add_succ'] at cV
                have q1 : (2 : Int) * (k : Int) = (q : Int) := by omega
                have q2 : (q : Int) + 1 < (prs.length : Int) := by omega
                have q3 : (0 : Int) ≤ (q : Int) := by omega
                have hKs : Kk.size ≤ 400 := by omega
                have hK1 : 1 ≤ Kk.size := m1
                have HPRE := Lib.hid hpre
                have HMM := Lib.hid hM2
                have HR := Lib.hid hrest
                have his : i + Kk.size ≤ s.size := by omega
                clear hno hby hXy hpre hdrop hh hfp hmem hke hKk c1 c2 he hV hfind m1 m2 hrl hrne hM2 hqe hrest
                go_wp2
                go_quiet ((go_at_call 71; exact Calls.quiet_of_same (HPRE.out _)))
                have HB3 : Lib.IsBuilder 64 5 b b (byteCells O) (wr.drewN nq) := HBY.out
                have HX3 := Below.drewAt'' HXY.out nq
                have e1 : (wr.drewN nq).cell? { block := ad.block, off := ad.off + (q + 1) } = some (.string V) := (HX3.cell (p := { block := ad.block, off := ad.off + (q + 1) }) (by have := World.block_lt_of_cell? X _ cV; simp at this ⊢; omega)).trans cV
                have hz3 := HX3.size
                go_wp2_with (go_at_call 65; refine (write_any b b (byteCells O) V _ HB3 (by rw [Lib.byteCells_length]; omega) (by omega)).mono ?_; rintro e w5 ⟨rfl, hat, hbw⟩; have HX5 := HX3.trans hbw; have d5 : w5.cell? ⟨kb, k, none⟩ = some (.string Kk) := (hbw.cell (p := ⟨kb, k, none⟩) (by simp; omega)).trans d2)
                go_roundg G
                case measure => omega
                case rel =>
                  have hsz : (O ++ V.data.toList).length = O.length + V.size := by rw [List.length_append, ← Lib.size_eq]
                  refine ⟨i + Kk.size, O ++ V.data.toList, by push_cast; rfl, his, by omega, by omega, ?_, .inr (by rw [Lib.byteCells_append]; exact hat), HX5⟩
                  have h := HMM.out
                  by_cases hl : (O ++ V.data.toList).length ≤ 65536
                  · rw [if_pos hl] at h
                    exact .inl ⟨hl, by rw [← List.drop_drop, HR.out]; exact h⟩
                  · rw [if_neg hl] at h
                    exact .inr ⟨by omega, h.symm⟩
              · have hh' : Lib.hasPrefix (fd fold rest) Kk.data.toList = false := by simpa using hh
                rw [hh'] at hpre
                have HNO := Lib.hid (show ∀ q (h : q < idx.length), q < j + 1 → Lib.hasPrefix (fd fold rest) (keyOfPair fold prs idx[q]).data.toList = false from fun q h hq => by
                  rcases Nat.lt_succ_iff_lt_or_eq.1 hq with h1 | h1
                  · exact hno q h h1
                  · subst h1
                    rw [hke, hKk]
                    exact hh')
                have HPRE := Lib.hid hpre
                clear hno hby hXy hpre hdrop hh hh' hfp hmem hke hKk c1 c2 he
                obtain ⟨g, rfl⟩ : ∃ g, gk = g + 1 := ⟨gk - 1, by omega⟩
                go_wp2
                go_quiet ((go_at_call 71; exact Calls.quiet_of_same (HPRE.out _)))
                go_wp2
                go_roundg g
                case measure => omega
                case rel => exact ⟨j + 1, rfl, rfl, by omega, HNO.out, HBY.out, Below.drewAt'' HXY.out _⟩
            · have hj1 : ¬ (j : Int) < (n : Int) := by omega
              have hnone : findPair fold rest prs = none := by
                rw [hfp, find_none idx (fun q h => hno q h (by omega))]
                rfl
              obtain ⟨c, hcs⟩ : ∃ c, s[i] = c := ⟨_, rfl⟩
              have hrc2 : rest = c :: s.data.toList.drop (i + 1) := by
                rw [← hrest, List.drop_eq_getElem_cons (by omega : i < s.data.toList.length)]
                congr 1
              have hM2 := HM.out
              rw [hrest, hrc2] at hM2
              rw [hrc2] at hnone
              rw [mapAll_miss hnone] at hM2
              have HMM := Lib.hid hM2
              clear hno hby hXy hfp hmem hrest hnone hrc2 hM2
              go_wp2_with (go_at_call 72; refine (writeByte_any b b (byteCells O) c _ HBY.out (by rw [Lib.byteCells_length]; omega) (by omega)).mono ?_; rintro e w5 ⟨rfl, hat, hbw⟩; have HX5 := HXY.out.trans hbw)
              go_roundg G
              case measure => omega
              case rel =>
                have hsz : (O ++ [c]).length = O.length + 1 := by simp
                refine ⟨i + 1, O ++ [c], by push_cast; rfl, by omega, by omega, by omega, ?_, .inr (by rw [Lib.byteCells_append]; exact hat), HX5⟩
                have h := HMM.out
                by_cases hl : (O ++ [c]).length ≤ 65536
                · rw [if_pos hl] at h
                  exact .inl ⟨hl, h⟩
                · rw [if_neg hl] at h
                  exact .inr ⟨by omega, h.symm⟩
        · have hol1 : ¬ (O.length : Int) ≤ 65536 := by omega
          have hol2 : (O.length : Int) > 65536 := by omega
          have hM' := (hM.resolve_left (fun h => hol h.1)).2
          have HV := Lib.hid (show mapVal s prs fold = .tuple #[.string ⟨#[]⟩, .int .i64 4] by
            unfold mapVal
            rw [if_neg (by have := HN.out; omega), hM'])
          clear hM hM'
          go_wp2_with (go_at_call 70; refine HLn.mono ?_; rintro e w' ⟨rfl, rfl⟩)
          rw [Exit.noGoto_ret]
          go_ret2
          exact ⟨by rw [HV.out]; rfl, hB0.trans (HXX.out.mono hwb)⟩
      · obtain rfl : i = s.size := by omega
        have hk1 : ¬ (s.size : Int) < (s.size : Int) := by omega
        by_cases hol : O.length ≤ 65536
        · have hol1 : ¬ (O.length : Int) > 65536 := by omega
          have hM' := (hM.resolve_right (fun h => by omega)).2
          have HV := Lib.hid (show mapVal s prs fold = .tuple #[.string ⟨O.toArray⟩, .int .i64 0] by
            unfold mapVal
            rw [if_neg (by have := HN.out; omega), ← hM', List.drop_of_length_le (by omega), mapAll_nil])
          clear hM hM'
          go_wp2_with (first | (go_at_call 70; refine HLn.mono ?_; rintro e w' ⟨rfl, rfl⟩) | (go_at_call 66; refine (Try.Builder_String_any b b O _ HBX.out (by omega)).mono ?_; rintro e w' ⟨rfl, hbw⟩))
          rw [Exit.noGoto_ret]
          go_ret2
          exact ⟨by rw [HV.out]; rfl, hB0.trans ((HXX.out.mono hwb).trans (hbw.mono hwb))⟩
        · have hol2 : (O.length : Int) > 65536 := by omega
          have hM' := (hM.resolve_left (fun h => hol h.1)).2
          have HV := Lib.hid (show mapVal s prs fold = .tuple #[.string ⟨#[]⟩, .int .i64 4] by
            unfold mapVal
            rw [if_neg (by have := HN.out; omega), hM'])
          clear hM hM'
          go_wp2_with (go_at_call 70; refine HLn.mono ?_; rintro e w' ⟨rfl, rfl⟩)
          rw [Exit.noGoto_ret]
          go_ret2
          exact ⟨by rw [HV.out]; rfl, hB0.trans (HXX.out.mono hwb)⟩

theorem map_any (s : ByteArray) (prs : List ByteArray) (ao : Option Addr) (cap : Nat) (fold : Bool) (w : World) (hs : s.size ≤ 400) (hn : prs.length ≤ 20) (h4 : ∀ p ∈ prs, p.size ≤ 400) (hP : Strs w ao prs) :
    Calls Try.prog 43 #[.string s, .slice ao prs.length cap, .bool fold] w fun e w' => e = .returned (mapVal s prs fold) ∧ Below w.heap.size w w' := by
  by_cases ho : prs.length % 2 = 1
  · exact (map_odd s prs ao cap fold w hn ho).mono fun _ _ ⟨he, hw⟩ => ⟨he, hw ▸ Below.refl _ _⟩
  · exact map_even s prs (prs.length / 2) ao cap fold w hs (by omega) (by omega) h4 hP
end Go.Proofs.Ytneklmalkmeohaa
