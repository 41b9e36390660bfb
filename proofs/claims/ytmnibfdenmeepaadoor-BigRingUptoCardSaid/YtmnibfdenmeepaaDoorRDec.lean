/- decimal of the reference. -/
import Derived.Test.YtmnibfdenmeepaaDoorRNat
namespace Go.Proofs.YtmnibfdenmeepaaDoor
open Go.RowKit Go.Shelf Big

theorem Tryd.info3 : (Tryd.prog.info? 3).map (fun i => (i.zero, i.size, i.bytes)) = some (some (.int .i64 0), 1, 8) := by kernel_rfl
theorem DecIs.apart {w : World} {B n b : Nat} {v : Value} (h : DecIs w B v n) (hb : ∀ g, v.ownBlock = some g → g ≠ b) (i : Nat) (u : Value) : DecIs (w.setCell ⟨b, i, none⟩ u) B v n :=
  World.ownsRow.kept h (grown_put (grownBy_refl w (some b)) i u) (by
    rcases hv : v.ownBlock with _ | g
    · exact .inl rfl
    · refine .inr ?_
      intro e
      cases e
      exact hb _ hv rfl)
theorem DecIs.new {w : World} {B n : Nat} {v : Value} (h : DecIs w B v n) {b : Nat} (hb : b < B) : ∀ g, v.ownBlock = some g → g ≠ b := fun g hg => by
  have := (World.ownsRow.lt h g hg).1
  omega
theorem DecIs.mono {w : World} {B B' : Nat} {v : Value} {n : Nat} (h : DecIs w B v n) (hb : B' ≤ B) : DecIs w B' v n := by
  refine ⟨h.1, ?_⟩
  rcases h.2 with hn | ⟨g, cap, cur, rfl, h1, hg, h3⟩
  · exact .inl hn
  · exact .inr ⟨g, cap, cur, rfl, by omega, hg, h3⟩
/-- What reading digits answers. -/
def DecRes (B b : Nat) (s : Bool) (l : List UInt8) (w' : World) (e : Ending) : Prop :=
  ∃ v n sg, e = .returned (.tuple #[.agg #[.bool sg, v], .bool (okn b l)]) ∧ DecIs w' B v n ∧ (okn b l = true → n = rdn b l ∧ sg = (s && decide (0 < n)))
/-- The digits of a text's end, the last first. -/
def back (l : List UInt8) (k : Nat) : List Nat := (l.drop k).reverse.map dg
theorem back_step (s : ByteArray) (k : Nat) (hk : k < s.size) : back s.data.toList k = back s.data.toList (k + 1) ++ [dg s[k]] := by
  have hl : k < s.data.toList.length := by rw [← Lib.size_eq]; exact hk
  unfold back
  rw [List.drop_eq_getElem_cons hl, List.reverse_cons, List.map_append]
  rfl
theorem back_len (s : ByteArray) (k : Nat) (_hk : k ≤ s.size) : (back s.data.toList k).length = s.size - k := by
  unfold back
  rw [List.length_map, List.length_reverse, List.length_drop, ← Lib.size_eq]
theorem dg_lt {c : UInt8} {b : Nat} (h : ¬ rdg c b < 0) : dg c < b ∧ rdg c b = (dg c : Int) := by
  unfold rdg at h ⊢
  split at h
  · rename_i h1
    exact ⟨h1, by rw [if_pos h1]⟩
  · omega
theorem dg_ge {c : UInt8} {b : Nat} (h : rdg c b < 0) : ¬ dg c < b := by
  unfold rdg at h
  split at h
  · omega
  · assumption
theorem okn_bad (b : Nat) (s : ByteArray) (k : Nat) (hk : k < s.size) (h : ¬ dg s[k] < b) : okn b s.data.toList = false := by
  have hm : s[k] ∈ s.data.toList := List.getElem_mem (l := s.data.toList) (by rw [← Lib.size_eq]; exact hk)
  unfold okn
  rw [Bool.and_eq_false_iff]
  right
  rw [List.all_eq_false]
  exact ⟨s[k], hm, by simpa using h⟩

theorem okn_ten {l : List UInt8} (h : Ten (back l 0)) : okn 10 l = !l.isEmpty := by
  unfold okn
  have : l.all (fun c => decide (dg c < 10)) = true := by
    rw [List.all_eq_true]
    intro c hc
    rw [decide_eq_true_eq]
    refine h (dg c) ?_
    unfold back
    rw [List.drop_zero]
    exact List.mem_map_of_mem (List.mem_reverse.2 hc)
  rw [this, Bool.and_true]

set_option maxRecDepth 100000 in
set_option maxHeartbeats 2000000 in
theorem decimal_any (s : ByteArray) (b : Bool) (w : World) (hs : s.size ≤ 1000000000000) :
    Calls Tryd.prog 105 #[.bool b, .string s] w fun e w' => DecRes w.heap.size 10 b s.data.toList w' e ∧ Below w.heap.size w w' := by
  obtain ⟨i0, hi, hz0, hz1, hz2⟩ := info_parts Tryd.info3
  have HDg := Lib.hid (fun c W => rDigit_any c 10 (by omega) W)
  go_enter Tryd.func105, Tryd.ntmps105
  go_wp2_with fail
  obtain ⟨W0, hW0⟩ : ∃ W0, w.alloc (.cells #[.bool false, .slice none 0 0] 51) = W0 := ⟨_, rfl⟩
  rw [hW0]
  have hz00 : W0.heap.size = w.heap.size + 1 := by rw [← hW0]; simp
  have HX0 := Lib.hid (show Has W0 w.heap.size 51 #[.bool false, .slice none 0 0] by rw [← hW0]; exact Has.new w _ _)
  have HBB := Lib.hid (show Below w.heap.size w W0 by rw [← hW0]; exact (Below.refl _ w).alloc (Nat.le_refl _) _)
  clear hW0
  go_loopg [6, 7] s.size (fun g v6 v7 wx => v7 = .int .i64 ((g : Int) - 1) ∧ g ≤ s.size ∧ Ten (back s.data.toList g) ∧ wx.ownsRow (w.heap.size + 1) 3 1 v6 (back s.data.toList g).length ((back s.data.toList g).map i64v) ∧ Below (w.heap.size + 1) W0 wx)
  case atStart =>
    have e : back s.data.toList s.size = [] := List.eq_nil_of_length_eq_zero (by rw [back_len s _ (Nat.le_refl _)]; omega)
    refine ⟨rfl, Nat.le_refl _, ?_, ?_, Below.refl _ _⟩
    · rw [e]; intro d hd; cases hd
    · rw [e]; exact World.ownsRow_nil _ _ _ _
  case round =>
    obtain ⟨rfl, hg, hten, hrow, hbx⟩ := hrel
    have hX := (hbx.block w.heap.size (by omega)).trans HX0.out
    have hzx := hbx.size
    have c0 : wr.cell? ⟨w.heap.size, 0, none⟩ = some (.bool false) := Has.cell hX 0
    have c1 : wr.cell? ⟨w.heap.size, 1, none⟩ = some (.slice none 0 0) := Has.cell hX 1
    have f0 := Has.free hX 0
    have f1 := Has.free hX 1
    have HBX := Lib.hid hbx
    have HT := Lib.hid hten
    have HX := Lib.hid hX
    obtain ⟨ao, cc, rfl⟩ := slice_of_own hrow
    cases gk with
    | zero =>
      have HR := Lib.hid hrow
      clear hrow hten hbx hX
      have hN : ev 10 (back s.data.toList 0) = rdn 10 s.data.toList := by rw [rdn_ev]; unfold back; rw [List.drop_zero, List.map_reverse]
      have HOK := Lib.hid (okn_ten HT.out)
      have HN := Lib.hid hN
      clear hN
      go_wp2_with fail
      refine (trimmed_any (w.heap.size + 1) _ (back s.data.toList 0) wr HR.out HT.out (by rw [back_len s 0 (by omega)]; omega)).mono ?_
      rintro e w' ⟨⟨v', rfl, hv⟩, rfl⟩
      rw [HN.out] at hv
      obtain ⟨av, cv, rfl⟩ := hv.slice
      generalize (lims 10 (rdn 10 s.data.toList)).length = L at hv ⊢
      have HV := Lib.hid hv
      clear hv
      go_wp2_with fail
      refine (num_any _ (rdn 10 s.data.toList) _ b _ HV.out).mono ?_
      rintro e w2 ⟨rfl, hb2⟩
      have hX2 := (hb2.block w.heap.size (by omega)).trans HX.out
      have hz2 := hb2.size
      have d0 : w2.cell? ⟨w.heap.size, 0, none⟩ = some (.bool false) := Has.cell hX2 0
      have d1 : w2.cell? ⟨w.heap.size, 1, none⟩ = some (.slice none 0 0) := Has.cell hX2 1
      have g0 := Has.free hX2 0
      have g1 := Has.free hX2 1
      have HV2 := Lib.hid (HV.out.kept hb2)
      have HBF := Lib.hid ((HBB.out.trans (HBX.out.mono (by omega))).trans (hb2.mono (by omega)))
      clear hb2 c0 c1 f0 f1 hX2
      have HD2 := Lib.hid (fun a b => ((HV2.out.apart (HV2.out.new (show w.heap.size < w.heap.size + 1 by omega)) 0 a).apart (b := w.heap.size) (fun g hg => by have := HV2.out.new (show w.heap.size < w.heap.size + 1 by omega) g hg; exact this) 1 b))
      by_cases hE : s.toList.isEmpty = true
      · have HE := Lib.hid ((empty_iff s).1 hE)
        go_wp2
        refine bodyPost_ret (v := .tuple #[.agg #[.bool (b && decide (0 < rdn 10 s.data.toList)), .slice av L cv], .bool false]) (by simp [results, Tryd.results105, go_sem, World.cell?_setCell_same', d0, d1]) rfl ⟨⟨_, _, _, by rw [HOK.out, HE.out]; rfl, DecIs.mono (HD2.out _ _) (by omega), fun _ => ⟨rfl, rfl⟩⟩, (HBF.out.setCell (p := ⟨w.heap.size, 0, none⟩) (Nat.le_refl _) _).setCell (p := ⟨w.heap.size, 1, none⟩) (Nat.le_refl _) _⟩
      · have HE := Lib.hid (show s.data.toList.isEmpty = false by
          cases h : s.data.toList.isEmpty with
          | false => rfl
          | true => exact absurd ((empty_iff s).2 (List.isEmpty_iff.1 h)) hE)
        have hE' : s.toList.isEmpty = false := by simpa using hE
        clear hE
        go_wp2
        refine bodyPost_ret (v := .tuple #[.agg #[.bool (b && decide (0 < rdn 10 s.data.toList)), .slice av L cv], .bool true]) (by simp [results, Tryd.results105, go_sem, World.cell?_setCell_same', d0, d1]) rfl ⟨⟨_, _, _, by rw [HOK.out, HE.out]; rfl, DecIs.mono (HD2.out _ _) (by omega), fun _ => ⟨rfl, rfl⟩⟩, (HBF.out.setCell (p := ⟨w.heap.size, 0, none⟩) (Nat.le_refl _) _).setCell (p := ⟨w.heap.size, 1, none⟩) (Nat.le_refl _) _⟩
    | succ k =>
      have hlen := back_len s (k + 1) hg
      have hi1 : ((k + 1 : Nat) : Int) - 1 = (k : Int) := by omega
      have hi2 : (0 : Int) ≤ (k : Int) := by omega
      have hi3 : (k : Int) < (s.size : Int) := by omega
      have hk : k < s.size := by omega
      obtain ⟨c, hc⟩ : ∃ c, s[k] = c := ⟨_, rfl⟩
      have hst := back_step s k hk
      rw [hc] at hst
      have HC := Lib.hid hc
      have HST := Lib.hid hst
      by_cases hr : rdg c 10 < 0
      · have hbad := okn_bad 10 s k hk (by rw [hc]; exact dg_ge hr)
        have HOK := Lib.hid hbad
        clear hrow hten hbx hX hst hc hbad
        go_wp2_with (go_at_call 122; rw [HC.out]; refine (HDg.out _ _).mono ?_; rintro e w' ⟨rfl, rfl⟩)
        refine bodyPost_ret (v := .tuple #[.agg #[.bool false, .slice none 0 0], .bool false]) (by simp [results, Tryd.results105, go_sem, World.cell?_setCell_same', c0, c1]) rfl ⟨⟨.slice none 0 0, 0, false, by rw [HOK.out], ?_, fun h => by rw [HOK.out] at h; cases h⟩, ((HBB.out.trans (HBX.out.mono (by omega))).setCell (p := ⟨w.heap.size, 0, none⟩) (Nat.le_refl _) _).setCell (p := ⟨w.heap.size, 1, none⟩) (Nat.le_refl _) _⟩
        unfold DecIs
        rw [lims_zero]
        exact World.ownsRow_nil _ _ _ _
      · obtain ⟨hd1, hd2⟩ := dg_lt hr
        obtain ⟨d, hdd⟩ : ∃ d, dg c = d := ⟨_, rfl⟩
        rw [hdd] at hd1 hd2 hst
        have HTN := Lib.hid (show Ten (back s.data.toList k) by
          rw [hst]
          intro x hx
          rcases List.mem_append.1 hx with h | h
          · exact hten x h
          · rw [List.mem_singleton] at h
            omega)
        have HST2 := Lib.hid hst
        obtain ⟨L, hL⟩ : ∃ L, (back s.data.toList (k + 1)).length = L := ⟨_, rfl⟩
        rw [hL] at hrow hlen ⊢
        have HL := Lib.hid hL
        have HLT := Lib.hid (fun g hg => (World.ownsRow.lt hrow g hg).1)
        clear hL
        have HD2 := Lib.hid hd2
        have hd3 : ¬ (d : Int) < 0 := by omega
        have hzw := hzx
        have HLEN := Lib.hid hlen
        have hLb : L ≤ 1000000000000 := by omega
        clear hr hten hbx hX hst hc hdd HST hlen
        go_wp2_with (first
          | (go_at_call 122; rw [HC.out]; refine (HDg.out _ _).mono ?_; rintro e w' ⟨rfl, rfl⟩; rw [HD2.out])
          | (at_builtin; refine wpList_append_own _ rfl _ _ 49 rfl (w.heap.size + 1) 3 i0 (.int .i64 0) 1 8 Tryd.underlying49 hi hz0 hz1 hz2 rfl (by decide) (.slice ao L cc) L _ rfl (hrow.alloc _) ⟨wr.heap.size, 0, none⟩ 1 1 [.int .i64 (d : Int)] rfl rfl (cell_one_new _ _ _) (by intro u hu; simp at hu; subst hu; rfl) (by unfold maxLen; omega) (by omega) (by simp; omega) ?_; intro v' w2 hown2 hgrow _))
        go_roundg k
        case measure => omega
        case rel =>
          refine ⟨rfl, by omega, HTN.out, ?_, ?_⟩
          · rw [HST2.out, List.length_append, List.length_singleton, List.map_append, HL.out]
            exact hown2
          · exact (HBX.out.alloc (by omega) _).grown hgrow (by simp; omega) (fun q hq => HLT.out q hq)
end Go.Proofs.YtmnibfdenmeepaaDoor
