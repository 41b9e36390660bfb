/- mapKeys of the program. -/
import Derived.Test.YtneklmalkmeohaaMaps3
import Derived.Test.YtneklmalkmeohaaEach
import Derived.Deep.OwnRows
import Derived.Deep.DeepCutAuto
import Derived.Deep.CutBlock
namespace Go.Proofs.Ytneklmalkmeohaa
open Go.RowKit Go.Lib

theorem Try.info9 : (Try.prog.info? 9).map (fun i => (i.zero, i.size, i.bytes)) = some (some (.string ⟨#[]⟩), 1, 16) := by kernel_rfl
theorem made_strings (n : Nat) : madeCells #[Value.string ⟨#[]⟩] n = Array.replicate n (.string ⟨#[]⟩) := by
  apply Array.ext
  · simp [madeCells]
  · intro i h1 h2
    simp [madeCells, Nat.mod_one]

theorem add_two (a : Addr) (q : Nat) : (q = 0 ∧ a.add q = a) ∨ a.add q = { block := a.block, off := a.off + q } := by
  cases q with
  | zero => exact .inl ⟨rfl, by simp [Addr.add]⟩
  | succ q => exact .inr (by simp [Addr.add])

set_option maxHeartbeats 3200000 in
set_option maxRecDepth 100000 in
theorem mapKeys_any (prs : List ByteArray) (n2 : Nat) (ao : Option Addr) (cap : Nat) (fold : Bool) (w : World) (hn : prs.length = 2 * n2) (hn2 : n2 ≤ 10) (h4 : ∀ p ∈ prs, p.size ≤ 400) (hP : Strs w ao prs) :
    Calls Try.prog 69 #[.slice ao prs.length cap, .bool fold] w fun e w' => ∃ F, e = .returned (.tuple #[.slice (some ⟨w.heap.size + 1, 0, none⟩) n2 n2, .agg F]) ∧ Has w' (w.heap.size + 1) 9 (keyCells (keyOfPair fold prs) n2 n2)
      ∧ Rows256 w' (w.heap.size + 3) F (idxOf (keyOfPair fold prs) n2) ∧ Below w.heap.size w w' := by
  obtain ⟨i3, hi3, hy0, hy1, hy2⟩ := info_parts Try.info3
  have hmk := fun W => run_make_row' (P := Try.prog) 42 9 (.string ⟨#[]⟩) 16 Try.underlying42 Try.info9 rfl .i64 .i64 n2 (by omega) (by omega) W
  simp only [made_strings] at hmk
  have hq : (prs.length : Int) / 2 = (n2 : Int) := by omega
  have h0 : (0 : Int) ≤ (prs.length : Int) := by omega
  obtain ⟨ks, hks⟩ : ∃ ks, keyOfPair fold prs = ks := ⟨_, rfl⟩
  rw [hks]
  have HN := Lib.hid hn
  clear hn
  go_enter Try.func69, Try.ntmps69
  go_wp2_with fail
  have hR0 : Has (((w.alloc (.cells Try.zeroCells73 73)).alloc (.cells (Array.replicate n2 (.string ⟨#[]⟩)) 9)).alloc (.cells Try.zeroCells73 73)) w.heap.size 73 Try.zeroCells73 := ((Has.new w 73 _).alloc _).alloc _
  have hK0 : Has (((w.alloc (.cells Try.zeroCells73 73)).alloc (.cells (Array.replicate n2 (.string ⟨#[]⟩)) 9)).alloc (.cells Try.zeroCells73 73)) (w.heap.size + 1) 9 (keyCells ks n2 0) := by
    have := (Has.new (w.alloc (.cells Try.zeroCells73 73)) 9 (Array.replicate n2 (.string ⟨#[]⟩))).alloc (.cells Try.zeroCells73 73)
    rw [World.size_alloc] at this
    rw [keyCells_zero]
    exact this
  have hF0 : Has (((w.alloc (.cells Try.zeroCells73 73)).alloc (.cells (Array.replicate n2 (.string ⟨#[]⟩)) 9)).alloc (.cells Try.zeroCells73 73)) (w.heap.size + 2) 73 Try.zeroCells73 := by
    have := Has.new ((w.alloc (.cells Try.zeroCells73 73)).alloc (.cells (Array.replicate n2 (.string ⟨#[]⟩)) 9)) 73 Try.zeroCells73
    rwa [World.size_alloc, World.size_alloc] at this
  have hB0 : Below w.heap.size w (((w.alloc (.cells Try.zeroCells73 73)).alloc (.cells (Array.replicate n2 (.string ⟨#[]⟩)) 9)).alloc (.cells Try.zeroCells73 73)) := (((Below.refl _ w).alloc (Nat.le_refl _) _).alloc (by simp) _).alloc (by simp; omega) _
  have hz0 : (((w.alloc (.cells Try.zeroCells73 73)).alloc (.cells (Array.replicate n2 (.string ⟨#[]⟩)) 9)).alloc (.cells Try.zeroCells73 73)).heap.size = w.heap.size + 3 := by simp
  have hT0 := Rows256.zero (((w.alloc (.cells Try.zeroCells73 73)).alloc (.cells (Array.replicate n2 (.string ⟨#[]⟩)) 9)).alloc (.cells Try.zeroCells73 73)) (w.heap.size + 3)
  have hP0 := hP.below hB0
  generalize (((w.alloc (.cells Try.zeroCells73 73)).alloc (.cells (Array.replicate n2 (.string ⟨#[]⟩)) 9)).alloc (.cells Try.zeroCells73 73)) = W0 at *
  clear hmk hq
  have hsn : ∀ p v, p.block = w.heap.size + 1 → ∀ W, Strs W ao prs → Below w.heap.size w W → Strs (W.setCell p v) ao prs := fun p v hp W _ hb => hP.below (hb.setCell (by omega) v)
  go_loopg [8, 9, 16] n2 (fun g v8 v9 v16 wx => ∃ (k : Nat) (F : Array Value), v16 = .int .i64 k ∧ k + g = n2 ∧ Has wx (w.heap.size + 1) 9 (keyCells ks n2 k) ∧ Has wx (w.heap.size + 2) 73 F ∧ Has wx w.heap.size 73 Try.zeroCells73 ∧ Rows256 wx (w.heap.size + 3) F (idxOf ks k) ∧ Strs wx ao prs ∧ Below w.heap.size w wx ∧ w.heap.size + 3 ≤ wx.heap.size)
  case atStart => exact ⟨0, Try.zeroCells73, rfl, by omega, hK0, hF0, hR0, hT0, hP0, hB0, by omega⟩
  case round =>
    obtain ⟨k, F, rfl, hkg, hK, hF, hR, hT, hPx, hbx, hzx⟩ := hrel
    clear hK0 hF0 hR0 hT0 hP0 hB0 hz0
    by_cases hk : k < n2
    · have hk1 : (k : Int) < (n2 : Int) := by omega
      have hk0 : (0 : Int) ≤ (k : Int) := by omega
      obtain ⟨q, hq⟩ : ∃ q, 2 * k = q := ⟨_, rfl⟩
      have hq1 : (2 : Int) * (k : Int) = (q : Int) := by omega
      have hql : q < prs.length := by have := HN.out; omega
      have hq2 : (q : Int) < (prs.length : Int) := by omega
      have hq3 : (0 : Int) ≤ (q : Int) := by omega
      obtain ⟨ad, rfl, hc⟩ := hPx q hql
      obtain ⟨P, hPe⟩ : ∃ P, prs[q] = P := ⟨_, rfl⟩
      have hP4 := h4 prs[q] (List.getElem_mem hql)
      rw [hPe] at hc hP4
      have hkey : ks k = if fold = true then ⟨(P.data.toList.map smallOf).toArray⟩ else P := by
        rw [← hks]
        unfold keyOfPair
        rw [hq, show prs.getD q ByteArray.empty = P by rw [← hPe]; simp [hql]]
      have HKEY := Lib.hid hkey
      clear hkey hPe
      have c0 := (hK.cell k).trans (keyCells_get ks n2 k k hk)
      rw [if_neg (by omega)] at c0
      have f0 := hK.free k
      have HQ := Lib.hid hq
      clear hq
      go_upto_if 27 with fail
      have hlk : (keyCells ks n2 k).size = n2 := by simp [keyCells]
      have hK1 := hK.put k (.string P)
      have hF1 := hF.far (p := ⟨w.heap.size + 1, k, none⟩) (by simp) (.string P)
      have hR1 := hR.far (p := ⟨w.heap.size + 1, k, none⟩) (by simp) (.string P)
      have hT1 := hT.kept (grownBy_far wr ⟨w.heap.size + 1, k, none⟩ (.string P)) (fun r e => by cases e; simp)
      have hB1 := hbx.setCell (p := ⟨w.heap.size + 1, k, none⟩) (by simp) (.string P)
      have hz1 : w.heap.size + 3 ≤ (wr.setCell ⟨w.heap.size + 1, k, none⟩ (.string P)).heap.size := by simpa using hzx
      have c1 : (wr.setCell ⟨w.heap.size + 1, k, none⟩ (.string P)).cell? ⟨w.heap.size + 1, k, none⟩ = some (.string P) := by
        rw [hK1.cell k]
        simp [hlk, hk]
      clear hK hF hR hT hbx hzx hPx hc c0 f0 hsn
      generalize wr.setCell ⟨w.heap.size + 1, k, none⟩ (.string P) = W1 at *
      go_cut [28] from 29 to 35 (fun _ wx => Has wx (w.heap.size + 1) 9 (keyCells ks n2 (k + 1)) ∧ Has wx (w.heap.size + 2) 73 F ∧ Has wx w.heap.size 73 Try.zeroCells73 ∧ Rows256 wx (w.heap.size + 3) F (idxOf ks k) ∧ Below w.heap.size w wx ∧ w.heap.size + 3 ≤ wx.heap.size)
      case first =>
        cases fold
        · have hput := keyCells_put ks n2 k (.string P) (by rw [HKEY.out]; rfl) hk
          rw [hput] at hK1
          go_wp2
          go_meet
          exact ⟨hK1, hF1, hR1, hT1, hB1, hz1⟩
        · obtain ⟨L, hL⟩ : ∃ L : ByteArray, (⟨(P.data.toList.map smallOf).toArray⟩ : ByteArray) = L := ⟨_, rfl⟩
          have hLow := lower_any P W1 hP4
          rw [hL] at hLow
          have hkl : ks k = L := by rw [HKEY.out, if_pos rfl, hL]
          have HKL := Lib.hid hkl
          clear hL hkl
          go_wp2_with fail
          trace_state
          refine hLow.mono ?_
          rintro e W2 ⟨rfl, hb2⟩
          have hK2 : Has W2 (w.heap.size + 1) 9 ((keyCells ks n2 k).setIfInBounds k (.string P)) := (hb2.block _ hK1.lt).trans hK1
          have hF2 : Has W2 (w.heap.size + 2) 73 F := (hb2.block _ hF1.lt).trans hF1
          have hR2 : Has W2 w.heap.size 73 Try.zeroCells73 := (hb2.block _ hR1.lt).trans hR1
          have hT2 := hT1.kept (grownBy_below hb2) (fun r e => by cases e)
          have hB2 := hB1.trans (hb2.mono hB1.size)
          have hz2 := Nat.le_trans hz1 hb2.size
          have c2 : W2.cell? ⟨w.heap.size + 1, k, none⟩ = some (.string P) := by
            rw [hK2.cell k]
            simp [hlk, hk]
          have f2 := hK2.free k
          have hK3 := hK2.put k (.string L)
          have hput : ((keyCells ks n2 k).setIfInBounds k (.string P)).setIfInBounds k (.string L) = keyCells ks n2 (k + 1) := by
            rw [← keyCells_put ks n2 k (.string L) (by rw [HKL.out]) hk]
            apply Array.ext_getElem?
            intro j
            by_cases e : k = j
            · subst e
              simp [hlk, hk]
            · rw [Array.getElem?_setIfInBounds_ne e, Array.getElem?_setIfInBounds_ne e, Array.getElem?_setIfInBounds_ne e]
          rw [hput] at hK3
          have hF3 := hF2.far (p := ⟨w.heap.size + 1, k, none⟩) (by simp) (.string L)
          have hR3 := hR2.far (p := ⟨w.heap.size + 1, k, none⟩) (by simp) (.string L)
          have hT3 := hT2.kept (grownBy_far W2 ⟨w.heap.size + 1, k, none⟩ (.string L)) (fun r e => by cases e; simp)
          have hB3 := hB2.setCell (p := ⟨w.heap.size + 1, k, none⟩) (by simp) (.string L)
          have hz3 : w.heap.size + 3 ≤ (W2.setCell ⟨w.heap.size + 1, k, none⟩ (.string L)).heap.size := by simpa using hz2
          clear hLow hb2 hK1 hF1 hR1 hT1 hB1 hz1 c1
          go_wp2
          go_meet
          exact ⟨hK3, hF3, hR3, hT3, hB3, hz3⟩
      case rest =>
        obtain ⟨hK1', hF1', hR1', hT1', hB1', hz1'⟩ := hcut
        clear hK1 hF1 hR1 hT1 hB1 hz1 c1
        obtain ⟨Kk, hKk⟩ : ∃ Kk, ks k = Kk := ⟨_, rfl⟩
        have d0 := (hK1'.cell k).trans (keyCells_get ks n2 (k + 1) k hk)
        rw [if_pos (by omega), hKk] at d0
        have HKK := Lib.hid hKk
        have lkb : (keyCells ks n2 (k + 1)).size = n2 := by simp [keyCells]
        by_cases hE : Kk.toList.isEmpty = true
        · have HI := Lib.hid (show idxOf ks (k + 1) = idxOf ks k from funext fun c => idxOf_skip ks k c (by rw [hKk]; exact (empty_iff Kk).1 hE))
          obtain ⟨g, rfl⟩ : ∃ g, gk = g + 1 := ⟨gk - 1, by omega⟩
          clear hKk
          go_wp2
          go_roundg g
          case measure => omega
          case rel => exact ⟨k + 1, F, rfl, by omega, hK1', hF1', hR1', by rw [HI.out]; exact hT1', hP.below hB1', hB1', hz1'⟩
        · have hE' : Kk.toList.isEmpty = false := by simpa using hE
          obtain ⟨x, l, hxl⟩ : ∃ x l, Kk.data.toList = x :: l := by
            cases h : Kk.data.toList with
            | nil => exact absurd ((empty_iff Kk).2 h) hE
            | cons x l => exact ⟨x, l, rfl⟩
          have hpos : 0 < Kk.size := by rw [Lib.size_eq, hxl]; simp
          have hx0 : Kk[0] = x := by
            show Kk.data.toList[0]'(by rw [hxl]; simp) = x
            simp [hxl]
          have hp0 : (0 : Int) < (Kk.size : Int) := by omega
          have hx256 := x.toNat_lt
          obtain ⟨v, hv, hown⟩ := hT1'.row x.toNat hx256
          have HI := Lib.hid (show (fun d => if d = x.toNat then idxOf ks k x.toNat ++ [k] else idxOf ks k d) = idxOf ks (k + 1) from funext fun d => by
            rw [idxOf_next ks k d x l (by rw [hKk]; exact hxl)]
            by_cases e : d = x.toNat
            · rw [if_pos e, if_pos e, e]
            · rw [if_neg e, if_neg e])
          have hle : (idxOf ks k x.toNat).length ≤ k := by
            have := List.length_filter_le (fun j => match (ks j).data.toList with | [] => false | y :: _ => decide (y.toNat = x.toNat)) (List.range k)
            rw [List.length_range] at this
            exact this
          have cF := (hF1'.cell x.toNat).trans hv
          obtain ⟨n, hnn⟩ : ∃ n, (idxOf ks k x.toNat).length = n := ⟨_, rfl⟩
          have hvb : ∀ b, v.ownBlock = some b → w.heap.size + 3 ≤ b := fun b hb => (hown.lt b hb).1
          have hA := hown.kept (grownBy_new wc (.cells #[.int .i64 (k : Int)] 3)) (Classical.em _)
          obtain ⟨va, vc, rfl⟩ := slice_of_own hown
          rw [hnn] at hA hle cF hvb
          have HV := Lib.hid hv
          have HNN := Lib.hid hnn
          have HXL := Lib.hid hxl
          clear hE hKk hxl hown hv hnn
          obtain ⟨g, rfl⟩ : ∃ g, gk = g + 1 := ⟨gk - 1, by omega⟩
          go_wp2_with (at_builtin; refine wpList_append_lies _ rfl _ _ _ rfl (w.heap.size + 3) 3 i3 _ 1 8 Try.underlying72 hi3 hy0 hy1 hy2 rfl (by omega) (.slice va n vc) n _ rfl hA ⟨wc.heap.size, 0, none⟩ 1 1 [.int .i64 (k : Int)] rfl rfl (World.news_of_block (cs := #[.int .i64 (k : Int)]) (t := 3) (fr := (0, 0)) (heap_alloc_new wc _)) (by simp [Value.oneCell']) (by omega) (by unfold maxLen; omega) (by omega) (by simp; omega) (wc.heap.size + 1) (by simp) ?_; intro gb gc w2 own2 hgrow hat hlt; have hF2 := (hF1'.alloc (.cells #[.int .i64 (k : Int)] 3)).grown hgrow (fun e => by have := hvb _ e.symm; omega); have cF2 := (hF2.cell x.toNat).trans (by first | exact (HV.out.trans (by rw [HNN.out]))); have fF2 := hF2.free x.toNat)
          have lKB := hK1'.lt
          have lRB := hR1'.lt
          have nKB : ∀ b, (Value.slice va n vc).ownBlock = some b → b ≠ w.heap.size + 1 := fun b hb e => by have := hvb b hb; omega
          have nRB : ∀ b, (Value.slice va n vc).ownBlock = some b → b ≠ w.heap.size := fun b hb e => by have := hvb b hb; omega
          have hK2 := (hK1'.alloc (.cells #[.int .i64 (k : Int)] 3)).grown hgrow (fun e => nKB _ e.symm rfl)
          have hR2 := (hR1'.alloc (.cells #[.int .i64 (k : Int)] 3)).grown hgrow (fun e => nRB _ e.symm rfl)
          have hB2 := (hB1'.alloc (by omega) (.cells #[.int .i64 (k : Int)] 3)).grown hgrow (by simp; omega) (fun b hb => by have := hvb b hb; omega)
          have hsz2 := hgrow.size
          rw [World.size_alloc] at hsz2
          have hT2 := (hT1'.kept (grownBy_new wc (.cells #[.int .i64 (k : Int)] 3)) (fun r e => by cases e)).append (k := k) (g := gb) (cap := gc) hx256 HV.out (by rw [HNN.out]; exact own2) (by rw [HNN.out]; exact hgrow) (by rw [HNN.out]; simpa using hat)
          rw [HNN.out, HI.out] at hT2
          have hT3 := hT2.kept (grownBy_far w2 ⟨w.heap.size + 2, x.toNat, none⟩ (.slice (some ⟨gb, 0, none⟩) (n + 1) gc)) (fun r e => by cases e; simp)
          go_roundg g
          case measure => omega
          case rel =>
            have hB3 := hB2.setCell (p := ⟨w.heap.size + 2, x.toNat, none⟩) (by simp) (.slice (some ⟨gb, 0, none⟩) (n + 1) gc)
            exact ⟨k + 1, _, rfl, by omega, hK2.far (p := ⟨w.heap.size + 2, x.toNat, none⟩) (by simp) _, hF2.put x.toNat _, hR2.far (p := ⟨w.heap.size + 2, x.toNat, none⟩) (by simp) _, hT3, hP.below hB3, hB3, by simp; omega⟩
    · obtain rfl : k = n2 := by omega
      have hk1 : ¬ (k : Int) < (k : Int) := by omega
      have hu := Try.underlying73
      have hl : F.toList.length = 256 := by simpa using hT.firsts.size
      have hi : (Try.prog.info? 73).map (·.size) = some F.toList.length := by rw [hl]; exact size73
      have h1 := hT.firsts.one
      have hv : wr.rangeAt (w.heap.size + 1 + 1) 0 F.toList := fun j v hj => by rw [Nat.zero_add]; exact (hF.cell j).trans (by simpa using hj)
      have ht : wr.there w.heap.size 0 256 := fun j hj => by
        constructor
        · rw [hR.cell (0 + j)]
          have := zero73_size
          simp
          omega
        · exact hR.free (0 + j)
      go_wp2
      go_region_held3 (fun w' => w'.rangeAt (w.heap.size + 1 + 1) 0 F.toList ∧ w'.there w.heap.size 0 256) (go_keep_ranges) (fail)
      go_wp2
      have KP : Kept (fun k => k = w.heap.size) wr (wr.drew.setCells w.heap.size 0 F.toList) := Kept.puts (S := fun k => k = w.heap.size) (g := w.heap.size) (.inl rfl) _ _ _ (Kept.refl _ wr).drew
      have hrr : (wr.drew.setCells w.heap.size 0 F.toList).rangeAt w.heap.size 0 F.toList := World.rangeAt_setCells_same _ _ _ _ (by rw [hl]; exact ht)
      refine bodyPost_ret (results_tmp_cell rfl _ _ w.heap.size F.toList _ (by rfl) hrr hu rfl hi) rfl ?_
      refine ⟨F, by simp, KP.has hK (by omega), ?_, hbx.trans (KP.below (by omega) (fun k hk h => by omega))⟩
      exact ⟨hT.firsts, fun c hc => by
        obtain ⟨v, hv, ho⟩ := hT.row c hc
        exact ⟨v, hv, KP.owns ho (fun b hb e => by have := (ho.lt b hb).1; omega)⟩, hT.apart⟩
end Go.Proofs.Ytneklmalkmeohaa
