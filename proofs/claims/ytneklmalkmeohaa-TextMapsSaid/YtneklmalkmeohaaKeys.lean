/- text.mapKeys at the pairs of the example. -/
import Derived.Test.YtneklmalkmeohaaRead
import Derived.Deep.RegionHeld3
import Derived.Deep.MidRow
import Derived.Deep.DeepCutAuto
attribute [local go_sem ↓] Go.wp_at_zero Go.wp_at_succ
namespace Go.Proofs.Ytneklmalkmeohaa
open Go.RowKit

theorem Try.info3 : (Try.prog.info? 3).map (fun i => (i.zero, i.size, i.bytes)) = some (some (.int .i64 0), 1, 8) := by kernel_rfl
theorem size73 : (Try.prog.info? 73).map (·.size) = some 256 := by kernel_rfl
theorem zero73_size : Try.zeroCells73.size = 256 := by kernel_rfl
theorem zero73_97 : Try.zeroCells73[97]? = some (.slice none 0 0) := by kernel_rfl
theorem zero73_98 : Try.zeroCells73[98]? = some (.slice none 0 0) := by kernel_rfl

theorem Kept.puts {S : Nat → Prop} {a : World} {g : Nat} (hg : S g ∨ a.heap.size ≤ g) : ∀ (vs : List Value) (o : Nat) (b : World), Kept S a b → Kept S a (b.setCells g o vs)
  | [], _, _, h => h
  | v :: vs, o, _b, h => Kept.puts hg vs (o + 1) _ (h.put (p := ⟨g, o, none⟩) hg v)

theorem results_tmp_cell {fn : Func} {u p : Tmp} {ty : TypeId} (h : fn.results = #[.tmp u, .cell p ty]) (tmps : Array Value) (W : World) (g : Nat) (cs : List Value) (d : TypeDesc)
    (hp : tmps.getD p undef = .pointer (some ⟨g, 0, none⟩)) (hc : W.rangeAt g 0 cs) (hu : Try.prog.underlying ty = some d) (hd : d.isRow = true) (hi : (Try.prog.info? ty).map (·.size) = some cs.length) :
    (results fn tmps).run Try.prog W = .ok (.tuple #[tmps.getD u undef, .agg cs.toArray]) W := by
  have hp' : tmps[p]?.getD undef = .pointer (some ⟨g, 0, none⟩) := by simpa using hp
  simp [results, h, hp', asAddr, run_loadVar_mid W g 0 ty cs d hc hu hd hi]

theorem zero73_one : ∀ v ∈ Try.zeroCells73.toList, v.oneCell' = true := by
  have h : Try.zeroCells73.toList.all (fun v => v.oneCell') = true := by kernel_rfl
  exact fun v hv => (List.all_eq_true.1 h) v hv

theorem Kept.cell {S : Nat → Prop} {a b : World} (h : Kept S a b) {p : Addr} {v : Value} (hp : a.cell? p = some v) (hs : ¬ S p.block) : b.cell? p = some v :=
  (World.cell?_of_block (h.block p.block (World.block_lt_of_cell? a _ hp) hs)).trans hp
theorem ints_cells {w : World} {base g n cap : Nat} {xs : List Value} (h : w.ownsRow base 3 1 (.slice (some ⟨g, 0, none⟩) n cap) n xs) : ∀ (j : Nat) (u : Value), xs[j]? = some u → w.cell? ⟨g, j, none⟩ = some u := fun j u hj => by
  have := h.cells (g := g) rfl j u hj
  have hadd : (⟨g, 0, none⟩ : Addr).add j = ⟨g, j, none⟩ := by unfold Addr.add; split <;> simp_all
  rwa [hadd] at this

/-- An array of 256 lists of numbers: how it is kept when one is set. -/
structure Firsts (F : Array Value) : Prop where
  size : F.size = 256
  one : ∀ v ∈ F.toList, v.oneCell' = true
theorem Firsts.zero : Firsts Try.zeroCells73 := ⟨zero73_size, zero73_one⟩
theorem Firsts.put {F : Array Value} (h : Firsts F) (i : Nat) (v : Value) (hv : v.oneCell' = true) : Firsts (F.setIfInBounds i v) := by
  refine ⟨by rw [Array.size_setIfInBounds]; exact h.size, fun u hu => ?_⟩
  rw [Array.toList_setIfInBounds] at hu
  rcases List.mem_or_eq_of_mem_set hu with h1 | h1
  · exact h.one u h1
  · rw [h1]; exact hv
theorem Firsts.same {F : Array Value} (h : Firsts F) {i : Nat} (hi : i < 256) (v : Value) : (F.setIfInBounds i v)[i]? = some v := by
  have h1 : i < F.size := by rw [h.size]; exact hi
  simp [h1]
theorem Firsts.other {F : Array Value} {i j : Nat} (hij : i ≠ j) (v : Value) : (F.setIfInBounds i v)[j]? = F[j]? := Array.getElem?_setIfInBounds_ne hij

/-- What mapKeys makes of the pairs a b, b a. -/
def Keyed (w : World) (e : Ending) (w' : World) : Prop := ∃ (gA cA gB cB : Nat) (F : Array Value), e = .returned (.tuple #[.slice (some ⟨w.heap.size + 1, 0, none⟩) 2 2, .agg F]) ∧
  Has w' (w.heap.size + 1) 9 #[.string ⟨#[97]⟩, .string ⟨#[98]⟩] ∧ Firsts F ∧ F[97]? = some (.slice (some ⟨gA, 0, none⟩) 1 cA) ∧ F[98]? = some (.slice (some ⟨gB, 0, none⟩) 1 cB) ∧
  w'.cell? ⟨gA, 0, none⟩ = some (.int .i64 0) ∧ w'.cell? ⟨gB, 0, none⟩ = some (.int .i64 1) ∧ Below w.heap.size w w'

set_option maxRecDepth 100000 in
set_option maxHeartbeats 1600000 in
theorem mapKeys_at (pb : Nat) (w : World) (hp : Has w pb 9 #[.string ⟨#[97]⟩, .string ⟨#[98]⟩, .string ⟨#[98]⟩, .string ⟨#[97]⟩]) :
    Calls Try.prog 69 #[.slice (some ⟨pb, 0, none⟩) 4 4, .bool false] w (Keyed w) := by
  obtain ⟨i3, hi3, hy0, hy1, hy2⟩ := info_parts Try.info3
  have hmk : ∀ w : World, (Instr.makeSlice 42 (.int .i64 2) (.int .i64 2)).run Try.prog w = .ok (.slice (some ⟨w.heap.size, 0, none⟩) 2 2) (w.alloc (.cells #[.string ⟨#[]⟩, .string ⟨#[]⟩] 9)) := fun _ => by kernel_rfl
  have lp := hp.lt
  go_enter Try.func69, Try.ntmps69
  go_wp2
  have z97 : ({ data := #[97] } : ByteArray)[0].toNat = 97 := rfl
  have z98 : ({ data := #[98] } : ByteArray)[0].toNat = 98 := rfl
  have hR : Has (((w.alloc (.cells Try.zeroCells73 73)).alloc (.cells #[.string ⟨#[]⟩, .string ⟨#[]⟩] 9)).alloc (.cells Try.zeroCells73 73)) w.heap.size 73 Try.zeroCells73 := ((Has.new w 73 _).alloc _).alloc _
  have hK : Has (((w.alloc (.cells Try.zeroCells73 73)).alloc (.cells #[.string ⟨#[]⟩, .string ⟨#[]⟩] 9)).alloc (.cells Try.zeroCells73 73)) (w.heap.size + 1) 9 #[.string ⟨#[]⟩, .string ⟨#[]⟩] := by
    have := (Has.new (w.alloc (.cells Try.zeroCells73 73)) 9 #[.string ⟨#[]⟩, .string ⟨#[]⟩]).alloc (.cells Try.zeroCells73 73)
    rwa [World.size_alloc] at this
  have hF : Has (((w.alloc (.cells Try.zeroCells73 73)).alloc (.cells #[.string ⟨#[]⟩, .string ⟨#[]⟩] 9)).alloc (.cells Try.zeroCells73 73)) (w.heap.size + 1 + 1) 73 Try.zeroCells73 := by
    have := Has.new ((w.alloc (.cells Try.zeroCells73 73)).alloc (.cells #[.string ⟨#[]⟩, .string ⟨#[]⟩] 9)) 73 Try.zeroCells73
    rwa [World.size_alloc, World.size_alloc] at this
  have hP := ((hp.alloc (.cells Try.zeroCells73 73)).alloc (.cells #[.string ⟨#[]⟩, .string ⟨#[]⟩] 9)).alloc (.cells Try.zeroCells73 73)
  have hB : Below w.heap.size w (((w.alloc (.cells Try.zeroCells73 73)).alloc (.cells #[.string ⟨#[]⟩, .string ⟨#[]⟩] 9)).alloc (.cells Try.zeroCells73 73)) := (((Below.refl _ w).alloc (Nat.le_refl _) _).alloc (by simp) _).alloc (by simp; omega) _
  have hz : (((w.alloc (.cells Try.zeroCells73 73)).alloc (.cells #[.string ⟨#[]⟩, .string ⟨#[]⟩] 9)).alloc (.cells Try.zeroCells73 73)).heap.size = w.heap.size + 3 := by simp
  generalize (((w.alloc (.cells Try.zeroCells73 73)).alloc (.cells #[.string ⟨#[]⟩, .string ⟨#[]⟩] 9)).alloc (.cells Try.zeroCells73 73)) = W0 at *
  have q0 := hP.cell 0
  have k0 := hK.cell 0
  have f0 := hK.free 0
  simp at q0 k0
  have hz' : w.heap.size + 3 ≤ W0.heap.size := by omega
  have HZ := Lib.hid hz
  clear hz
  refine wp_loop_rounds 4 ?_
  rw [rounds_succ]
  go_upto_region 11 with fail
  have hR1 := hR.far (p := ⟨w.heap.size + 1, 0, none⟩) (by first | (simp; done) | (simp; omega)) (.string ⟨#[97]⟩)
  have hK1 := hK.put 0 (.string ⟨#[97]⟩)
  have hF1 := hF.far (p := ⟨w.heap.size + 1, 0, none⟩) (by first | (simp; done) | (simp; omega)) (.string ⟨#[97]⟩)
  have hP1 := hP.far (p := ⟨w.heap.size + 1, 0, none⟩) (by first | (simp; done) | (simp; omega)) (.string ⟨#[97]⟩)
  have hB1 := hB.setCell (p := ⟨w.heap.size + 1, 0, none⟩) (by first | (simp; done) | (simp; omega)) (.string ⟨#[97]⟩)
  have hz1 : w.heap.size + 3 ≤ (W0.setCell ⟨w.heap.size + 1, 0, none⟩ (.string ⟨#[97]⟩)).heap.size := by simpa using hz'
  simp only [Array.setIfInBounds] at hK1
  simp at hK1
  clear hR hK hF hP hB q0 k0 f0 hz' HZ
  generalize (W0.setCell ⟨w.heap.size + 1, 0, none⟩ (.string ⟨#[97]⟩)) = W1 at *
  have FK := zero73_97
  have c97 := (hF1.cell 97).trans FK
  go_wp2_with (at_builtin; refine wpList_append_lies _ rfl _ _ _ rfl w.heap.size 3 i3 _ 1 8 Try.underlying72 hi3 hy0 hy1 hy2 rfl (by omega) (.slice none 0 0) 0 [] rfl (World.ownsRow_nil _ _ _ _) ⟨W1.heap.size, 0, none⟩ 1 1 [.int .i64 0] rfl rfl (World.news_of_block (cs := #[.int .i64 0]) (t := 3) (fr := (0, 0)) (heap_alloc_new W1 _)) (by simp [Value.oneCell']) (by omega) (by unfold maxLen; omega) (by omega) (by first | (simp; done) | (simp; omega)) (W1.heap.size + 1) (by simp) ?_; intro gA cA w2 ownA hgrow hat hlt; have hF2 := (hF1.alloc (.cells #[.int .i64 0] 3)).grown hgrow (by simp [Value.ownBlock]); have cF := (hF2.cell 97).trans FK; have fF := hF2.free 97)
  have hgA : gA = W1.heap.size + 1 := by simpa [Value.ownBlock] using hat
  have cA0 := ints_cells ownA 0 _ rfl
  have hR2 := ((hR1.alloc (.cells #[.int .i64 0] 3)).grown hgrow (by simp [Value.ownBlock])).far (p := ⟨w.heap.size + 1 + 1, 97, none⟩) (by first | (simp; done) | (simp; omega)) (.slice (some ⟨gA, 0, none⟩) 1 cA)
  have hK2 := ((hK1.alloc (.cells #[.int .i64 0] 3)).grown hgrow (by simp [Value.ownBlock])).far (p := ⟨w.heap.size + 1 + 1, 97, none⟩) (by first | (simp; done) | (simp; omega)) (.slice (some ⟨gA, 0, none⟩) 1 cA)
  have hP2 := ((hP1.alloc (.cells #[.int .i64 0] 3)).grown hgrow (by simp [Value.ownBlock])).far (p := ⟨w.heap.size + 1 + 1, 97, none⟩) (by first | (simp; done) | (simp; omega)) (.slice (some ⟨gA, 0, none⟩) 1 cA)
  have hB2 := ((hB1.alloc (by omega) (.cells #[.int .i64 0] 3)).grown hgrow (by first | (simp; done) | (simp; omega)) (by simp [Value.ownBlock])).setCell (p := ⟨w.heap.size + 1 + 1, 97, none⟩) (by first | (simp; done) | (simp; omega)) (.slice (some ⟨gA, 0, none⟩) 1 cA)
  have hF3 := hF2.put 97 (.slice (some ⟨gA, 0, none⟩) 1 cA)
  have cA2 : (w2.setCell ⟨w.heap.size + 1 + 1, 97, none⟩ (.slice (some ⟨gA, 0, none⟩) 1 cA)).cell? ⟨gA, 0, none⟩ = some (.int .i64 0) := (World.cell?_setCell_other _ _ _ _ (by first | (simp; done) | (simp; omega))).trans cA0
  have hs2 := hgrow.size
  have hz2 : W1.heap.size + 1 ≤ (w2.setCell ⟨w.heap.size + 1 + 1, 97, none⟩ (.slice (some ⟨gA, 0, none⟩) 1 cA)).heap.size := by simpa using hs2
  have fi1 := Firsts.zero.put 97 (.slice (some ⟨gA, 0, none⟩) 1 cA) rfl
  have fa1 := Firsts.zero.same (i := 97) (by omega) (.slice (some ⟨gA, 0, none⟩) 1 cA)
  have FK2 : (Try.zeroCells73.setIfInBounds 97 (.slice (some ⟨gA, 0, none⟩) 1 cA))[98]? = some (.slice none 0 0) := (Firsts.other (by omega) _).trans zero73_98
  generalize Try.zeroCells73.setIfInBounds 97 (.slice (some ⟨gA, 0, none⟩) 1 cA) = F1 at *
  clear hR1 hK1 hP1 hB1 hF1 hF2 hgrow ownA hat cF fF c97 cA0 hs2 hlt FK
  generalize w2.setCell ⟨w.heap.size + 1 + 1, 97, none⟩ (.slice (some ⟨gA, 0, none⟩) 1 cA) = W2 at *
  have q2 := hP2.cell 2
  have k1 := hK2.cell 1
  have f1 := hK2.free 1
  simp at q2 k1
  rw [rounds_succ]
  go_upto_region 11 with fail
  have hR3 := hR2.far (p := ⟨w.heap.size + 1, 1, none⟩) (by first | (simp; done) | (simp; omega)) (.string ⟨#[98]⟩)
  have hK3 := hK2.put 1 (.string ⟨#[98]⟩)
  have hF1 := hF3.far (p := ⟨w.heap.size + 1, 1, none⟩) (by first | (simp; done) | (simp; omega)) (.string ⟨#[98]⟩)
  have hP3 := hP2.far (p := ⟨w.heap.size + 1, 1, none⟩) (by first | (simp; done) | (simp; omega)) (.string ⟨#[98]⟩)
  have hB3 := hB2.setCell (p := ⟨w.heap.size + 1, 1, none⟩) (by first | (simp; done) | (simp; omega)) (.string ⟨#[98]⟩)
  have hz3 : W1.heap.size + 1 ≤ (W2.setCell ⟨w.heap.size + 1, 1, none⟩ (.string ⟨#[98]⟩)).heap.size := by simpa using hz2
  have cA3 : (W2.setCell ⟨w.heap.size + 1, 1, none⟩ (.string ⟨#[98]⟩)).cell? ⟨gA, 0, none⟩ = some (.int .i64 0) := (World.cell?_setCell_other _ _ _ _ (by first | (simp; done) | (simp; omega))).trans cA2
  simp only [Array.setIfInBounds] at hK3
  simp at hK3
  clear hR2 hK2 hF3 hP2 hB2 q2 k1 f1 hz2 cA2
  generalize (W2.setCell ⟨w.heap.size + 1, 1, none⟩ (.string ⟨#[98]⟩)) = W3 at *
  have FK := FK2
  have c98 := (hF1.cell 98).trans FK
  go_wp2_with (at_builtin; refine wpList_append_lies _ rfl _ _ _ rfl w.heap.size 3 i3 _ 1 8 Try.underlying72 hi3 hy0 hy1 hy2 rfl (by omega) (.slice none 0 0) 0 [] rfl (World.ownsRow_nil _ _ _ _) ⟨W3.heap.size, 0, none⟩ 1 1 [.int .i64 1] rfl rfl (World.news_of_block (cs := #[.int .i64 1]) (t := 3) (fr := (0, 0)) (heap_alloc_new W3 _)) (by simp [Value.oneCell']) (by omega) (by unfold maxLen; omega) (by omega) (by first | (simp; done) | (simp; omega)) (W3.heap.size + 1) (by simp) ?_; intro gB cB w4 ownB hgrow hat hlt; have hF2 := (hF1.alloc (.cells #[.int .i64 1] 3)).grown hgrow (by simp [Value.ownBlock]); have cF := (hF2.cell 98).trans FK; have fF := hF2.free 98)
  have hgB : gB = W3.heap.size + 1 := by simpa [Value.ownBlock] using hat
  have cB0 := ints_cells ownB 0 _ rfl
  have hR4 := ((hR3.alloc (.cells #[.int .i64 1] 3)).grown hgrow (by simp [Value.ownBlock])).far (p := ⟨w.heap.size + 1 + 1, 98, none⟩) (by first | (simp; done) | (simp; omega)) (.slice (some ⟨gB, 0, none⟩) 1 cB)
  have hK4 := ((hK3.alloc (.cells #[.int .i64 1] 3)).grown hgrow (by simp [Value.ownBlock])).far (p := ⟨w.heap.size + 1 + 1, 98, none⟩) (by first | (simp; done) | (simp; omega)) (.slice (some ⟨gB, 0, none⟩) 1 cB)
  have hB4 := ((hB3.alloc (by omega) (.cells #[.int .i64 1] 3)).grown hgrow (by first | (simp; done) | (simp; omega)) (by simp [Value.ownBlock])).setCell (p := ⟨w.heap.size + 1 + 1, 98, none⟩) (by first | (simp; done) | (simp; omega)) (.slice (some ⟨gB, 0, none⟩) 1 cB)
  have hF4 := hF2.put 98 (.slice (some ⟨gB, 0, none⟩) 1 cB)
  have hlA := World.block_lt_of_cell? W3 _ cA3
  have cA4 : (w4.setCell ⟨w.heap.size + 1 + 1, 98, none⟩ (.slice (some ⟨gB, 0, none⟩) 1 cB)).cell? ⟨gA, 0, none⟩ = some (.int .i64 0) :=
    (World.cell?_setCell_other _ _ _ _ (by first | (simp; done) | (simp; omega))).trans ((hgrow.cell_far ⟨gA, 0, none⟩ (by first | (simp; done) | (simp; omega)) (by simp [Value.ownBlock])).trans ((World.cell?_alloc_lt W3 _ _ hlA).trans cA3))
  have cB4 : (w4.setCell ⟨w.heap.size + 1 + 1, 98, none⟩ (.slice (some ⟨gB, 0, none⟩) 1 cB)).cell? ⟨gB, 0, none⟩ = some (.int .i64 1) := (World.cell?_setCell_other _ _ _ _ (by first | (simp; done) | (simp; omega))).trans cB0
  have fi2 := fi1.put 98 (.slice (some ⟨gB, 0, none⟩) 1 cB) rfl
  have fb2 := fi1.same (i := 98) (by omega) (.slice (some ⟨gB, 0, none⟩) 1 cB)
  have fa2 : (F1.setIfInBounds 98 (.slice (some ⟨gB, 0, none⟩) 1 cB))[97]? = some (.slice (some ⟨gA, 0, none⟩) 1 cA) := (Firsts.other (by omega) _).trans fa1
  have hs4 := hgrow.size
  have hz4 : W3.heap.size + 1 ≤ (w4.setCell ⟨w.heap.size + 1 + 1, 98, none⟩ (.slice (some ⟨gB, 0, none⟩) 1 cB)).heap.size := by simpa using hs4
  clear hP3 hR3 hK3 hB3 hF1 hF2 hgrow ownB hat cF fF c98 cB0 hs4 hlt FK FK2 cA3
  generalize w4.setCell ⟨w.heap.size + 1 + 1, 98, none⟩ (.slice (some ⟨gB, 0, none⟩) 1 cB) = W4 at *
  generalize F1.setIfInBounds 98 (.slice (some ⟨gB, 0, none⟩) 1 cB) = F at *
  rw [rounds_succ]
  go_wp2
  have hu := Try.underlying73
  have hl : F.toList.length = 256 := by simpa using fi2.size
  have hi : (Try.prog.info? 73).map (·.size) = some F.toList.length := by rw [hl]; exact size73
  have h1 := fi2.one
  have hv : W4.rangeAt (w.heap.size + 1 + 1) 0 F.toList := fun j v hj => by rw [Nat.zero_add]; exact (hF4.cell j).trans (by simpa using hj)
  have ht : W4.there w.heap.size 0 256 := fun j hj => by
    constructor
    · rw [hR4.cell (0 + j)]
      simp
      omega
    · exact hR4.free (0 + j)
  go_region_held3 (fun w' => w'.rangeAt (w.heap.size + 1 + 1) 0 F.toList ∧ w'.there w.heap.size 0 256) (go_keep_ranges) (fail)
  go_wp2
  have KP : Kept (fun k => k = w.heap.size) W4 (W4.drew.setCells w.heap.size 0 F.toList) := Kept.puts (S := fun k => k = w.heap.size) (g := w.heap.size) (.inl rfl) _ _ _ (Kept.refl _ W4).drew
  have hrr : (W4.drew.setCells w.heap.size 0 F.toList).rangeAt w.heap.size 0 F.toList := World.rangeAt_setCells_same _ _ _ _ (by rw [hl]; exact ht)
  refine bodyPost_ret (results_tmp_cell rfl _ _ w.heap.size F.toList _ (by rfl) hrr hu rfl hi) rfl ?_
  exact ⟨gA, cA, gB, cB, F, by simp, KP.has hK4 (by omega), fi2, fa2, fb2, KP.cell cA4 (by simp; omega), KP.cell cB4 (by simp; omega), hB4.trans (KP.below (by omega) (fun k hk h => by omega))⟩
end Go.Proofs.Ytneklmalkmeohaa
