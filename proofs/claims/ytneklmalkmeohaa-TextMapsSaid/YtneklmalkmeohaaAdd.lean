import Derived.Test.YtneklmalkmeohaaBase
namespace Go.Proofs.Ytneklmalkmeohaa
open Go.RowKit

theorem Try.info106 : (Try.prog.info? 106).map (fun i => (i.zero, i.size, i.bytes)) = some (some (.agg #[.bool false, .pointer none, .int .u8 0]), 3, 24) := by kernel_rfl

/-- What 'add' leaves: the items have one more; the segment's flag. -/
def Added (gb go : Nat) (v : Value) (n : Nat) (xs item : List Value) (base : Nat) (cs : Array Value) (pl : Bool) (w : World) (e : Ending) (w' : World) : Prop :=
  ∃ gg cap, e = .returned (.tuple #[]) ∧ w'.ownsRow base 106 3 (.slice (some ⟨gg, 0, none⟩) (n + 1) cap) (n + 1) (xs ++ item) ∧ (v.ownBlock = some gg ∨ gg = w.heap.size + 2) ∧
    Has w' gb 84 ((cs.setIfInBounds go (.slice (some ⟨gg, 0, none⟩) (n + 1) cap)).setIfInBounds (go + 2) (.bool pl)) ∧ Kept (fun k => k = gb ∨ v.ownBlock = some k) w w'

theorem set_same {cs : Array Value} {i : Nat} {u : Value} (h : cs[i]? = some u) : cs.setIfInBounds i u = cs := by
  obtain ⟨hi, rfl⟩ := Array.getElem?_eq_some_iff.1 h
  simp [Array.setIfInBounds, hi]

section
variable {gb go : Nat} {v : Value} {n base : Nat} {xs item : List Value} {cs : Array Value} {w w1 : World} {A B : Obj} {gg cap : Nat}

theorem add_has (hg : Has w gb 84 cs) (hgrow : (((w.alloc A).alloc B).drew).grownBy w1 v.ownBlock) (ag : v.ownBlock ≠ some gb) : Has w1 gb 84 cs :=
  (((hg.alloc A).alloc B).drew).grown hgrow (Ne.symm ag)

theorem add_kept (hgrow : (((w.alloc A).alloc B).drew).grownBy w1 v.ownBlock) : Kept (fun k => k = gb ∨ v.ownBlock = some k) w w1 :=
  ((((Kept.refl _ w).alloc A).alloc B).drew).grown hgrow (fun _k hk => .inl (.inr hk))

theorem add_far (_hown : w.ownsRow base 106 3 v n xs) (_hgrow : (((w.alloc A).alloc B).drew).grownBy w1 v.ownBlock) (hat : v.ownBlock = some gg ∨ gg = w.heap.size + 2) (ag : v.ownBlock ≠ some gb) (lg : gb < w.heap.size) : gg ≠ gb := by
  rcases hat with h | h
  · rintro rfl; exact ag h
  · omega

theorem add_fin_same {pl : Bool} (hg : Has w gb 84 cs) (h2 : cs[go + 2]? = some (.bool pl)) (hown : w.ownsRow base 106 3 v n xs)
    (hown1 : w1.ownsRow base 106 3 (.slice (some ⟨gg, 0, none⟩) (n + 1) cap) (n + 1) (xs ++ item))
    (hgrow : (((w.alloc A).alloc B).drew).grownBy w1 v.ownBlock) (hat : v.ownBlock = some gg ∨ gg = w.heap.size + 2) (ag : v.ownBlock ≠ some gb) :
    Added gb go v n xs item base cs pl w (.returned (.tuple #[])) (w1.setCell ⟨gb, go, none⟩ (.slice (some ⟨gg, 0, none⟩) (n + 1) cap)) := by
  have hf := add_far hown hgrow hat ag hg.lt
  refine ⟨gg, cap, rfl, ?_, hat, ?_, (add_kept hgrow).put (p := ⟨gb, go, none⟩) (.inl (.inl rfl)) _⟩
  · exact (Kept.put (S := fun k => k = gb) (Kept.refl _ w1) (p := ⟨gb, go, none⟩) (.inl rfl) _).owns hown1 (fun k hk e => hf (by simpa [Value.ownBlock, e] using hk))
  · rw [set_same (by rw [Array.getElem?_setIfInBounds_ne (by omega)]; exact h2)]
    exact (add_has hg hgrow ag).put go _

theorem add_fin_off (hg : Has w gb 84 cs) (hown : w.ownsRow base 106 3 v n xs)
    (hown1 : w1.ownsRow base 106 3 (.slice (some ⟨gg, 0, none⟩) (n + 1) cap) (n + 1) (xs ++ item))
    (hgrow : (((w.alloc A).alloc B).drew).grownBy w1 v.ownBlock) (hat : v.ownBlock = some gg ∨ gg = w.heap.size + 2) (ag : v.ownBlock ≠ some gb) :
    Added gb go v n xs item base cs false w (.returned (.tuple #[])) ((w1.setCell ⟨gb, go, none⟩ (.slice (some ⟨gg, 0, none⟩) (n + 1) cap)).setCell ⟨gb, go + 2, none⟩ (.bool false)) := by
  have hf := add_far hown hgrow hat ag hg.lt
  refine ⟨gg, cap, rfl, ?_, hat, ?_, ((add_kept hgrow).put (p := ⟨gb, go, none⟩) (.inl (.inl rfl)) _).put (p := ⟨gb, go + 2, none⟩) (.inl (.inl rfl)) _⟩
  · exact ((Kept.put (S := fun k => k = gb) (Kept.refl _ w1) (p := ⟨gb, go, none⟩) (.inl rfl) _).put (p := ⟨gb, go + 2, none⟩) (.inl rfl) _).owns hown1 (fun k hk e => hf (by simpa [Value.ownBlock, e] using hk))
  · exact ((add_has hg hgrow ag).put go _).put (go + 2) _
end

set_option maxRecDepth 100000 in
set_option maxHeartbeats 1600000 in
theorem add_any (gb go : Nat) (any : Bool) (c : Int) (v st : Value) (pl pl' : Bool) (n base : Nat) (xs : List Value) (cs : Array Value) (w : World)
    (H : (any = false ∧ st = .pointer none ∧ pl' = pl) ∨ (any = true ∧ st = .pointer none ∧ pl' = false) ∨ (any = false ∧ (∃ a, st = .pointer (some a)) ∧ pl' = false))
    (hg : Has w gb 84 cs) (h0 : cs[go]? = some v) (h2 : cs[go + 2]? = some (.bool pl))
    (hown : w.ownsRow base 106 3 v n xs) (hbase : base ≤ w.heap.size) (hn : n + 1 ≤ 1000) (ag : v.ownBlock ≠ some gb) :
    Calls Try.prog 92 #[.pointer (some ⟨gb, go, none⟩), .agg #[.bool any, st, .int .u8 c]] w (Added gb go v n xs [.bool any, st, .int .u8 c] base cs pl' w) := by
  obtain ⟨i0, hi0, hz0, hz1, hz2⟩ := info_parts Try.info106
  have lg : gb < w.heap.size := hg.lt
  have lg2 : gb < w.heap.size + 1 := by omega
  have hcell : w.cell? ⟨gb, go, none⟩ = some v := (hg.cell go).trans h0
  have hfree : w.frozen? ⟨gb, go, none⟩ = false := hg.free go
  rcases H with ⟨rfl, rfl, rfl⟩ | ⟨rfl, rfl, rfl⟩ | ⟨rfl, ⟨sa, rfl⟩, rfl⟩
  · go_enter Try.func92, Try.ntmps92
    go_wp2_with fail
    go_region_law ((refine step_append_lies _ (by rfl) _ _ _ (by rfl) base 106 i0 _ 3 24 Try.underlying82 hi0 hz0 hz1 hz2 rfl (by omega) v n xs (by rfl) (((hown.alloc _).alloc _).drew) ⟨w.heap.size + 1, 0, none⟩ 1 1 [.bool false, .pointer none, .int .u8 c] (by rfl) (by rfl) (World.news_of_block (cs := #[.bool false, .pointer none, .int .u8 c]) (t := 106) (fr := (0, 0)) (by rw [show w.heap.size + 1 = (w.alloc (.cells #[.bool false, .pointer none, .int .u8 c] 106)).heap.size from by simp]; exact heap_alloc_new _ _)) (by simp [Value.oneCell']) (by omega) (by unfold maxLen; omega) (by omega) (by simp; omega) (w.heap.size + 2) (by simp) ?_; intro gg cap w1 hown1 hgrow hat hlt; have hc1 : w1.cell? ⟨gb, go, none⟩ = some v := (hgrow.cell_far _ (by simp; omega) (Ne.symm ag)).trans (by simp [hcell, lg, lg2, World.cell?_alloc_past]); have hf1 : w1.frozen? ⟨gb, go, none⟩ = false := (hgrow.frozen_far _ (by simp; omega) (Ne.symm ag)).trans (by simp [hfree, lg, lg2, World.frozen?_alloc_past])))
    all_goals
      have fin := add_fin_same (go := go) hg h2 hown hown1 hgrow hat ag
      have hbox : Has (w1.setCell ⟨gb, go, none⟩ (.slice (some ⟨gg, 0, none⟩) (n + 1) cap)) w.heap.size 106 #[.bool false, .pointer none, .int .u8 c] :=
        ((((Has.new w 106 #[.bool false, .pointer none, .int .u8 c]).alloc _).drew).grown hgrow (fun h => by have := (hown.lt _ h.symm).2; omega)).far (by simp; omega) _
      have b0 := hbox.cell 0
      have b1 := hbox.cell 1
      have hs := (add_has hg hgrow ag).put go (.slice (some ⟨gg, 0, none⟩) (n + 1) cap)
      have s2 : (w1.setCell ⟨gb, go, none⟩ (.slice (some ⟨gg, 0, none⟩) (n + 1) cap)).cell? ⟨gb, go + 2, none⟩ = some (.bool pl') := (hs.cell (go + 2)).trans (by rw [Array.getElem?_setIfInBounds_ne (by omega)]; exact h2)
      have f2 := hs.free (go + 2)
      simp at b0 b1
      generalize (w1.setCell ⟨gb, go, none⟩ (.slice (some ⟨gg, 0, none⟩) (n + 1) cap)) = w2 at fin b0 b1 s2 f2 ⊢
      clear hs hbox hc1 hf1 hgrow hown1 hat h0 h2 hcell hfree hg ag hown
      go_wp2
      go_end0
      exact fin
  · go_enter Try.func92, Try.ntmps92
    go_wp2_with fail
    go_region_law ((refine step_append_lies _ (by rfl) _ _ _ (by rfl) base 106 i0 _ 3 24 Try.underlying82 hi0 hz0 hz1 hz2 rfl (by omega) v n xs (by rfl) (((hown.alloc _).alloc _).drew) ⟨w.heap.size + 1, 0, none⟩ 1 1 [.bool true, .pointer none, .int .u8 c] (by rfl) (by rfl) (World.news_of_block (cs := #[.bool true, .pointer none, .int .u8 c]) (t := 106) (fr := (0, 0)) (by rw [show w.heap.size + 1 = (w.alloc (.cells #[.bool true, .pointer none, .int .u8 c] 106)).heap.size from by simp]; exact heap_alloc_new _ _)) (by simp [Value.oneCell']) (by omega) (by unfold maxLen; omega) (by omega) (by simp; omega) (w.heap.size + 2) (by simp) ?_; intro gg cap w1 hown1 hgrow hat hlt; have hc1 : w1.cell? ⟨gb, go, none⟩ = some v := (hgrow.cell_far _ (by simp; omega) (Ne.symm ag)).trans (by simp [hcell, lg, lg2, World.cell?_alloc_past]); have hf1 : w1.frozen? ⟨gb, go, none⟩ = false := (hgrow.frozen_far _ (by simp; omega) (Ne.symm ag)).trans (by simp [hfree, lg, lg2, World.frozen?_alloc_past])))
    all_goals
      have fin := add_fin_off (go := go) hg hown hown1 hgrow hat ag
      have hbox : Has (w1.setCell ⟨gb, go, none⟩ (.slice (some ⟨gg, 0, none⟩) (n + 1) cap)) w.heap.size 106 #[.bool true, .pointer none, .int .u8 c] :=
        ((((Has.new w 106 #[.bool true, .pointer none, .int .u8 c]).alloc _).drew).grown hgrow (fun h => by have := (hown.lt _ h.symm).2; omega)).far (by simp; omega) _
      have b0 := hbox.cell 0
      have b1 := hbox.cell 1
      have hs := (add_has hg hgrow ag).put go (.slice (some ⟨gg, 0, none⟩) (n + 1) cap)
      have s2 : (w1.setCell ⟨gb, go, none⟩ (.slice (some ⟨gg, 0, none⟩) (n + 1) cap)).cell? ⟨gb, go + 2, none⟩ = some (.bool pl) := (hs.cell (go + 2)).trans (by rw [Array.getElem?_setIfInBounds_ne (by omega)]; exact h2)
      have f2 := hs.free (go + 2)
      simp at b0 b1
      generalize (w1.setCell ⟨gb, go, none⟩ (.slice (some ⟨gg, 0, none⟩) (n + 1) cap)) = w2 at fin b0 b1 s2 f2 ⊢
      clear hs hbox hc1 hf1 hgrow hown1 hat h0 h2 hcell hfree hg ag hown
      go_wp2
      go_end0
      exact fin
  · go_enter Try.func92, Try.ntmps92
    go_wp2_with fail
    go_region_law ((refine step_append_lies _ (by rfl) _ _ _ (by rfl) base 106 i0 _ 3 24 Try.underlying82 hi0 hz0 hz1 hz2 rfl (by omega) v n xs (by rfl) (((hown.alloc _).alloc _).drew) ⟨w.heap.size + 1, 0, none⟩ 1 1 [.bool false, .pointer (some sa), .int .u8 c] (by rfl) (by rfl) (World.news_of_block (cs := #[.bool false, .pointer (some sa), .int .u8 c]) (t := 106) (fr := (0, 0)) (by rw [show w.heap.size + 1 = (w.alloc (.cells #[.bool false, .pointer (some sa), .int .u8 c] 106)).heap.size from by simp]; exact heap_alloc_new _ _)) (by simp [Value.oneCell']) (by omega) (by unfold maxLen; omega) (by omega) (by simp; omega) (w.heap.size + 2) (by simp) ?_; intro gg cap w1 hown1 hgrow hat hlt; have hc1 : w1.cell? ⟨gb, go, none⟩ = some v := (hgrow.cell_far _ (by simp; omega) (Ne.symm ag)).trans (by simp [hcell, lg, lg2, World.cell?_alloc_past]); have hf1 : w1.frozen? ⟨gb, go, none⟩ = false := (hgrow.frozen_far _ (by simp; omega) (Ne.symm ag)).trans (by simp [hfree, lg, lg2, World.frozen?_alloc_past])))
    all_goals
      have fin := add_fin_off (go := go) hg hown hown1 hgrow hat ag
      have hbox : Has (w1.setCell ⟨gb, go, none⟩ (.slice (some ⟨gg, 0, none⟩) (n + 1) cap)) w.heap.size 106 #[.bool false, .pointer (some sa), .int .u8 c] :=
        ((((Has.new w 106 #[.bool false, .pointer (some sa), .int .u8 c]).alloc _).drew).grown hgrow (fun h => by have := (hown.lt _ h.symm).2; omega)).far (by simp; omega) _
      have b0 := hbox.cell 0
      have b1 := hbox.cell 1
      have hs := (add_has hg hgrow ag).put go (.slice (some ⟨gg, 0, none⟩) (n + 1) cap)
      have s2 : (w1.setCell ⟨gb, go, none⟩ (.slice (some ⟨gg, 0, none⟩) (n + 1) cap)).cell? ⟨gb, go + 2, none⟩ = some (.bool pl) := (hs.cell (go + 2)).trans (by rw [Array.getElem?_setIfInBounds_ne (by omega)]; exact h2)
      have f2 := hs.free (go + 2)
      simp at b0 b1
      generalize (w1.setCell ⟨gb, go, none⟩ (.slice (some ⟨gg, 0, none⟩) (n + 1) cap)) = w2 at fin b0 b1 s2 f2 ⊢
      clear hs hbox hc1 hf1 hgrow hown1 hat h0 h2 hcell hfree hg ag hown
      go_wp2
      go_end0
      exact fin
end Go.Proofs.Ytneklmalkmeohaa
