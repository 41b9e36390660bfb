/- The walk of the law TextMaps. -/
import Derived.Test.YtneklmalkmeohaaMaps2
import Derived.Test.YtneklmalkmeohaaMaps6
import Derived.Test.YtneklmalkmeohaaMaps7
import Derived.Test.YtneklmalkmeohaaForms4
import Derived.Deep.RegionHeld3
namespace Go.Proofs.Ytneklmalkmeohaa
open Go.RowKit Go.Lib

theorem strs_one (W : World) (p : ByteArray) : Strs (W.alloc (.cells #[.string p] 9)) (some ⟨W.heap.size, 0, none⟩) [p] := fun i hi => by
  have : i = 0 := by simp at hi; omega
  subst this
  exact ⟨_, rfl, by simp [Addr.add]⟩
theorem strs_two (W : World) (p : ByteArray) : Strs (W.alloc (.cells #[.string p, .string p] 9)) (some ⟨W.heap.size, 0, none⟩) [p, p] := fun i hi => by
  have h2 := Has.new W 9 #[.string p, .string p]
  have : i = 0 ∨ i = 1 := by simp at hi; omega
  rcases this with rfl | rfl
  · exact ⟨_, rfl, by simp [Addr.add]⟩
  · exact ⟨_, rfl, by simp [Addr.add]⟩
theorem strs_drew {W : World} {ao : Option Addr} {ps : List ByteArray} (h : Strs W ao ps) : Strs W.drew ao ps := h
theorem mapVal_form (s : ByteArray) (prs : List ByteArray) (fold : Bool) : ∃ (C : ByteArray) (n : Int), mapVal s prs fold = .tuple #[.string C, .int .i64 n] := by
  unfold mapVal
  split
  · exact ⟨_, _, rfl⟩
  · split
    · exact ⟨_, _, rfl⟩
    · exact ⟨_, _, rfl⟩

set_option maxHeartbeats 3200000 in
set_option maxRecDepth 100000 in
theorem maps_any (s : ByteArray) (prs : List ByteArray) (ao : Option Addr) (cap : Nat) (fold : Bool) (w : World) (hP : Strs w ao prs) :
    Calls Try.prog 6 #[.string s, .slice ao prs.length cap, .bool fold] w fun e w' => e = .returned (.bool true) ∧ Below w.heap.size w w' := by
  have hl1 : Calls Try.prog 9 #[.slice (some ⟨w.heap.size, 0, none⟩) 1 1] (w.alloc (.cells #[.string s] 9)) fun e w' => e = .returned (.bool (anyLong [s])) ∧ (w.alloc (.cells #[.string s] 9)) = w' := long_all [s] (some ⟨w.heap.size, 0, none⟩) 1 _ (strs_one w s) (by simp)
  have hB1 : Below w.heap.size w (w.alloc (.cells #[.string s] 9)) := (Below.refl _ w).alloc (Nat.le_refl _) _
  have hP1 := hP.below hB1
  have hone : anyLong [s] = decide (400 < s.size) := by unfold anyLong; simp
  rw [hone] at hl1
  go_enter Try.func6, Try.ntmps6
  go_wp2_with fail
  generalize w.alloc (.cells #[.string s] 9) = W1 at *
  by_cases hs : 400 < s.size
  · rw [show decide (400 < s.size) = true by simpa using hs] at hl1
    refine hl1.mono ?_
    rintro e w' ⟨rfl, rfl⟩
    clear hl1
    go_wp2_with fail
    refine (awake_any _).mono ?_
    rintro e w' ⟨rfl, hb⟩
    go_wp2
    go_ret
    exact ⟨rfl, hB1.trans (hb.mono hB1.size)⟩
  rw [show decide (400 < s.size) = false by simpa using hs] at hl1
  refine hl1.mono ?_
  rintro e w' ⟨rfl, rfl⟩
  clear hl1
  by_cases hn : prs.length ≤ 20
  · have hn1 : ¬ (prs.length : Int) > 20 := by omega
    have hl2 := long_all prs ao cap W1 hP1 hn
    go_wp2_with fail
    cases hany : anyLong prs
    · rw [hany] at hl2
      refine hl2.mono ?_
      rintro e w' ⟨rfl, rfl⟩
      clear hl2
      have h4 : ∀ p ∈ prs, p.size ≤ 400 := fun p hp => by
        unfold anyLong at hany
        rw [List.any_eq_false] at hany
        have := hany p hp
        simp at this
        omega
      have hs4 : s.size ≤ 400 := by omega
      obtain ⟨C, n, hv⟩ := mapVal_form s prs fold
      have hM1 := map_any s prs ao cap fold W1 hs4 hn h4 hP1
      rw [hv] at hM1
      go_wp2_with fail
      refine hM1.mono ?_
      rintro e W2 ⟨rfl, hb2⟩
      have hP2 := hP1.below hb2
      have hB2 := hB1.trans (hb2.mono hB1.size)
      have hM2 := refMap_any s prs ao cap fold W2 hs4 hn h4 hP2
      rw [hv] at hM2
      clear hM1 hb2 hP1 hB1
      go_wp2_with fail
      refine hM2.mono ?_
      rintro e W3 ⟨rfl, hb3⟩
      have hP3 := hP2.below hb3
      have hB3 := hB2.trans (hb3.mono hB2.size)
      clear hM2 hb3 hP2 hB2 hv
      rcases Nat.eq_zero_or_pos prs.length with h0 | hpos
      · have h01 : (prs.length : Int) = 0 := by omega
        go_wp2_with fail
        refine (awake_any _).mono ?_
        rintro e w' ⟨rfl, hb⟩
        go_wp2
        go_ret
        exact ⟨rfl, hB3.trans (hb.mono hB3.size)⟩
      · have h01 : ¬ (prs.length : Int) = 0 := by omega
        have h02 : (0 : Int) < (prs.length : Int) := by omega
        obtain ⟨ad, rfl, hc⟩ := hP3 0 hpos
        obtain ⟨p, hp⟩ : ∃ p, prs[0] = p := ⟨_, rfl⟩
        have hp4 : p.size ≤ 400 := by rw [← hp]; exact h4 _ (List.getElem_mem hpos)
        rw [hp] at hc
        have hc0 : W3.cell? ad = some (.string p) := by simpa [Addr.add] using hc
        have hself := mapVal_self s p hs4
        have HM3 : ∀ W, Strs W (some ⟨0, 0, none⟩) [] → True := fun _ _ => trivial
        have hM3 : ∀ W ao', Strs W ao' [p, p] → Calls Try.prog 43 #[.string s, .slice ao' 2 2, .bool false] W fun e w' => e = .returned (.tuple #[.string s, .int .i64 0]) ∧ Below W.heap.size W w' := fun W ao' h => by
          rw [← hself]
          exact map_any s [p, p] ao' 2 false W hs4 (by simp) (fun q hq => by
            simp at hq
            rw [hq]
            exact hp4) h
        clear HM3 hself h4 hp hc hany
        go_wp2
        go_region_held3 (fun w' => w'.cell? ad = some (.string p) ∧ Below w.heap.size w w')
          ((go_split_ands; refine ⟨?_, ?_⟩ <;> first | assumption | (exact Below.drewAt (by assumption) _) | (exact Below.behind (by assumption) (by assumption)) | (exact Below.alloc (by assumption) (Below.size (by assumption)) _) | (exact cell_keep (by assumption) (by assumption)) | (exact (World.cell?_alloc_lt _ _ _ (World.block_lt_of_cell? _ _ (by assumption))).trans (by assumption))))
          ((go_split_ands; first
            | (go_at_call 43; refine (hM3 _ _ (strs_drew (strs_two _ _))).mono ?_; rintro e w' ⟨rfl, hb'⟩)
            | (go_at_call 43; refine (hM3 _ _ (strs_two _ _)).mono ?_; rintro e w' ⟨rfl, hb'⟩)))
        all_goals
          go_split_ands
          go_wp2_with fail
          refine (awake_any _).mono ?_
          rintro e w'' ⟨rfl, hb⟩
          go_wp2
          go_ret
          exact ⟨rfl, Below.behind (by assumption) hb⟩
    · rw [hany] at hl2
      refine hl2.mono ?_
      rintro e w' ⟨rfl, rfl⟩
      clear hl2
      go_wp2_with fail
      refine (awake_any _).mono ?_
      rintro e w' ⟨rfl, hb⟩
      go_wp2
      go_ret
      exact ⟨rfl, hB1.trans (hb.mono hB1.size)⟩
  · have hn1 : (prs.length : Int) > 20 := by omega
    go_wp2_with fail
    refine (awake_any _).mono ?_
    rintro e w' ⟨rfl, hb⟩
    go_wp2
    go_ret
    exact ⟨rfl, hB1.trans (hb.mono hB1.size)⟩
end Go.Proofs.Ytneklmalkmeohaa
