/- right: texts are numbers of at most 60 bytes. -/
import Derived.Test.YtmnibfdenmeepaaDoorRTold
namespace Go.Proofs.YtmnibfdenmeepaaDoor
open Go.RowKit Go.Shelf Big

def rightB (s : ByteArray) : Bool := validB s.data.toList && decide (s.size ≤ 60)
set_option maxRecDepth 100000 in
set_option maxHeartbeats 2000000 in
theorem right_any (g c : Nat) (L : List ByteArray) (w : World) (hL : L.length ≤ 1000) (hsz : ∀ s ∈ L, s.size ≤ 1000000000000) (hg : g < w.heap.size)
    (hcell : ∀ i s, L[i]? = some s → w.cell? ⟨g, i, none⟩ = some (.string s)) :
    Calls Tryd.prog 48 #[.slice (some ⟨g, 0, none⟩) L.length c] w fun e w' => e = .returned (.bool (L.all rightB)) ∧ Below w.heap.size w w' := by
  have HC := Lib.hid (fun W (hW : Below w.heap.size w W) i s (h : L[i]? = some s) => (hW.cell (p := ⟨g, i, none⟩) hg).trans (hcell i s h))
  have HS := Lib.hid hsz
  obtain ⟨K, hK⟩ : ∃ K, L.length = K := ⟨_, rfl⟩
  have HK := Lib.hid hK
  rw [hK] at hL ⊢
  clear hcell hsz hK
  go_enter Tryd.func48, Tryd.ntmps48
  go_wp2_with fail
  go_loopg [7] K (fun g v wx => ∃ i : Nat, v = .int .i64 (i : Int) ∧ i + g = K ∧ (L.take i).all rightB = true ∧ Below w.heap.size w wx)
  case atStart => exact ⟨0, rfl, by omega, rfl, Below.refl _ _⟩
  case round =>
    obtain ⟨i, rfl, hik, hall, hb⟩ := hrel
    have HA := Lib.hid hall
    have HB := Lib.hid hb
    clear hall hb
    by_cases hi : i < K
    · have hiL : i < L.length := by rw [HK.out]; exact hi
      obtain ⟨s, hs⟩ : ∃ s, L[i] = s := ⟨_, rfl⟩
      have hc := HC.out _ HB.out i s (by rw [List.getElem?_eq_getElem hiL, hs])
      have hsz := HS.out s (by rw [← hs]; exact List.getElem_mem hiL)
      have HSP := Lib.hid (show L.all rightB = ((L.take (i + 1)).all rightB && (L.drop (i + 1)).all rightB) by rw [← List.all_append, List.take_append_drop])
      have HN := Lib.hid (show (L.take (i + 1)).all rightB = rightB s by
        rw [List.take_succ_eq_append_getElem hiL, List.all_append, HA.out, hs]
        simp)
      have HV := Lib.hid (fun W => rValid_any s W hsz)
      have hi1 : (i : Int) < (K : Int) := by omega
      have hi0 : (0 : Int) ≤ (i : Int) := by omega
      have HRB := Lib.hid (show rightB s = (validB s.data.toList && decide (s.size ≤ 60)) from rfl)
      clear hs hiL
      revert HV HRB
      generalize validB s.data.toList = vb
      intro HV HRB
      cases vb with
      | false =>
        go_wp2_with fail
        refine (HV.out _).mono ?_
        rintro e w2 ⟨rfl, hb2⟩
        have HB2 := Lib.hid (Below.behind HB.out hb2)
        clear hb2
        go_wp2
        go_ret
        exact ⟨by rw [HSP.out, HN.out, HRB.out]; rfl, HB2.out⟩
      | true =>
        obtain ⟨G, rfl⟩ : ∃ G, gk = G + 1 := ⟨gk - 1, by omega⟩
        by_cases h60 : s.size ≤ 60
        · have h60I : ¬ (s.size : Int) > 60 := by omega
          have HRT := Lib.hid (show rightB s = true by rw [HRB.out, decide_eq_true h60]; rfl)
          go_wp2_with fail
          refine (HV.out _).mono ?_
          rintro e w2 ⟨rfl, hb2⟩
          have HB2 := Lib.hid (Below.behind HB.out hb2)
          clear hb2
          go_wp2
          go_roundg G
          case measure => omega
          case rel => exact ⟨i + 1, by go_num, by omega, by rw [HN.out, HRT.out], HB2.out⟩
        · have h60I : (s.size : Int) > 60 := by omega
          have HRT := Lib.hid (show rightB s = false by rw [HRB.out, decide_eq_false h60]; rfl)
          go_wp2_with fail
          refine (HV.out _).mono ?_
          rintro e w2 ⟨rfl, hb2⟩
          have HB2 := Lib.hid (Below.behind HB.out hb2)
          clear hb2
          go_wp2
          go_ret
          exact ⟨by rw [HSP.out, HN.out, HRT.out]; rfl, HB2.out⟩
    · obtain rfl : i = K := by omega
      have hi1 : ¬ (i : Int) < (i : Int) := by omega
      have HT := Lib.hid (show L.all rightB = true by
        have := HA.out
        rwa [List.take_of_length_le (by rw [HK.out]; exact Nat.le_refl _)] at this)
      go_wp2
      go_ret
      exact ⟨by rw [HT.out]; rfl, HB.out⟩
end Go.Proofs.YtmnibfdenmeepaaDoor
