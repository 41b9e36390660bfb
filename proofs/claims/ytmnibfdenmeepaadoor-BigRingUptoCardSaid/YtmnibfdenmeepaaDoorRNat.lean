/- trimmed, num of the reference: decimal digits, the lowest first. -/
import Derived.Test.YtmnibfdenmeepaaDoorRStrip
namespace Go.Proofs.YtmnibfdenmeepaaDoor
open Go.RowKit Go.Shelf Big

theorem ten_ge : 2 ≤ 10 := by decide
def i64v (d : Nat) : Value := .int .i64 (d : Int)
/-- A slice holds a number's decimal digits. -/
def DecIs (w : World) (B : Nat) (v : Value) (n : Nat) : Prop := w.ownsRow B 3 1 v (lims 10 n).length ((lims 10 n).map i64v)
def Ten (ds : List Nat) : Prop := ∀ d ∈ ds, d < 10
theorem DecIs.kept {w w' : World} {B : Nat} {v : Value} {n : Nat} (h : DecIs w B v n) (hb : Below w.heap.size w w') : DecIs w' B v n := own_below h hb
theorem DecIs.slice {w : World} {B : Nat} {v : Value} {n : Nat} (h : DecIs w B v n) : ∃ ao c, v = .slice ao (lims 10 n).length c := slice_of_own h
theorem DecIs.alloc {w : World} {B n : Nat} {v : Value} (h : DecIs w B v n) (o : Obj) : DecIs (w.alloc o) B v n := World.ownsRow.alloc h o
theorem trim_owns {w : World} {B g cap k : Nat} {ds : List Nat} (h : w.ownsRow B 3 1 (.slice (some ⟨g, 0, none⟩) ds.length cap) ds.length (ds.map i64v)) (ht : lims 10 (ev 10 ds) = ds.take k) (hk : k ≤ ds.length) :
    DecIs w B (.slice (some ⟨g, 0, none⟩) k cap) (ev 10 ds) := by
  unfold DecIs
  rw [ht]
  have hl : (ds.take k).length = k := by simp; omega
  rw [hl]
  rcases h.2 with ⟨e, _⟩ | ⟨g', cap', cur, e, hb, hg, hn, hc, hz, hx⟩
  · cases e
  · cases e
    refine ⟨by simp; omega, .inr ⟨g, cap, cur, rfl, hb, hg, by omega, hc, hz, ?_⟩⟩
    have : cur.toList.take (k * 1) = (cur.toList.take (ds.length * 1)).take k := by rw [List.take_take]; congr 1; omega
    rw [this, hx, List.map_take]

set_option maxHeartbeats 800000 in
theorem trimmed_any (B : Nat) (v : Value) (ds : List Nat) (w : World) (h : w.ownsRow B 3 1 v ds.length (ds.map i64v)) (hs : Ten ds) (hl : ds.length ≤ 1000000000000000000) :
    Calls Tryd.prog 89 #[v] w fun e w' => (∃ v', e = .returned v' ∧ DecIs w B v' (ev 10 ds)) ∧ w = w' := by
  rcases h.2 with ⟨rfl, h0⟩ | ⟨g, cap, cur, rfl, hb, hg, hn, hc, hz, ht⟩
  · have e : ds = [] := List.eq_nil_of_length_eq_zero h0
    subst e
    go_enter Tryd.func89, Tryd.ntmps89
    go_wp2
    go_loop [0] (fun v => v = .slice none 0 0) (fun _ => 0)
    case atStart => rfl
    case round =>
      subst hrel
      go_wp2
      go_ret
      refine ⟨⟨_, rfl, ?_⟩, rfl⟩
      show w.ownsRow _ _ _ _ (lims 10 0).length ((lims 10 0).map i64v)
      rw [lims_zero]
      exact World.ownsRow_nil _ _ _ _
  · have hcell : ∀ j, (hj : j < ds.length) → w.cell? ⟨g, j, none⟩ = some (.int .i64 (ds[j] : Int)) := fun j hj => by
      rw [World.ownsRow.cellAt h j (by omega), List.getElem?_map, List.getElem?_eq_getElem hj]; rfl
    have HC := Lib.hid hcell
    have HH := Lib.hid h
    clear hcell h ht
    go_enter Tryd.func89, Tryd.ntmps89
    go_wp2
    go_loopg [0] ds.length (fun k v wx => w = wx ∧ v = .slice (some ⟨g, 0, none⟩) k cap ∧ k ≤ ds.length ∧ ev 10 (ds.take k) = ev 10 ds)
    case atStart => exact ⟨rfl, rfl, Nat.le_refl _, by rw [List.take_length]⟩
    case round =>
      obtain ⟨rfl, rfl, hk, he⟩ := hrel
      have HE := Lib.hid he
      clear he
      cases gk with
      | zero =>
        have HT := Lib.hid (lims_take ten_ge hs (Nat.zero_le _) HE.out (by simp))
        go_wp2
        go_ret
        exact ⟨⟨_, rfl, trim_owns HH.out HT.out (by omega)⟩, rfl⟩
      | succ k =>
        have hk1 : k < ds.length := by omega
        have hcell := HC.out k hk1
        obtain ⟨d, hd⟩ : ∃ d, ds[k] = d := ⟨_, rfl⟩
        rw [hd] at hcell
        have hgd : ds.getD (k + 1 - 1) 0 = d := by rw [Nat.add_sub_cancel, List.getD_eq_getElem?_getD, List.getElem?_eq_getElem hk1, hd]; rfl
        have hi1 : ((k + 1 : Nat) : Int) - 1 = (k : Int) := by omega
        have hi2 : ((k + 1 : Nat) : Int) > 0 := by omega
        have hi3 : (0 : Int) ≤ (k : Int) := by omega
        have hi4 : (k : Int) < ((k + 1 : Nat) : Int) := by omega
        by_cases hz0 : d = 0
        · subst hz0
          have HN := Lib.hid ((ev_take_pred 10 ds (k + 1) (by omega) hgd).trans HE.out)
          rw [show ((0 : Nat) : Int) = 0 from rfl] at hcell
          clear hd hgd HE
          go_wp2
          go_roundg k
          case rel => exact ⟨rfl, by rfl, by omega, HN.out⟩
          case measure => omega
        · have hdz : ((d : Int) == 0) = false := by simp; omega
          have HT := Lib.hid (lims_take ten_ge hs hk HE.out (fun _ => by rw [hgd]; exact hz0))
          clear hd hgd
          go_wp2
          go_ret
          exact ⟨⟨_, rfl, trim_owns HH.out HT.out (by omega)⟩, rfl⟩
theorem dec_len {n : Nat} : ((lims 10 n).length = 0 ∧ n = 0) ∨ (0 < (lims 10 n).length ∧ 0 < n) := by
  have : (lims 10 n).length = 0 ↔ n = 0 := by rw [List.length_eq_zero_iff, lims_nil ten_ge]
  omega
theorem num_any (B n : Nat) (v : Value) (s : Bool) (w : World) (h : DecIs w B v n) :
    Calls Tryd.prog 77 #[.bool s, v] w fun e w' => e = .returned (.agg #[.bool (s && decide (0 < n)), v]) ∧ Below w.heap.size w w' := by
  obtain ⟨av, c, rfl⟩ := h.slice
  have hl := dec_len (n := n)
  revert hl
  generalize (lims 10 n).length = l
  intro hl
  clear h
  cases s with
  | false =>
    clear hl
    go_enter Tryd.func77, Tryd.ntmps77
    go_wp2
    exact bodyPost_ret (v := .agg #[.bool false, .slice av l c]) (by simp [results, Tryd.results77, go_sem]) rfl ⟨rfl, (Below.refl _ w).alloc (Nat.le_refl _) _⟩
  | true =>
    rcases hl with ⟨rfl, h2⟩ | ⟨h1, h2⟩
    · have H := Lib.hid h2
      clear h2
      go_enter Tryd.func77, Tryd.ntmps77
      go_wp2
      exact bodyPost_ret (v := .agg #[.bool false, .slice av 0 c]) (by simp [results, Tryd.results77, go_sem]) rfl ⟨by rw [H.out]; rfl, (Below.refl _ w).alloc (Nat.le_refl _) _⟩
    · have H := Lib.hid h2
      clear h2
      go_enter Tryd.func77, Tryd.ntmps77
      go_wp2
      exact bodyPost_ret (v := .agg #[.bool true, .slice av l c]) (by simp [results, Tryd.results77, go_sem]) rfl ⟨by rw [decide_eq_true H.out]; rfl, (Below.refl _ w).alloc (Nat.le_refl _) _⟩
end Go.Proofs.YtmnibfdenmeepaaDoor
