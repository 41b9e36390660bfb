/- Sums of words; cut. -/
import Derived.Test.YtmnibfdenmeepaaDoorComp
namespace Go.Proofs.YtmnibfdenmeepaaDoor
open Go.RowKit Go.Shelf Big

theorem add32_any (x y c : Nat) (w : World) (hx : x < 4294967296) (hy : y < 4294967296) (hc : c ≤ 1) :
    Calls Tryd.prog 128 #[.int .u32 (x : Int), .int .u32 (y : Int), .int .u32 (c : Int)] w fun e w' => e = .returned (.tuple #[.int .u32 (((x + y + c) % 4294967296 : Nat) : Int), .int .u32 (((x + y + c) / 4294967296 : Nat) : Int)]) ∧ w = w' := by
  have h1 : (x : Int) < 4294967296 := by omega
  have h2 : (y : Int) < 4294967296 := by omega
  have h3 : (c : Int) ≤ 1 := by omega
  go_enter Tryd.func128, Tryd.ntmps128
  go_wp2
  go_ret2
  refine ⟨?_, rfl⟩
  rw [Int.natCast_emod, Int.natCast_ediv]
  rfl

/-- Words are all below the base. -/
def Small (ds : List Nat) : Prop := ∀ d ∈ ds, d < 4294967296

theorem cut_owns {w : World} {B g cap k : Nat} {ds : List Nat} (h : w.ownsRow B 75 1 (.slice (some ⟨g, 0, none⟩) ds.length cap) ds.length (ds.map u32v)) (ht : lims 4294967296 (ev 4294967296 ds) = ds.take k) (hk : k ≤ ds.length) :
    NatIs w B (.slice (some ⟨g, 0, none⟩) k cap) (ev 4294967296 ds) := by
  unfold NatIs
  rw [ht]
  have hl : (ds.take k).length = k := by simp; omega
  rw [hl]
  rcases h.2 with ⟨e, _⟩ | ⟨g', cap', cur, e, hb, hg, hn, hc, hz, hx⟩
  · cases e
  · cases e
    refine ⟨by simp; omega, .inr ⟨g, cap, cur, rfl, hb, hg, by omega, hc, hz, ?_⟩⟩
    have : cur.toList.take (k * 1) = (cur.toList.take (ds.length * 1)).take k := by rw [List.take_take]; congr 1; omega
    rw [this, hx, List.map_take]

set_option maxHeartbeats 800000 in
theorem cut_any (B : Nat) (v : Value) (ds : List Nat) (w : World) (h : w.ownsRow B 75 1 v ds.length (ds.map u32v)) (hs : Small ds) (hl : ds.length ≤ 300000) :
    Calls Tryd.prog 91 #[v] w fun e w' => (∃ v', e = .returned v' ∧ NatIs w B v' (ev 4294967296 ds)) ∧ w = w' := by
  rcases h.2 with ⟨rfl, h0⟩ | ⟨g, cap, cur, rfl, hb, hg, hn, hc, hz, ht⟩
  · have e : ds = [] := List.eq_nil_of_length_eq_zero h0
    subst e
    go_enter Tryd.func91, Tryd.ntmps91
    go_wp2
    go_loop [0] (fun v => v = .slice none 0 0) (fun _ => 0)
    case atStart => rfl
    case round =>
      subst hrel
      go_wp2
      go_ret
      refine ⟨⟨_, rfl, ?_⟩, rfl⟩
      show w.ownsRow _ _ _ _ (lims 4294967296 0).length ((lims 4294967296 0).map u32v)
      rw [lims_zero]
      exact World.ownsRow_nil _ _ _ _
  · have hcell : ∀ j, (hj : j < ds.length) → w.cell? ⟨g, j, none⟩ = some (.int .u32 (ds[j] : Int)) := fun j hj => by
      rw [World.ownsRow.cellAt h j (by omega), List.getElem?_map, List.getElem?_eq_getElem hj]; rfl
    have HC := Lib.hid hcell
    have HH := Lib.hid h
    clear hcell h ht
    go_enter Tryd.func91, Tryd.ntmps91
    go_wp2
    go_loopg [0] ds.length (fun k v wx => w = wx ∧ v = .slice (some ⟨g, 0, none⟩) k cap ∧ k ≤ ds.length ∧ ev 4294967296 (ds.take k) = ev 4294967296 ds)
    case atStart => exact ⟨rfl, rfl, Nat.le_refl _, by rw [List.take_length]⟩
    case round =>
      obtain ⟨rfl, rfl, hk, he⟩ := hrel
      have HE := Lib.hid he
      clear he
      cases gk with
      | zero =>
        have HT := Lib.hid (lims_take w32_ge hs (Nat.zero_le _) HE.out (by simp))
        go_wp2
        go_ret
        exact ⟨⟨_, rfl, cut_owns HH.out HT.out (by omega)⟩, rfl⟩
      | succ k =>
        have hk1 : k < ds.length := by omega
        have hcell := HC.out k hk1
        obtain ⟨d, hd⟩ : ∃ d, ds[k] = d := ⟨_, rfl⟩
        rw [hd] at hcell
        have hgd : ds.getD (k + 1 - 1) 0 = d := by rw [Nat.add_sub_cancel, List.getD_eq_getElem?_getD, List.getElem?_eq_getElem hk1, hd]; rfl
        have hi1 : ((k + 1 : Nat) : Int) - 1 = (k : Int) := by omega
        have hi2 : ((k + 1 : Nat) : Int) > 0 := by omega
        have hi3 : (0 : Int) ≤ (k : Int) := by omega
        have hi4 : (k : Int) < ((k + 1 : Nat) : Int) := by omega
        by_cases hz0 : d = 0
        · subst hz0
          have HN := Lib.hid ((ev_take_pred 4294967296 ds (k + 1) (by omega) hgd).trans HE.out)
          rw [show ((0 : Nat) : Int) = 0 from rfl] at hcell
          clear hd hgd HE
          go_wp2
          go_roundg k
          case rel => exact ⟨rfl, by rfl, by omega, HN.out⟩
          case measure => omega
        · have hdz : ((d : Int) == 0) = false := by simp; omega
          have HT := Lib.hid (lims_take w32_ge hs hk HE.out (fun _ => by rw [hgd]; exact hz0))
          clear hd hgd
          go_wp2
          go_ret
          exact ⟨⟨_, rfl, cut_owns HH.out HT.out (by omega)⟩, rfl⟩
end Go.Proofs.YtmnibfdenmeepaaDoor
