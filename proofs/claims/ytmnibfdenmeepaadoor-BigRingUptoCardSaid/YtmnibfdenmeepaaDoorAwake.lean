/- The sanity check. -/
import Derived.Test.YtmnibfdenmeepaaDoorBase
namespace Go.Proofs.YtmnibfdenmeepaaDoor
open Go.RowKit Go.Shelf Big

theorem div_at (q r : Int) (h : DivIs (-7) 2 q r) : q = -4 ∧ r = 1 := by
  unfold DivIs at h
  omega
theorem digs_one {b n : Nat} (hb : 2 ≤ b) (h0 : 0 < n) (h : n < b) : digs b n = [chr n] := by
  unfold digs
  rw [if_neg (by omega), lims_pos hb h0, Nat.mod_eq_of_lt h, Nat.div_eq_of_lt h, lims_zero]; rfl
theorem digs_ff : digs 16 (255 : Int).natAbs = [102, 102] := by
  show digs 16 255 = _
  unfold digs
  rw [if_neg (by omega), lims_pos (by omega) (by omega), lims_pos (by omega) (by omega)]
  rw [show 255 / 16 / 16 = 0 from rfl, lims_zero]; rfl
set_option maxRecDepth 100000 in
set_option maxHeartbeats 2000000 in
theorem awake_any (w : World) :
    Calls Tryd.prog 11 #[] w fun e w' => e = .returned (.bool true) ∧ Below w.heap.size w w' := by
  have hDv := Lib.hid (Div_of ⟨#[45, 55]⟩ ⟨#[50]⟩ w (by decide) (by decide) (-7) 2 num_m7 num_2 (tool_small (by decide)) (tool_small (by decide)) (by decide)
    (byIs_one (by show (lims 4294967296 7).length ≤ _; rw [lims_one (by omega) (by omega)]; simp) (by decide) (by decide) (by decide))
    (fun q r h => by obtain ⟨rfl, rfl⟩ := div_at q r h; exact ⟨tool_small (by decide), tool_small (by decide)⟩))
  have h16 : (lims 16 255).length ≤ 4000000 := by
    have := (lims_len_le (B := 16) (by omega) 255 2).2 (by decide)
    omega
  have hBs := Lib.hid (fun W => Base_of ⟨#[50, 53, 53]⟩ 16 W (by decide) (by omega) (by omega) 255 num_255 (tool_small (by decide)) (by decide) h16)
  have ht4 : txt (-4) = [45, 52] := by
    unfold txt
    rw [if_pos (by decide), show (-4 : Int).natAbs = 4 from rfl, digs_one (by omega) (by omega) (by omega)]; rfl
  have ht1 : txt 1 = [49] := by
    unfold txt
    rw [if_neg (by decide), show (1 : Int).natAbs = 1 from rfl, digs_one (by omega) (by omega) (by omega)]; rfl
  have htf : digs 16 (255 : Int).natAbs = [102, 102] := digs_ff
  have HT4 := Lib.hid ht4
  have HT1 := Lib.hid ht1
  have HTF := Lib.hid htf
  clear ht4 ht1 htf h16
  go_enter Tryd.func11, Tryd.ntmps11
  go_wp2_with fail
  refine hDv.out.mono ?_
  rintro e w1 ⟨⟨q, r, hd, rfl⟩, hb1⟩
  obtain ⟨rfl, rfl⟩ := div_at q r hd
  rw [HT4.out, HT1.out]
  have hz1 := hb1.size
  clear hd
  go_wp2_with fail
  refine (hBs.out w1).mono ?_
  rintro e w2 ⟨rfl, hb2⟩
  rw [HTF.out]
  have HB := Lib.hid (Below.behind hb1 hb2)
  clear hb1 hb2
  go_wp2
  go_ret
  exact ⟨rfl, HB.out⟩
end Go.Proofs.YtmnibfdenmeepaaDoor
