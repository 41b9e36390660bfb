/- The sanity check of layer 15, in any world. -/
import Derived.Test.YtcnmblfdieegfaaSetGet
namespace Go.Proofs.Ytcnmblfdieegfaa
open Go.RowKit Go.ChangeMaps

set_option maxHeartbeats 3200000 in
set_option maxRecDepth 100000 in
theorem awake_any (w : World) : Calls Try.prog 5 #[] w fun e w' => e = .returned (.bool true) ∧ Below w.heap.size w w' := by
  go_enter Try.func5, Try.ntmps5
  go_wp2_with fail
  refine (new_at w).mono ?_
  rintro e W1 ⟨rfl, hS1, hG1, hP1, hB1⟩
  have zS := hS1.lt
  have zP := hP1.lt
  have zW := hB1.size
  obtain ⟨n, hn⟩ : ∃ n, w.heap.size = n := ⟨_, rfl⟩
  rw [hn] at hS1 hG1 hP1 hB1 zS zP zW ⊢
  go_wp2_with fail
  refine (push_at W1 (n + 3) n _ _ 1 hP1 hS1 rfl).mono ?_
  rintro e W2 ⟨rfl, hS2, hH2, ⟨C, hP2⟩, K2⟩
  have hG2 := K2.hasM hG1 (by omega)
  have B2 := hB1.trans (K2.below (B := n) (by omega) (fun k hk => by omega))
  have zH : n + 3 < W1.heap.size := zP
  obtain ⟨h, hh⟩ : ∃ h, W1.heap.size = h := ⟨_, rfl⟩
  rw [hh] at hS2 hH2 zH
  clear hS1 hG1 hP1 hB1 K2
  go_wp2_with fail
  refine (link_outer W2 (n + 3) n (n + 1) h 0 1 _ C _ _ _ hP2 hS2 rfl rfl hG2 hH2 (by omega) (by omega) (by omega)).mono ?_
  rintro e W3 ⟨rfl, cb, nb, N, M, hG3, hH3, hC3, hN3, hM3, l1, l2, l3, K3⟩
  have zH2 := hH2.lt
  have hS3 := K3.hasM hS2 (by omega)
  have hP3 := K3.has hP2 (by omega)
  have B3 := B2.trans (K3.below (B := n) (by have := B2.size; omega) (fun k hk => by omega))
  clear hS2 hP2 hG2 hH2 K3
  go_wp2_with fail
  refine (set_at W3 (n + 3) n h M cb nb 1 _ C _ _ _ hP3 hS3 rfl hH3 hM3 hC3).mono ?_
  rintro e W4 ⟨rfl, mb, hE4, hC4, K4⟩
  have hS4 := K4.hasM hS3 (by omega)
  have hP4 := K4.has hP3 (by omega)
  have hG4 := K4.hasM hG3 (by omega)
  have hN4 := K4.has hN3 (by omega)
  have B4 := B3.trans (K4.below (B := n) (by have := B3.size; omega) (fun k hk => by omega))
  clear hS3 hP3 hG3 hH3 hC3 hN3 hM3 K4
  go_wp2_with fail
  refine (get_at W4 (n + 3) n (n + 1) N cb mb 0 _ C _ _ _ hP4 hS4 rfl hG4 hN4 hC4 hE4).mono ?_
  rintro e W5 ⟨rfl, hB5⟩
  have hS5 := hS4.below hB5
  have hP5 := hP4.below hB5
  have hG5 := hG4.below hB5
  have hN5 := hN4.below hB5
  have hC5 := hC4.below hB5
  have B5 := B4.trans (hB5.mono (by have := B4.size; omega))
  clear hS4 hP4 hG4 hN4 hC4 hE4 hB5
  go_wp2_with fail
  refine (kind_at W5 (n + 3) n (n + 1) N cb 0 _ C _ _ _ _ hP5 hS5 rfl hG5 hN5 hC5).mono ?_
  rintro e W6 ⟨rfl, hB6⟩
  have B6 := B5.trans (hB6.mono (by have := B5.size; omega))
  go_wp2
  go_ret
  exact ⟨rfl, by rw [hn]; exact B6⟩
end Go.Proofs.Ytcnmblfdieegfaa
