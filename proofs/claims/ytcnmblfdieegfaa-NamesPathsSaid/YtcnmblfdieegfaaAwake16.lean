/- The sanity check of layer 16, in any world. -/
import Derived.Test.YtcnmblfdieegfaaTree4
namespace Go.Proofs.Ytcnmblfdieegfaa
open Go.RowKit Go.Lib Go.ChangeMaps

def bc : ByteArray := ⟨#[98, 58, 58, 58, 99]⟩
theorem parts_a : partsOf kA.data.toList = [sA.data.toList] := by kernel_rfl
theorem parts_b : partsOf sB.data.toList = [sB.data.toList] := by kernel_rfl
theorem canon_a : (⟨(canP [] kA.data.toList).toArray⟩ : ByteArray) = kA := by kernel_rfl
theorem canon_bc : (⟨(canP kA.data.toList bc.data.toList).toArray⟩ : ByteArray) = ⟨#[58, 58, 97, 58, 58, 98, 58, 58, 99]⟩ := by kernel_rfl

theorem texts_new (w : World) : Texts (w.alloc (.cells #[.string ⟨o1.toArray⟩, .string ⟨o2.toArray⟩, .string ⟨o3.toArray⟩] 9)) (some ⟨w.heap.size, 0, none⟩) [o1, o2, o3] := fun n hn => by
  have hH := Has.new w 9 #[.string ⟨o1.toArray⟩, .string ⟨o2.toArray⟩, .string ⟨o3.toArray⟩]
  have e : (Addr.add ⟨w.heap.size, 0, none⟩ n) = ⟨w.heap.size, n, none⟩ := by unfold Addr.add; split <;> simp_all
  rcases (by simp at hn; omega : n = 0 ∨ n = 1 ∨ n = 2) with rfl | rfl | rfl
  · exact ⟨_, rfl, by rw [e]; exact hH.cell 0⟩
  · exact ⟨_, rfl, by rw [e]; exact hH.cell 1⟩
  · exact ⟨_, rfl, by rw [e]; exact hH.cell 2⟩

set_option maxHeartbeats 3200000 in
set_option maxRecDepth 100000 in
theorem awake16 (w : World) : Calls Try.prog 8 #[] w fun e w' => e = .returned (.bool true) ∧ Below w.heap.size w w' := by
  have CB := fun W => canonical_any kA bc W (by decide) (by decide)
  rw [canon_bc] at CB
  have ea : (⟨#[58, 58, 97]⟩ : ByteArray) = kA := rfl
  have eb : (⟨#[98]⟩ : ByteArray) = sB := rfl
  go_enter Try.func8, Try.ntmps8
  go_wp2_with fail
  refine (tree_at w).mono ?_
  rintro e W1 ⟨rfl, hM1, hT1, hB1⟩
  have z1 := hB1.size
  have zT := hT1.lt
  obtain ⟨n, hn⟩ : ∃ n, w.heap.size = n := ⟨_, rfl⟩
  rw [hn] at hM1 hT1 hB1 z1 zT ⊢
  go_wp2_with fail
  refine (make_any (n + 2) n _ 1 kA sA kA W1 hT1 hM1 (by omega) (by decide) parts_a rfl canon_a rfl rfl).mono ?_
  rintro e W2 ⟨rfl, A, hA1, hA2, hA, hM2, K2⟩
  have hT2 := K2.has hT1 (by omega)
  have B2 := hB1.trans (K2.below (B := n) (by omega) (fun k hk => by omega))
  go_wp2_with fail
  refine (make_any (n + 2) n _ 2 sB sB kB W2 hT2 hM2 (by omega) (by decide) parts_b rfl key_b rfl rfl).mono ?_
  rintro e W3 ⟨rfl, B, hB3, hB4, hBn, hM3, K3⟩
  have hT3 := K3.has hT2 (by omega)
  have hA3 := K3.has hA (by omega)
  have B3 := B2.trans (K3.below (B := n) (by have := B2.size; omega) (fun k hk => by omega))
  have hL := (Has.new W3 9 #[.string sB]).cell 0
  have hT4 := hT3.alloc (.cells #[.string sB] 9)
  have hM4 := hM3.alloc (.cells #[.string sB] 9)
  have hA4 := hA3.alloc (.cells #[.string sB] 9)
  have B4 := B3.alloc (by rw [← hn]; exact B3.size) (.cells #[.string sB] 9)
  clear hM1 hT1 hB1 hA hM2 K2 hT2 B2 hBn hM3 K3 hT3 hA3 B3
  go_wp2_with fail
  refine (search_at (n + 2) n A B W3.heap.size 1 2 _ 3 _ hT4 hM4 hA4 hL rfl rfl).mono ?_
  rintro e W5 ⟨rfl, g, c, hg1, hg2, hA5, hgc, K5⟩
  have hT5 := K5.has hT4 (by omega)
  have hM5 := K5.hasM hM4 (by omega)
  have B5 := B4.trans (K5.below (B := n) (by have := B4.size; omega) (fun k hk => by omega))
  clear hT4 hM4 hA4 B4 K5 hL
  go_wp2_with fail
  refine (cand_at (n + 2) n A B (n + 1) g c 1 2 0 _ 3 _ hT5 hM5 hA5 hgc rfl rfl rfl).mono ?_
  rintro e W6 ⟨ao, cc, rfl, hX, hB6⟩
  have B6 := B5.trans (hB6.mono (by rw [← hn]; exact B5.size))
  clear hT5 hM5 hA5 B5 hB6 hgc
  go_wp2_with fail
  refine (CB _).mono ?_
  rintro e W7 ⟨rfl, hB7⟩
  have B7 := B6.trans (hB7.mono (by rw [← hn]; exact B6.size))
  have hX7 := hX.below hB7
  have hX8 : Texts (W7.alloc (.cells #[.string ⟨o1.toArray⟩, .string ⟨o2.toArray⟩, .string ⟨o3.toArray⟩] 9)) ao [o1, o2, o3] := hX7.below ((Below.refl _ _).alloc (Nat.le_refl _) _)
  have hY := texts_new W7
  have B8 := B7.alloc (by rw [← hn]; exact B7.size) (.cells #[.string ⟨o1.toArray⟩, .string ⟨o2.toArray⟩, .string ⟨o3.toArray⟩] 9)
  clear B7 hX7 hX hB7 B6
  go_wp2_with fail
  refine (same_any [o1, o2, o3] [o1, o2, o3] ao _ cc 3 _ (by decide) hX8 hY).mono ?_
  rintro e W9 ⟨rfl, hB9⟩
  go_wp2
  go_ret
  exact ⟨by simp, by rw [hn]; exact B8.trans (hB9.mono (by rw [← hn]; exact B8.size))⟩
end Go.Proofs.Ytcnmblfdieegfaa
