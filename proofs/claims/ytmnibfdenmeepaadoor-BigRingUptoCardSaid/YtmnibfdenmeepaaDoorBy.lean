/- nat.by of the program, for a divisor of one word. -/
import Derived.Test.YtmnibfdenmeepaaDoorCalls
namespace Go.Proofs.YtmnibfdenmeepaaDoor
open Go.RowKit Go.Shelf Big

theorem lims_one {k : Nat} (h0 : 0 < k) (h : k < 4294967296) : lims 4294967296 k = [k] := by
  rw [lims_pos w32_ge h0, Nat.mod_eq_of_lt h, Nat.div_eq_of_lt h, lims_zero]
theorem one_row {W : World} {n : Nat} (B r : Nat) (hn : W.heap.size = n) (hB : B ≤ n) :
    (W.alloc (.cells #[.int .u32 (r : Int)] 75)).ownsRow B 75 1 (.slice (some ⟨n, 0, none⟩) 1 1) [r].length ([r].map u32v) := by
  subst hn
  exact World.ownsRow_lit (base := B) (e := 75) (size := 1) W #[.int .u32 (r : Int)] 1 hB (by unfold maxLen; omega) (by simp)
theorem small_one {r : Nat} (h : r < 4294967296) : Small [r] := by
  intro d hd
  rw [List.mem_singleton] at hd
  omega

set_option maxRecDepth 100000 in
set_option maxHeartbeats 1000000 in
theorem by_one (B1 B2 m k : Nat) (va vb : Value) (w : World) (ha : NatIs w B1 va m) (hb : NatIs w B2 vb k) (hla : (lims 4294967296 m).length ≤ 100000) (h0 : 0 < k) (hk : k < 4294967296) (hkm : k ≤ m) :
    Calls Tryd.prog 112 #[va, vb] w fun e w' => (∃ a1 n1 c1 a2 n2 c2, e = .returned (.tuple #[.slice a1 n1 c1, .slice a2 n2 c2]) ∧ NatIs w' w.heap.size (.slice a1 n1 c1) (m / k) ∧ NatIs w' w.heap.size (.slice a2 n2 c2) (m % k)) ∧ Below w.heap.size w w' := by
  have hlk : (lims 4294967296 k).length ≤ 100000 := by rw [lims_one h0 hk]; simp
  have HC := Lib.hid (compare_any B1 B2 m k va vb w ha hb hla hlk)
  have HB := Lib.hid (fun w' (h : Below w.heap.size w w') => And.intro (ha.kept h) (hb.kept h))
  have hc : (0 : Int) ≤ cmp m k := by
    unfold cmp
    split
    · omega
    · split <;> omega
  revert hc HC
  generalize cmp m k = C
  intro HC hc
  have hc2 : decide (C < 0) = false := by rw [decide_eq_false_iff_not]; omega
  have hrow : w.ownsRow B2 75 1 vb 1 [u32v k] := by
    have := hb
    unfold NatIs at this
    rw [lims_one h0 hk] at this
    exact this
  rcases hrow.2 with ⟨rfl, hz⟩ | ⟨g, cap, cur, rfl, hg1, hg2, -⟩
  · omega
  obtain ⟨av, ca, rfl⟩ := ha.slice
  obtain ⟨lv, hlv⟩ : ∃ lv, (lims 4294967296 m).length = lv := ⟨_, rfl⟩
  rw [hlv] at HC HB ⊢
  have HCell := Lib.hid (fun w' (h : NatIs w' B2 (.slice (some ⟨g, 0, none⟩) 1 cap) k) => show w'.cell? ⟨g, 0, none⟩ = some (.int .u32 (k : Int)) from by
    unfold NatIs at h
    rw [lims_one h0 hk] at h
    exact World.ownsRow.cellAt h 0 (by simp))
  have HLA := Lib.hid hla
  have HLV := Lib.hid hlv
  clear ha hb hrow hla hlv hlk
  obtain ⟨r, hr⟩ : ∃ r, m % k = r := ⟨_, rfl⟩
  have hmod : r < 4294967296 := hr ▸ Nat.lt_trans (Nat.mod_lt _ h0) hk
  rw [hr]
  go_enter Tryd.func112, Tryd.ntmps112
  go_wp2_with fail
  refine HC.out.mono ?_
  rintro e w1 ⟨rfl, hb1⟩
  have hcell := HCell.out w1 (HB.out w1 hb1).2
  have hz1 := hb1.size
  go_wp2_with fail
  have hBW := byWord_any B1 m k _ _ (HB.out w1 hb1).1 HLA.out h0 hk
  rw [hr] at hBW
  refine hBW.mono ?_
  rintro e w2 ⟨⟨q, rfl, hq⟩, hb2⟩
  have hz2 := hb2.size
  obtain ⟨aq, cq, rfl⟩ := hq.slice
  have hB2 := Lib.hid (Below.behind hb1 hb2)
  go_wp2_with fail
  refine (cut_any w.heap.size _ [r] _ (one_row _ _ rfl (by omega)) (small_one hmod) (by simp)).mono ?_
  rintro e w3 ⟨⟨v, rfl, hv⟩, rfl⟩
  have hev : ev 4294967296 [r] = r := by simp [ev]
  rw [hev] at hv
  obtain ⟨av2, cv2, rfl⟩ := hv.slice
  have HQ := Lib.hid (World.ownsRow.alloc hq (.cells #[.int .u32 (r : Int)] 75))
  go_wp2
  go_ret2
  exact ⟨⟨_, _, _, _, _, _, rfl, NatIs.mono HQ.out (by omega), hv⟩, hB2.out.alloc (by omega) _⟩
/-- by, of two numbers. -/
def ByIs (m k : Nat) : Prop := ∀ (B1 B2 : Nat) (va vb : Value) (w : World), NatIs w B1 va m → NatIs w B2 vb k →
    Calls Tryd.prog 112 #[va, vb] w fun e w' => (∃ a1 n1 c1 a2 n2 c2, e = .returned (.tuple #[.slice a1 n1 c1, .slice a2 n2 c2]) ∧ NatIs w' w.heap.size (.slice a1 n1 c1) (m / k) ∧ NatIs w' w.heap.size (.slice a2 n2 c2) (m % k)) ∧ Below w.heap.size w w'
theorem byIs_one {m k : Nat} (hla : (lims 4294967296 m).length ≤ 100000) (h0 : 0 < k) (hk : k < 4294967296) (hkm : k ≤ m) : ByIs m k :=
  fun B1 B2 va vb w ha hb => by_one B1 B2 m k va vb w ha hb hla h0 hk hkm
end Go.Proofs.YtmnibfdenmeepaaDoor
