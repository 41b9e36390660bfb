/- The tree of the sanity check of layer 16: SetSearch. -/
import Derived.Test.YtcnmblfdieegfaaTree2
namespace Go.Proofs.Ytcnmblfdieegfaa
open Go.RowKit Go.Lib Go.ChangeMaps
attribute [local go_sem] put_size

def sA : ByteArray := ⟨#[97]⟩
def sB : ByteArray := ⟨#[98]⟩
def kA : ByteArray := ⟨#[58, 58, 97]⟩
def kB : ByteArray := ⟨#[58, 58, 98]⟩
def kBl : List UInt8 := [58, 58, 98]
theorem key_a : (⟨(canP [] sA.data.toList).toArray⟩ : ByteArray) = kA := by kernel_rfl
theorem key_b : (⟨(canP [] sB.data.toList).toArray⟩ : ByteArray) = kB := by kernel_rfl

theorem Kept.far {S : Nat → Prop} {a b : World} (h : Kept S a b) {p : Addr} (hp : S p.block ∨ a.heap.size ≤ p.block) (u : Value) : Kept S a (b.setCell p u) := h.put hp u

set_option maxHeartbeats 1600000 in
set_option maxRecDepth 100000 in
theorem search_at (T M A B L i j : Nat) (es : Array MapEntry) (ck : Nat) (w : World) (hT : Has w T 78 #[.map (some M)]) (hM : HasM w M es ck) (hA : Has w A 75 (nodeCells (.slice none 0 0))) (hL : w.cell? ⟨L, 0, none⟩ = some (.string sB))
    (fa : Instr.findNow .string (.string kA) es.toList 0 = some (some (i, ptrTo A))) (fb : Instr.findNow .string (.string kB) es.toList 0 = some (some (j, ptrTo B))) :
    Calls Try.prog 30 #[ptrTo T, .string sA, .slice (some ⟨L, 0, none⟩) 1 1] w fun e w' => e = .returned (.int .i64 0) ∧ ∃ g c, w.heap.size ≤ g ∧ g < w'.heap.size ∧ Has w' A 75 (nodeCells (.slice (some ⟨g, 0, none⟩) 1 c)) ∧ w'.cell? ⟨g, 0, none⟩ = some (.string kB) ∧ Kept (fun k => k = A) w w' := by
  obtain ⟨i9, hi9, hy0, hy1, hy2⟩ := info_parts Try.info9
  have FA := fun W (h1 : Has W T 78 #[.map (some M)]) (h2 : HasM W M es ck) => find_any T M i es ck sA kA (ptrTo A) W h1 h2 (by decide) key_a fa
  have FB := fun W (h1 : Has W T 78 #[.map (some M)]) (h2 : HasM W M es ck) => find_any T M j es ck sB kB (ptrTo B) W h1 h2 (by decide) key_b fb
  have C := fun W => canonical_any ⟨#[]⟩ sB W (by decide) (by decide)
  have hC : (⟨(canP (⟨#[]⟩ : ByteArray).data.toList sB.data.toList).toArray⟩ : ByteArray) = kB := key_b
  rw [hC] at C
  have lA := hA.lt
  obtain ⟨a, ha⟩ : ∃ a, sA = a := ⟨_, rfl⟩
  obtain ⟨b, hb⟩ : ∃ b, sB = b := ⟨_, rfl⟩
  obtain ⟨kb, hkb⟩ : ∃ k, kB = k := ⟨_, rfl⟩
  have hkl : (⟨kBl.toArray⟩ : ByteArray) = kb := by rw [← hkb]; rfl
  rw [ha] at FA ⊢
  rw [hb] at FB C hL
  rw [hkb] at C ⊢
  have B0 := Below.refl w.heap.size w
  have HKL := Lib.hid hkl
  clear hC fa fb ha hb hkb hkl
  unfold ptrTo at FA FB ⊢
  unfold nodeCells at hA ⊢
  go_enter Try.func30, Try.ntmps30
  go_wp2_with fail
  refine (FA _ hT hM).mono ?_
  rintro e wa ⟨rfl, hba⟩
  go_wp2
  go_loopg [8, 18] 1 (fun g v8 v18 wx => ((v8 = .slice none 0 0 ∧ v18 = .int .i64 0 ∧ 1 ≤ g) ∨ (v18 = .int .i64 1 ∧ wx.ownsRow w.heap.size 9 1 v8 1 [.string kb])) ∧ Below w.heap.size w wx)
  case atStart => exact ⟨.inl ⟨rfl, rfl, Nat.le_refl _⟩, hba⟩
  case round =>
    obtain ⟨hrel, hbx⟩ := hrel
    have hTx := hT.below hbx
    have hMx := hM.below hbx
    have hAx := hA.below hbx
    have hLx := cell_keep hL hbx
    rcases hrel with ⟨rfl, rfl, hg⟩ | ⟨rfl, ho⟩
    · obtain ⟨g, rfl⟩ : ∃ g, gk = g + 1 := ⟨gk - 1, by omega⟩
      go_wp2_with fail
      refine (FB _ hTx hMx).mono ?_
      rintro e wb ⟨rfl, hbb⟩
      have hbb2 := below_behind hbx hbb
      go_wp2_with fail
      refine (C _).mono ?_
      rintro e wc ⟨rfl, hbc⟩
      have hbc2 := below_behind hbb2 hbc
      go_wp2_with (at_builtin; refine wpList_append_own _ rfl _ _ 28 rfl w.heap.size 9 i9 (.string ⟨#[]⟩) 1 16 Try.underlying28 hi9 hy0 hy1 hy2 rfl (by decide) (.slice none 0 0) 0 [] rfl (World.ownsRow_nil _ _ _ _) ⟨wc.heap.size, 0, none⟩ 1 1 [.string kb] rfl rfl (cell_one_new _ _ _) (by intro u hu; simp at hu; subst hu; rfl) (by unfold maxLen; omega) (by omega) (by simp; exact Nat.le_trans hbc2.size (by omega)) ?_; intro v' w2 hown2 hgrow _; obtain ⟨va, vc, rfl⟩ := slice_of_own hown2)
      go_roundg g
      case measure => omega
      case rel =>
        refine ⟨.inr ⟨rfl, hown2⟩, ((hbc2.alloc hbc2.size _).grown hgrow (by simp; exact Nat.le_trans hbc2.size (by omega)) (fun q hq => by cases hq))⟩
    · rcases ho.2 with ⟨_, h0⟩ | ⟨g, cap', cur, hv, hB, hg, hcap, h5, h6, hcur⟩
      · cases h0
      subst hv
      have hgl := (Array.getElem?_eq_some_iff.1 hg).1
      have hc0 : wr.cell? ⟨g, 0, none⟩ = some (.string kb) := by
        rw [cell_of_row wr g 0 cur 9 (0, 0) hg]
        have h1 : (cur.toList.take (1 * 1))[0]? = [Value.string kb][0]? := by rw [hcur]
        rw [List.getElem?_take_of_lt (by omega)] at h1
        rw [← Array.getElem?_toList, h1]
        rfl
      have cA : wr.cell? ⟨A, 0, none⟩ = some (.slice none 0 0) := hAx.cell 0
      have fA : wr.frozen? ⟨A, 0, none⟩ = false := hAx.free 0
      have KK : Kept (fun k => k = A) w wr := below_kept (Kept.refl _ w) hbx
      have hgA : g ≠ A := by omega
      go_wp2
      go_ret
      refine ⟨rfl, g, cap', hB, ?_, ?_, ?_, KK.put (.inl rfl) _⟩
      · simpa using hgl
      · exact hAx.put 0 _
      · have h1 := (Has.far (show Has wr g 9 cur from hg) (p := ⟨A, 0, none⟩) hgA (.slice (some ⟨g, 0, none⟩) 1 cap')).cell 0
        have h2 := (show Has wr g 9 cur from hg).cell 0
        exact h1.trans (h2.symm.trans hc0)
end Go.Proofs.Ytcnmblfdieegfaa
