/- Reverse of the program: what it answers. -/
import Derived.Test.YtneklmalkmeohaaEach
namespace Go.Proofs.Ytneklmalkmeohaa
open Go.RowKit Go.Lib

/-- Zeros, then the first k bytes turned round. -/
def turning (l : List UInt8) (k : Nat) : List UInt8 := List.replicate (l.length - k) 0 ++ (l.take k).reverse
theorem turning_len (l : List UInt8) (k : Nat) (h : k ≤ l.length) : (turning l k).length = l.length := by
  unfold turning
  simp
  omega
theorem turning_set (l : List UInt8) (k : Nat) (h : k < l.length) : (turning l k).set (l.length - 1 - k) l[k] = turning l (k + 1) := by
  have e1 : l.length - k = (l.length - (k + 1)) + 1 := by omega
  have e2 : l.length - 1 - k = l.length - (k + 1) := by omega
  unfold turning
  rw [e1, List.replicate_succ', e2, List.append_assoc, List.set_append_right _ _ (by simp), List.length_replicate, Nat.sub_self, List.take_succ_eq_append_getElem h, List.reverse_append]
  rfl
theorem turning_put (s : ByteArray) (k j : Nat) (h : k < s.size) (hj : s.size - 1 - k = j) : (turning s.data.toList k).set j s[k] = turning s.data.toList (k + 1) := by
  have hl : s.data.toList.length = s.size := (Lib.size_eq s).symm
  have h' : k < s.data.toList.length := by rw [hl]; exact h
  have h2 := turning_set s.data.toList k h'
  rw [hl, hj] at h2
  exact h2
theorem turning_all (l : List UInt8) : turning l l.length = l.reverse := by
  unfold turning
  simp
theorem turning_none (l : List UInt8) : turning l 0 = List.replicate l.length 0 := by
  unfold turning
  simp

theorem BRow.of_own {w : World} {base g n cap : Nat} {l : List UInt8} (h : w.ownsRow base 5 1 (.slice (some ⟨g, 0, none⟩) n cap) n (byteCells l)) : BRow w g l := by
  rcases h.2 with ⟨h', _⟩ | ⟨g', cap', cur, h', _, hg, _, _, _, htake⟩
  · simp at h'
  · simp only [Value.slice.injEq, Option.some.injEq, Addr.mk.injEq, and_true, true_and] at h'
    obtain ⟨rfl, rfl⟩ := h'
    refine ⟨cur.toList.drop (n * 1), (0, 0), ?_, .inl rfl⟩
    rw [hg, ← htake, List.take_append_drop]

set_option maxHeartbeats 1600000 in
set_option maxRecDepth 100000 in
theorem reverse_any (s : ByteArray) (w : World) (hs : s.size ≤ 400) :
    Calls Try.prog 23 #[.string s] w fun e w' => e = .returned (.string ⟨(s.data.toList.reverse).toArray⟩) ∧ Below w.heap.size w w' := by
  obtain ⟨i5, hi5, hy0, hy1, hy2⟩ := info_parts Try.info5
  have hlen : s.data.toList.length = s.size := (Lib.size_eq s).symm
  have hz : ∀ n : Nat, (madeCells (Value.int .u8 0).cells (n * 1)).toList = byteCells (List.replicate n 0) := fun n => by
    simp only [madeCells, Value.cells, byteCells]
    apply List.ext_getElem
    · simp
    · intro j h1 h2
      simp [Nat.mod_one]
  go_enter Try.func23, Try.ntmps23
  go_wp2_with (at_make; refine wpList_make_full _ rfl _ _ 56 rfl w.heap.size 5 i5 (.int .u8 0) 1 Try.underlying56 hi5 hy0 hy1 _ _ _ _ s.size rfl rfl rfl rfl (by rw [hy2]; omega) (by unfold maxLen; omega) (Nat.le_refl _) ?_; intro W hown hgrow)
  have hrow : BRow W w.heap.size (turning s.data.toList 0) := by
    rw [turning_none, hlen]
    exact BRow.of_own (by rw [← hz]; exact hown)
  have hbel : Below w.heap.size w W := (Below.refl _ w).grown hgrow (Nat.le_refl _) (fun k hk => by simp at hk)
  clear hown hgrow hz hi5 hy0 hy1 hy2
  go_loopg [10] s.size (fun g v wx => ∃ k : Nat, v = .int .i64 k ∧ k + g = s.size ∧ BRow wx w.heap.size (turning s.data.toList k) ∧ Below w.heap.size w wx)
  case atStart => exact ⟨0, rfl, by omega, hrow, hbel⟩
  case round =>
    obtain ⟨k, rfl, hkg, hr, hbx⟩ := hrel
    by_cases hk : k < s.size
    · have hk1 : (k : Int) < (s.size : Int) := by omega
      have hk0 : (0 : Int) ≤ (k : Int) := by omega
      obtain ⟨j, hj⟩ : ∃ j : Nat, s.size - 1 - k = j := ⟨_, rfl⟩
      have hji : (s.size : Int) - 1 - (k : Int) = (j : Int) := by omega
      have hjn : (j : Int) < (s.size : Int) := by omega
      have hjl : j < (turning s.data.toList k).length := by rw [turning_len _ _ (by omega)]; omega
      have hcell := hr.cell j hjl
      have hfree := hr.free j hjl
      have hput := hr.put j s[k] hjl
      rw [turning_put s k j hk hj] at hput
      have HP := Lib.hid hput
      have HB := Lib.hid (hbx.setCell (p := ⟨w.heap.size, j, none⟩) (Nat.le_refl _) (.int .u8 (s[k].toNat : Int)))
      obtain ⟨u, hu⟩ : ∃ u, Value.int .u8 (((turning s.data.toList k)[j]'hjl).toNat : Int) = u := ⟨_, rfl⟩
      rw [hu] at hcell
      clear hput hr hrow hbel hbx hu hjl hj
      obtain ⟨g, rfl⟩ : ∃ g, gk = g + 1 := ⟨gk - 1, by omega⟩
      go_wp2
      go_roundg g
      case measure => omega
      case rel => exact ⟨k + 1, rfl, by omega, HP.out, HB.out⟩
    · have hk1 : ¬ (k : Int) < (s.size : Int) := by omega
      obtain rfl : k = s.size := by omega
      have hcv := hr.conv s.size
      rw [turning_len _ _ (by omega), hlen] at hcv
      have HV := Lib.hid (show turning s.data.toList s.size = s.data.toList.reverse by rw [← hlen]; exact turning_all _)
      rw [HV.out] at hcv
      clear hr hrow hbel
      go_wp2
      go_ret
      exact ⟨rfl, hbx⟩
end Go.Proofs.Ytneklmalkmeohaa
