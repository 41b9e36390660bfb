/- Lower, Upper and Reverse of the program: what they answer. -/
import Derived.Test.YtneklmalkmeohaaLetters
namespace Go.Proofs.Ytneklmalkmeohaa
open Go.RowKit Go.Lib

/-- The first k bytes changed, the others as they are. -/
def partly (f : UInt8 → UInt8) (l : List UInt8) (k : Nat) : List UInt8 := (l.take k).map f ++ l.drop k
theorem partly_len (f : UInt8 → UInt8) (l : List UInt8) (k : Nat) : (partly f l k).length = l.length := by
  unfold partly
  simp
  omega
theorem partly_at (f : UInt8 → UInt8) (l : List UInt8) (k : Nat) (h : k < l.length) : (partly f l k)[k]'(by rw [partly_len]; exact h) = l[k] := by
  have hk : ((l.take k).map f).length = k := by simp; omega
  unfold partly
  rw [List.getElem_append_right (by omega)]
  simp only [hk, Nat.sub_self, List.getElem_drop, Nat.add_zero]
theorem partly_set (f : UInt8 → UInt8) (l : List UInt8) (k : Nat) (h : k < l.length) : (partly f l k).set k (f l[k]) = partly f l (k + 1) := by
  have hk : ((l.take k).map f).length = k := by simp; omega
  unfold partly
  rw [List.set_append_right _ _ (by omega), hk, Nat.sub_self, List.drop_eq_getElem_cons h, List.set_cons_zero, List.take_succ_eq_append_getElem h, List.map_append, List.append_assoc]
  rfl
theorem partly_all (f : UInt8 → UInt8) (l : List UInt8) : partly f l l.length = l.map f := by
  unfold partly
  simp
theorem partly_none (f : UInt8 → UInt8) (l : List UInt8) : partly f l 0 = l := by
  unfold partly
  simp

/-- What '[]byte(s)' lays is a row of its bytes. -/
theorem bytes_row (w : World) (s : ByteArray) (c : Nat) : BRow (w.alloc (.cells (bytesRow s c) 5 ((bytesRow s c).size, (bytesRow s c).size + 1))).drew w.heap.size s.data.toList := by
  refine ⟨List.replicate (c - s.size) (.int .u8 0), ((bytesRow s c).size, (bytesRow s c).size + 1), ?_, .inr ?_⟩
  · refine (heap_alloc_new w _).trans ?_
    congr 2
    apply Array.toList_inj.1
    simp [bytesRow, byteCells]
  · simp [bytesRow]

theorem bytes_below (w : World) (o : Obj) : Below w.heap.size w (w.alloc o).drew := ((Below.refl _ w).alloc (Nat.le_refl _) _).drew

set_option maxHeartbeats 1600000 in
set_option maxRecDepth 100000 in
theorem each_small (s : ByteArray) (w : World) (hs : s.size ≤ 400) :
    Calls Try.prog 59 #[.string s, .func (Fn.func 60) #[] #[]] w fun e w' => e = .returned (.string ⟨(s.data.toList.map smallOf).toArray⟩) ∧ Below w.heap.size w w' := by
  have hconv := run_bytes_of_string w 9 56 5 s Try.underlying9 Try.underlying56 Try.underlying5
  have hlen : s.data.toList.length = s.size := (Lib.size_eq s).symm
  have hrow := bytes_row w s (grownCap w s.size 0 5)
  have hbel := bytes_below w (.cells (bytesRow s (grownCap w s.size 0 5)) 5 ((bytesRow s (grownCap w s.size 0 5)).size, (bytesRow s (grownCap w s.size 0 5)).size + 1))
  go_enter Try.func59, Try.ntmps59
  go_wp2
  clear hconv
  generalize (w.alloc (.cells (bytesRow s (grownCap w s.size 0 5)) 5 ((bytesRow s (grownCap w s.size 0 5)).size, (bytesRow s (grownCap w s.size 0 5)).size + 1))).drew = W at *
  generalize grownCap w s.size 0 5 = cap at *
  go_loopg [12] s.size (fun g v wx => ∃ k : Nat, v = .int .i64 k ∧ k + g = s.size ∧ BRow wx w.heap.size (partly smallOf s.data.toList k) ∧ Below w.heap.size w wx)
  case atStart => exact ⟨0, rfl, by omega, by rw [partly_none]; exact hrow, hbel⟩
  case round =>
    obtain ⟨k, rfl, hkg, hr, hbx⟩ := hrel
    by_cases hk : k < s.size
    · have hk1 : (k : Int) < (s.size : Int) := by omega
      have hk0 : (0 : Int) ≤ (k : Int) := by omega
      have hkl : k < s.data.toList.length := by omega
      have hkp : k < (partly smallOf s.data.toList k).length := by rw [partly_len]; exact hkl
      have hcell := hr.cell k hkp
      rw [partly_at _ _ _ hkl] at hcell
      have hfree := hr.free k hkp
      have hput := hr.put k (smallOf s.data.toList[k]) hkp
      rw [partly_set _ _ _ hkl] at hput
      obtain ⟨c, hc⟩ : ∃ c, s.data.toList[k] = c := ⟨_, rfl⟩
      rw [hc] at hcell hput
      have HP := Lib.hid hput
      have HB := Lib.hid (hbx.setCell (p := ⟨w.heap.size, k, none⟩) (Nat.le_refl _) (.int .u8 ((smallOf c).toNat : Int)))
      clear hc hput hr hrow hbel hbx
      obtain ⟨g, rfl⟩ : ∃ g, gk = g + 1 := ⟨gk - 1, by omega⟩
      go_wp2_with (go_at_call 60; refine (small_any c _).mono ?_; rintro e w' ⟨rfl, rfl⟩)
      go_roundg g
      case measure => omega
      case rel => exact ⟨k + 1, rfl, by omega, HP.out, HB.out⟩
    · have hk1 : ¬ (k : Int) < (s.size : Int) := by omega
      obtain rfl : k = s.size := by omega
      have hcv := hr.conv cap
      rw [partly_len, hlen] at hcv
      have HV := Lib.hid (show partly smallOf s.data.toList s.size = s.data.toList.map smallOf by rw [← hlen]; exact partly_all _ _)
      rw [HV.out] at hcv
      clear hr hrow hbel
      go_wp2
      go_ret
      exact ⟨rfl, hbx⟩

set_option maxHeartbeats 1600000 in
set_option maxRecDepth 100000 in
theorem each_great (s : ByteArray) (w : World) (hs : s.size ≤ 400) :
    Calls Try.prog 59 #[.string s, .func (Fn.func 62) #[] #[]] w fun e w' => e = .returned (.string ⟨(s.data.toList.map greatOf).toArray⟩) ∧ Below w.heap.size w w' := by
  have hconv := run_bytes_of_string w 9 56 5 s Try.underlying9 Try.underlying56 Try.underlying5
  have hlen : s.data.toList.length = s.size := (Lib.size_eq s).symm
  have hrow := bytes_row w s (grownCap w s.size 0 5)
  have hbel := bytes_below w (.cells (bytesRow s (grownCap w s.size 0 5)) 5 ((bytesRow s (grownCap w s.size 0 5)).size, (bytesRow s (grownCap w s.size 0 5)).size + 1))
  go_enter Try.func59, Try.ntmps59
  go_wp2
  clear hconv
  generalize (w.alloc (.cells (bytesRow s (grownCap w s.size 0 5)) 5 ((bytesRow s (grownCap w s.size 0 5)).size, (bytesRow s (grownCap w s.size 0 5)).size + 1))).drew = W at *
  generalize grownCap w s.size 0 5 = cap at *
  go_loopg [12] s.size (fun g v wx => ∃ k : Nat, v = .int .i64 k ∧ k + g = s.size ∧ BRow wx w.heap.size (partly greatOf s.data.toList k) ∧ Below w.heap.size w wx)
  case atStart => exact ⟨0, rfl, by omega, by rw [partly_none]; exact hrow, hbel⟩
  case round =>
    obtain ⟨k, rfl, hkg, hr, hbx⟩ := hrel
    by_cases hk : k < s.size
    · have hk1 : (k : Int) < (s.size : Int) := by omega
      have hk0 : (0 : Int) ≤ (k : Int) := by omega
      have hkl : k < s.data.toList.length := by omega
      have hkp : k < (partly greatOf s.data.toList k).length := by rw [partly_len]; exact hkl
      have hcell := hr.cell k hkp
      rw [partly_at _ _ _ hkl] at hcell
      have hfree := hr.free k hkp
      have hput := hr.put k (greatOf s.data.toList[k]) hkp
      rw [partly_set _ _ _ hkl] at hput
      obtain ⟨c, hc⟩ : ∃ c, s.data.toList[k] = c := ⟨_, rfl⟩
      rw [hc] at hcell hput
      have HP := Lib.hid hput
      have HB := Lib.hid (hbx.setCell (p := ⟨w.heap.size, k, none⟩) (Nat.le_refl _) (.int .u8 ((greatOf c).toNat : Int)))
      clear hc hput hr hrow hbel hbx
      obtain ⟨g, rfl⟩ : ∃ g, gk = g + 1 := ⟨gk - 1, by omega⟩
      go_wp2_with (go_at_call 62; refine (great_any c _).mono ?_; rintro e w' ⟨rfl, rfl⟩)
      go_roundg g
      case measure => omega
      case rel => exact ⟨k + 1, rfl, by omega, HP.out, HB.out⟩
    · have hk1 : ¬ (k : Int) < (s.size : Int) := by omega
      obtain rfl : k = s.size := by omega
      have hcv := hr.conv cap
      rw [partly_len, hlen] at hcv
      have HV := Lib.hid (show partly greatOf s.data.toList s.size = s.data.toList.map greatOf by rw [← hlen]; exact partly_all _ _)
      rw [HV.out] at hcv
      clear hr hrow hbel
      go_wp2
      go_ret
      exact ⟨rfl, hbx⟩

theorem lower_any (s : ByteArray) (w : World) (hs : s.size ≤ 400) :
    Calls Try.prog 25 #[.string s] w fun e w' => e = .returned (.string ⟨(s.data.toList.map smallOf).toArray⟩) ∧ Below w.heap.size w w' := by
  go_enter Try.func25, Try.ntmps25
  go_wp2_with fail
  refine (each_small s _ hs).mono ?_
  rintro e w' ⟨rfl, hb⟩
  go_wp2
  go_ret
  exact ⟨rfl, hb⟩

theorem upper_any (s : ByteArray) (w : World) (hs : s.size ≤ 400) :
    Calls Try.prog 27 #[.string s] w fun e w' => e = .returned (.string ⟨(s.data.toList.map greatOf).toArray⟩) ∧ Below w.heap.size w w' := by
  go_enter Try.func27, Try.ntmps27
  go_wp2_with fail
  refine (each_great s _ hs).mono ?_
  rintro e w' ⟨rfl, hb⟩
  go_wp2
  go_ret
  exact ⟨rfl, hb⟩

end Go.Proofs.Ytneklmalkmeohaa
