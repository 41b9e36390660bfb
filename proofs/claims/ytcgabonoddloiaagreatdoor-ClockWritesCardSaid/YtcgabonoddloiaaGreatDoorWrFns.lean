/- The functions of a time that the letters hold. -/
import Derived.Test.YtcgabonoddloiaaGreatDoorWrNum
namespace Go.Proofs.YtcgabonoddloiaaGreatDoor.Wr
open Go.RowKit Clk

/-- Block k is no map. -/
def NM (w : World) (k : Nat) : Prop := ∀ es ck, w.heap[k]? ≠ some (.map es ck)
theorem NM.of_cell {w : World} {k o : Nat} {v : Value} (h : w.cell? ⟨k, o, none⟩ = some v) : NM w k := fun es ck e => by simp [World.cell?, e] at h
theorem NM.to {w w' : World} {k : Nat} (n : NM w k) (e : w'.heap[k]? = w.heap[k]?) : NM w' k := fun es ck h => n es ck (e.symm.trans h)

/-- A function of a time that answers so, while the blocks from lo up to hi stay that are no maps. -/
def FnIs (lo hi : Nat) (w : World) (g : FuncId) (cap : Array Value) (f : Int → Int) : Prop :=
  ∀ w', (∀ k, lo ≤ k → k < hi → NM w k → w'.heap[k]? = w.heap[k]?) → hi ≤ w'.heap.size → ∀ t, isT t = true → Calls Tryz.prog g (#[.int .i64 t] ++ cap) w' fun e w'' => e = .returned (.int .i64 (f t)) ∧ Below w'.heap.size w' w''
/-- One without memory. -/
def FnOf (g : FuncId) (f : Int → Int) : Prop := ∀ w t, isT t = true → Calls Tryz.prog g #[.int .i64 t] w fun e w' => e = .returned (.int .i64 (f t)) ∧ Below w.heap.size w w'
theorem FnOf.is {g : FuncId} {f : Int → Int} (h : FnOf g f) (lo hi : Nat) (w : World) : FnIs lo hi w g #[] f := fun w' _ _ t ht => by simpa using h w' t ht

theorem fn_wd : FnOf 78 (fun t => (t / 86400 + 3) % 7 + 1) := fun w t ht => by
  obtain ⟨t1, t2⟩ := isT_iff.1 ht
  go_enter Tryz.func78, Tryz.ntmps78
  go_wp2_with (first | (go_at_call 48; refine (floor_any _ _ _ (by omega) (by omega) (by omega) (by omega)).mono ?_; rintro e w' ⟨rfl, rfl⟩) | (go_at_call 47; refine (weekday_any _ _ (by omega) (by omega)).mono ?_; rintro e w' ⟨rfl, rfl⟩))
  go_ret
  exact ⟨rfl, Below.refl _ _⟩
theorem fn_j : FnOf 91 (fun t => yday (t / 86400)) := fun w t ht => by
  obtain ⟨t1, t2⟩ := isT_iff.1 ht
  go_enter Tryz.func91, Tryz.ntmps91
  go_wp2_with (first | (go_at_call 48; refine (floor_any _ _ _ (by omega) (by omega) (by omega) (by omega)).mono ?_; rintro e w' ⟨rfl, rfl⟩) | (go_at_call 50; refine (yearday_any _ _ (by omega) (by omega)).mono ?_; rintro e w' ⟨rfl, rfl⟩))
  go_ret
  exact ⟨rfl, Below.refl _ _⟩
theorem fn_G : FnOf 92 (fun t => wkY (t / 86400)) := fun w t ht => by
  obtain ⟨t1, t2⟩ := isT_iff.1 ht
  go_enter Tryz.func92, Tryz.ntmps92
  go_wp2_with (first | (go_at_call 48; refine (floor_any _ _ _ (by omega) (by omega) (by omega) (by omega)).mono ?_; rintro e w' ⟨rfl, rfl⟩) | (go_at_call 52; refine (week_any _ _ (by omega) (by omega)).mono ?_; rintro e w' ⟨rfl, rfl⟩))
  go_ret
  exact ⟨rfl, Below.refl _ _⟩
theorem fn_V : FnOf 93 (fun t => wkN (t / 86400)) := fun w t ht => by
  obtain ⟨t1, t2⟩ := isT_iff.1 ht
  go_enter Tryz.func93, Tryz.ntmps93
  go_wp2_with (first | (go_at_call 48; refine (floor_any _ _ _ (by omega) (by omega) (by omega) (by omega)).mono ?_; rintro e w' ⟨rfl, rfl⟩) | (go_at_call 52; refine (week_any _ _ (by omega) (by omega)).mono ?_; rintro e w' ⟨rfl, rfl⟩))
  go_ret
  exact ⟨rfl, Below.refl _ _⟩

/-- The parts of a time's date. -/
theorem at_parts (t : Int) (ht : isT t = true) : ∃ Y M D h i s, AtIs t Y M D h i s ∧ (1 ≤ Y ∧ Y ≤ 9999) ∧ (1 ≤ M ∧ M ≤ 12) ∧ (1 ≤ D ∧ D ≤ 31) ∧ (0 ≤ h ∧ h ≤ 23) ∧ (0 ≤ i ∧ i ≤ 59) ∧ 0 ≤ s ∧ s ≤ 59 := by
  obtain ⟨Y, M, D, h, i, s, A⟩ := atIs t
  obtain ⟨hv, _⟩ := at_valid t Y M D h i s ht A
  obtain ⟨a1, a2, a3, a4, a5, a6, a7, a8, a9, b1, b2, b3⟩ := vB_iff.1 hv
  have := (dim_bd Y M).2
  exact ⟨Y, M, D, h, i, s, A, ⟨a1, a2⟩, ⟨a3, a4⟩, ⟨a5, by omega⟩, ⟨a7, a8⟩, ⟨a9, b1⟩, b2, b3⟩

theorem field_of (k : Nat) (x : Value) (Y M D h i s : Int) (hx : (#[Value.int .i64 Y, .int .i64 M, .int .i64 D, .int .i64 h, .int .i64 i, .int .i64 s])[k]? = some x) (w : World) :
    (Instr.field 23 (.agg #[.int .i64 Y, .int .i64 M, .int .i64 D, .int .i64 h, .int .i64 i, .int .i64 s]) k).run Tryz.prog w = .ok x w := by
  match k, hx with
  | 0, hx => cases hx; show _ = _; kernel_rfl
  | 1, hx => cases hx; show _ = _; kernel_rfl
  | 2, hx => cases hx; show _ = _; kernel_rfl
  | 3, hx => cases hx; show _ = _; kernel_rfl
  | 4, hx => cases hx; show _ = _; kernel_rfl
  | 5, hx => cases hx; show _ = _; kernel_rfl
  | n + 6, hx => simp at hx

theorem fn_mon : FnOf 79 (fun t => cMonth (t / 86400) - 1) := fun w t ht => by
  obtain ⟨t1, t2⟩ := isT_iff.1 ht
  obtain ⟨Y, M, D, h, i, s, A, -, ⟨m1, m2⟩, -⟩ := at_parts t ht
  have HM := Lib.hid A.m
  have hfl := field_of 1 _ Y M D h i s rfl
  have HA := Lib.hid A
  clear A
  go_enter Tryz.func79, Tryz.ntmps79
  go_wp2_with fail
  refine (at_any t Y M D h i s _ HA.out (by omega) (by omega)).mono ?_
  rintro e w1 ⟨rfl, hb1⟩
  go_wp2
  go_ret
  exact ⟨by rw [HM.out]; rfl, hb1⟩
theorem fn_half : FnOf 98 (fun t => t % 86400 / 3600 / 12) := fun w t ht => by
  obtain ⟨t1, t2⟩ := isT_iff.1 ht
  obtain ⟨Y, M, D, h, i, s, A, -, -, -, ⟨h1, h2⟩, -⟩ := at_parts t ht
  have HM := Lib.hid A.h
  have hfl := field_of 3 _ Y M D h i s rfl
  have HA := Lib.hid A
  clear A
  go_enter Tryz.func98, Tryz.ntmps98
  go_wp2_with fail
  refine (at_any t Y M D h i s _ HA.out (by omega) (by omega)).mono ?_
  rintro e w1 ⟨rfl, hb1⟩
  go_wp2
  go_ret
  exact ⟨by rw [HM.out]; rfl, hb1⟩

/-- The weekday less one, by the captured function. -/
theorem fn_wd1 (b lo hi : Nat) (w : World) (hb : w.cell? ⟨b, 0, none⟩ = some (.func (.func 78) #[] #[])) (h1 : lo ≤ b) (h2 : b < hi) : FnIs lo hi w 99 #[.pointer (some ⟨b, 0, none⟩)] (fun t => (t / 86400 + 3) % 7) := fun w' hk hs t ht => by
  have hc : w'.cell? ⟨b, 0, none⟩ = some (.func (.func 78) #[] #[]) := (World.cell?_of_block (w := w) (hk b h1 h2 (NM.of_cell hb))).trans hb
  show Calls Tryz.prog 99 #[.int .i64 t, .pointer (some ⟨b, 0, none⟩)] w' _
  have hm : 0 ≤ (t / 86400 + 3) % 7 ∧ (t / 86400 + 3) % 7 ≤ 6 := by omega
  have HW := Lib.hid (fun w => fn_wd w t ht)
  obtain ⟨d, hd⟩ : ∃ d, (t / 86400 + 3) % 7 = d := ⟨_, rfl⟩
  simp only [hd] at hm HW ⊢
  obtain ⟨m1, m2⟩ := hm
  clear hd hb hk
  go_enter Tryz.func99, Tryz.ntmps99
  go_wp2_with fail
  refine (HW.out _).mono ?_
  rintro e w1 ⟨rfl, hb1⟩
  go_wp2
  go_ret
  exact ⟨ret_int (by omega), hb1⟩
theorem fn_wd2 (b lo hi : Nat) (w : World) (hb : w.cell? ⟨b, 0, none⟩ = some (.func (.func 78) #[] #[])) (h1 : lo ≤ b) (h2 : b < hi) : FnIs lo hi w 100 #[.pointer (some ⟨b, 0, none⟩)] (fun t => (t / 86400 + 3) % 7) := fun w' hk hs t ht => by
  have hc : w'.cell? ⟨b, 0, none⟩ = some (.func (.func 78) #[] #[]) := (World.cell?_of_block (w := w) (hk b h1 h2 (NM.of_cell hb))).trans hb
  show Calls Tryz.prog 100 #[.int .i64 t, .pointer (some ⟨b, 0, none⟩)] w' _
  have hm : 0 ≤ (t / 86400 + 3) % 7 ∧ (t / 86400 + 3) % 7 ≤ 6 := by omega
  have HW := Lib.hid (fun w => fn_wd w t ht)
  obtain ⟨d, hd⟩ : ∃ d, (t / 86400 + 3) % 7 = d := ⟨_, rfl⟩
  simp only [hd] at hm HW ⊢
  obtain ⟨m1, m2⟩ := hm
  clear hd hb hk
  go_enter Tryz.func100, Tryz.ntmps100
  go_wp2_with fail
  refine (HW.out _).mono ?_
  rintro e w1 ⟨rfl, hb1⟩
  go_wp2
  go_ret
  exact ⟨ret_int (by omega), hb1⟩
end Go.Proofs.YtcgabonoddloiaaGreatDoor.Wr
