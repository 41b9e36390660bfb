/- Between of both, Start of both. -/
import Derived.Test.YtcgabonoddloiaaDoorBetwR
import Derived.Test.YtcgabonoddloiaaDoorRefStart
namespace Go.Proofs.YtcgabonoddloiaaDoor
open Go.RowKit Clk

theorem between_any (a b : Int) (u : Nat) (w : World) (ha : isT a = true) (hb : isT b = true) (h : a ≤ b) (hu : u < 7) :
    Calls Tryd.prog 17 #[.int .i64 a, .int .i64 b, .int .i64 u] w fun e w' => e = .returned (.int .i64 (btw a b u)) ∧ Below w.heap.size w w' := by
  by_cases h5 : u < 5
  · exact between_sec a b u w ha hb h h5
  · exact between_mon a b u w ha hb h (by omega) hu
theorem btw_bd (a b : Int) (u : Nat) (ha : isT a = true) (hb : isT b = true) (h : a ≤ b) (hu : u < 7) : 0 ≤ btw a b u ∧ btw a b u ≤ 400000000000 := by
  obtain ⟨a1, a2⟩ := isT_iff.1 ha
  obtain ⟨b1, b2⟩ := isT_iff.1 hb
  unfold btw
  split
  · rename_i h5
    have hL := uLen_sec u h5
    have e1 : 0 ≤ (b - a) / uLen u := Int.ediv_nonneg (by omega) (by omega)
    have e2 : (b - a) / uLen u ≤ b - a := Int.ediv_le_self _ (by omega)
    omega
  · have h1 := down_le (fitsU a b u) (mDiff a b / uLen u).toNat
    have h2 := (mDiff_bd a b ha hb).1
    have h3 := mDiff_nonneg a b ha hb h
    have h4 : (mDiff a b / uLen u).toNat ≤ 200000 := by
      rcases uLen_mon u (by omega) with e | e <;> rw [e] <;> omega
    omega

/-- The whole units from a to b, whichever comes first. -/
def btwR (a b : Int) (u : Nat) : Int := if b < a then -(btw b a u) else btw a b u

set_option maxRecDepth 100000 in
set_option maxHeartbeats 800000 in
theorem Between_no (a b : Int) (s : ByteArray) (w : World) (h : isT a = false ∨ (isT a = true ∧ isT b = false)) :
    Calls Tryd.prog 8 #[.int .i64 a, .int .i64 b, .string s] w fun e w' => e = .returned (.tuple #[.int .i64 0, .int .i64 7]) ∧ Below w.heap.size w w' := by
  rcases h with h | ⟨h, h2⟩
  · go_enter Tryd.func8, Tryd.ntmps8
    go_wp2_with fail
    refine (isTime_any _ _).mono ?_
    rintro e w' ⟨rfl, rfl⟩
    rw [h]
    go_wp2
    go_ret2
    exact ⟨rfl, Below.refl _ _⟩
  · go_enter Tryd.func8, Tryd.ntmps8
    go_wp2_with fail
    refine (isTime_any _ _).mono ?_
    rintro e w' ⟨rfl, rfl⟩
    rw [h]
    go_wp2_with fail
    refine (isTime_any _ _).mono ?_
    rintro e w' ⟨rfl, rfl⟩
    rw [h2]
    go_wp2
    go_ret2
    exact ⟨rfl, Below.refl _ _⟩

set_option maxRecDepth 100000 in
set_option maxHeartbeats 800000 in
theorem Between_name (a b : Int) (s : ByteArray) (w : World) (ha : isT a = true) (hb : isT b = true) (h : UnitNo s) :
    Calls Tryd.prog 8 #[.int .i64 a, .int .i64 b, .string s] w fun e w' => e = .returned (.tuple #[.int .i64 0, .int .i64 5]) ∧ Below w.heap.size w w' := by
  go_enter Tryd.func8, Tryd.ntmps8
  go_wp2_with fail
  refine (isTime_any _ _).mono ?_
  rintro e w' ⟨rfl, rfl⟩
  rw [ha]
  go_wp2_with fail
  refine (isTime_any _ _).mono ?_
  rintro e w' ⟨rfl, rfl⟩
  rw [hb]
  go_wp2_with fail
  refine (unitOf_no s _ h).mono ?_
  rintro e w1 ⟨rfl, hb1⟩
  go_wp2
  go_ret2
  exact ⟨rfl, hb1⟩

set_option maxRecDepth 100000 in
set_option maxHeartbeats 800000 in
theorem Between_is (a b : Int) (s : ByteArray) (u : Nat) (w : World) (ha : isT a = true) (hb : isT b = true) (h : UnitIs s u) :
    Calls Tryd.prog 8 #[.int .i64 a, .int .i64 b, .string s] w fun e w' => e = .returned (.tuple #[.int .i64 (btwR a b u), .int .i64 0]) ∧ Below w.heap.size w w' := by
  have HTA := Lib.hid ha
  have HTB := Lib.hid hb
  have HU := Lib.hid (fun w => unitOf_is s u w h)
  by_cases hlt : b < a
  · have HV : Hid (btwR a b u = -(btw b a u)) := Lib.hid (by unfold btwR; rw [if_pos hlt])
    have hbd := btw_bd b a u hb ha (by omega) h.lt
    have HC := Lib.hid (fun w => between_any b a u w hb ha (by omega) h.lt)
    obtain ⟨v, hv⟩ : ∃ v, btw b a u = v := ⟨_, rfl⟩
    rw [hv] at hbd HC HV
    obtain ⟨v1, v2⟩ := hbd
    clear hv ha hb h
    go_enter Tryd.func8, Tryd.ntmps8
    go_wp2_with fail
    refine (isTime_any _ _).mono ?_
    rintro e w' ⟨rfl, rfl⟩
    rw [HTA.out]
    go_wp2_with fail
    refine (isTime_any _ _).mono ?_
    rintro e w' ⟨rfl, rfl⟩
    rw [HTB.out]
    go_wp2_with fail
    refine (HU.out _).mono ?_
    rintro e w1 ⟨rfl, hb1⟩
    go_wp2_with fail
    refine (HC.out _).mono ?_
    rintro e w2 ⟨rfl, hb2⟩
    go_wp2
    go_ret2
    exact ⟨by rw [HV.out]; rfl, hb1.trans (hb2.mono hb1.size)⟩
  · have HV : Hid (btwR a b u = btw a b u) := Lib.hid (by unfold btwR; rw [if_neg hlt])
    have HC := Lib.hid (fun w => between_any a b u w ha hb (by omega) h.lt)
    obtain ⟨v, hv⟩ : ∃ v, btw a b u = v := ⟨_, rfl⟩
    rw [hv] at HC HV
    clear hv ha hb h
    go_enter Tryd.func8, Tryd.ntmps8
    go_wp2_with fail
    refine (isTime_any _ _).mono ?_
    rintro e w' ⟨rfl, rfl⟩
    rw [HTA.out]
    go_wp2_with fail
    refine (isTime_any _ _).mono ?_
    rintro e w' ⟨rfl, rfl⟩
    rw [HTB.out]
    go_wp2_with fail
    refine (HU.out _).mono ?_
    rintro e w1 ⟨rfl, hb1⟩
    go_wp2_with fail
    refine (HC.out _).mono ?_
    rintro e w2 ⟨rfl, hb2⟩
    go_wp2
    go_ret2
    exact ⟨by rw [HV.out]; rfl, hb1.trans (hb2.mono hb1.size)⟩

end Go.Proofs.YtcgabonoddloiaaDoor
