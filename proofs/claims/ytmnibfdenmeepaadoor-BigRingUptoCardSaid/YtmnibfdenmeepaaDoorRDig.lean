/- within, small, Digit of the reference of layer 1. -/
import Derived.Test.YtmnibfdenmeepaaDoorAwake
namespace Go.Proofs.YtmnibfdenmeepaaDoor
open Go.RowKit Go.Shelf Big

theorem within_any (n lo hi : Int) (w : World) (b : Bool) (hb : b = (decide (lo ≤ n) && decide (n ≤ hi))) :
    Calls Tryd.prog 143 #[.int .i64 n, .int .i64 lo, .int .i64 hi] w fun e w' => e = .returned (.bool b) ∧ w = w' := by
  by_cases h1 : lo ≤ n <;> by_cases h2 : n ≤ hi
  all_goals
    have H : Hid (b = (decide (lo ≤ n) && decide (n ≤ hi))) := Lib.hid hb
    clear hb
    go_enter Tryd.func143, Tryd.ntmps143
    go_wp2
    go_ret
    exact ⟨by rw [H.out]; simp [h1, h2], rfl⟩
def sml (n : Nat) : Nat := if 65 ≤ n ∧ n ≤ 90 then n + 32 else n
theorem refSmall_any (n : Nat) (hn : n < 256) (w : World) : Calls Tryd.prog 144 #[.int .u8 (n : Int)] w fun e w' => e = .returned (.int .u8 (sml n : Int)) ∧ w = w' := by
  have hw := Lib.hid (fun W => within_any (n : Int) 65 90 W _ rfl)
  by_cases h : 65 ≤ n ∧ n ≤ 90
  · have H := Lib.hid (show (sml n : Int) = (n : Int) + 32 by unfold sml; rw [if_pos h]; omega)
    have hT : (decide ((65 : Int) ≤ (n : Int)) && decide ((n : Int) ≤ 90)) = true := by simp; omega
    have HT := Lib.hid hT
    clear hT
    go_enter Tryd.func144, Tryd.ntmps144
    go_wp2_with (go_at_call 143; refine (hw.out _).mono ?_; rintro e w' ⟨rfl, rfl⟩; rw [HT.out])
    go_ret
    exact ⟨by rw [H.out]; rfl, rfl⟩
  · have H := Lib.hid (show (sml n : Int) = (n : Int) by unfold sml; rw [if_neg h])
    have hT : (decide ((65 : Int) ≤ (n : Int)) && decide ((n : Int) ≤ 90)) = false := by simp; omega
    have HT := Lib.hid hT
    clear hT h
    go_enter Tryd.func144, Tryd.ntmps144
    go_wp2_with (go_at_call 143; refine (hw.out _).mono ?_; rintro e w' ⟨rfl, rfl⟩; rw [HT.out])
    go_ret
    exact ⟨by rw [H.out]; rfl, rfl⟩
/-- What a digit of a base is worth; -1 for another byte. -/
def rdg (c : UInt8) (b : Nat) : Int := if dg c < b then (dg c : Int) else -1
set_option maxRecDepth 100000 in
set_option maxHeartbeats 1000000 in
theorem rdigit_any (c : UInt8) (b : Nat) (hb : b ≤ 36) (w : World) : Calls Tryd.prog 136 #[.int .u8 (c.toNat : Int), .int .i64 (b : Int)] w fun e w' => e = .returned (.int .i64 (rdg c b)) ∧ w = w' := by
  have hc := c.toNat_lt
  have HD : Hid (dg c = if 48 ≤ c.toNat ∧ c.toNat ≤ 57 then c.toNat - 48 else if 97 ≤ c.toNat ∧ c.toNat ≤ 122 then c.toNat - 87 else if 65 ≤ c.toNat ∧ c.toNat ≤ 90 then c.toNat - 55 else 99) := Lib.hid rfl
  have HR : Hid (rdg c b = if dg c < b then (dg c : Int) else -1) := Lib.hid rfl
  revert HD HR hc
  generalize rdg c b = R
  generalize dg c = r
  generalize c.toNat = n
  intro hc HD HR
  have hw1 := Lib.hid (fun W => within_any (n : Int) 48 57 W _ rfl)
  have hw2 := Lib.hid (fun W => within_any (sml n : Int) 97 122 W _ rfl)
  have hsm := Lib.hid (fun W => refSmall_any n hc W)
  by_cases h1 : 48 ≤ n ∧ n ≤ 57
  · have hr : r = n - 48 := by rw [HD.out, if_pos h1]
    have HT1 := Lib.hid (show (decide ((48 : Int) ≤ (n : Int)) && decide ((n : Int) ≤ 57)) = true by simp; omega)
    obtain ⟨h1a, h1b⟩ := h1
    by_cases h2 : r < b
    · have H := Lib.hid (show R = (n : Int) - 48 by rw [HR.out, if_pos h2]; omega)
      have g : (n : Int) - 48 < (b : Int) := by omega
      clear hr h2
      go_enter Tryd.func136, Tryd.ntmps136
      go_wp2_with (go_at_call 143; refine (hw1.out _).mono ?_; rintro e w' ⟨rfl, rfl⟩; rw [HT1.out])
      go_ret
      exact ⟨by rw [H.out]; rfl, rfl⟩
    · have H := Lib.hid (show R = -1 by rw [HR.out, if_neg h2])
      have g : (b : Int) ≤ (n : Int) - 48 := by omega
      clear hr h2
      go_enter Tryd.func136, Tryd.ntmps136
      go_wp2_with (go_at_call 143; refine (hw1.out _).mono ?_; rintro e w' ⟨rfl, rfl⟩; rw [HT1.out])
      go_ret
      exact ⟨by rw [H.out]; rfl, rfl⟩
  · have HT1 := Lib.hid (show (decide ((48 : Int) ≤ (n : Int)) && decide ((n : Int) ≤ 57)) = false by simp; omega)
    by_cases h2 : 97 ≤ sml n ∧ sml n ≤ 122
    · have hr : r = sml n - 87 := by
        rw [HD.out, if_neg h1]
        unfold sml at h2 ⊢
        split at h2
        · rename_i h3
          rw [if_neg (by omega), if_pos h3, if_pos h3]; omega
        · rename_i h3
          rw [if_pos h2, if_neg h3]
      have hs : sml n < 256 := by omega
      have HT2 := Lib.hid (show (decide ((97 : Int) ≤ (sml n : Int)) && decide ((sml n : Int) ≤ 122)) = true by simp; omega)
      obtain ⟨h2a, h2b⟩ := h2
      revert hr hw2 hsm HT2 h2a h2b hs
      generalize sml n = m
      intro hw2 hsm hr hs HT2 h2a h2b
      by_cases h3 : r < b
      · have H := Lib.hid (show R = (m : Int) - 97 + 10 by rw [HR.out, if_pos h3]; omega)
        have g : (m : Int) - 97 + 10 < (b : Int) := by omega
        clear hr h3 h1
        go_enter Tryd.func136, Tryd.ntmps136
        go_wp2_with (first | (go_at_call 144; refine (hsm.out _).mono ?_; rintro e w' ⟨rfl, rfl⟩) | (go_at_call 143; refine (within_any _ _ _ _ _ rfl).mono ?_; rintro e w' ⟨rfl, rfl⟩; first | rw [HT1.out] | rw [HT2.out]))
        go_ret
        exact ⟨by rw [H.out]; rfl, rfl⟩
      · have H := Lib.hid (show R = -1 by rw [HR.out, if_neg h3])
        have g : (b : Int) ≤ (m : Int) - 97 + 10 := by omega
        clear hr h3 h1
        go_enter Tryd.func136, Tryd.ntmps136
        go_wp2_with (first | (go_at_call 144; refine (hsm.out _).mono ?_; rintro e w' ⟨rfl, rfl⟩) | (go_at_call 143; refine (within_any _ _ _ _ _ rfl).mono ?_; rintro e w' ⟨rfl, rfl⟩; first | rw [HT1.out] | rw [HT2.out]))
        go_ret
        exact ⟨by rw [H.out]; rfl, rfl⟩
    · have H := Lib.hid (show R = -1 by
        have hr : r = 99 := by
          rw [HD.out, if_neg h1]
          unfold sml at h2
          split at h2
          · omega
          · rename_i h3
            rw [if_neg h2, if_neg h3]
        rw [HR.out, if_neg (by omega)])
      have HT2 := Lib.hid (show (decide ((97 : Int) ≤ (sml n : Int)) && decide ((sml n : Int) ≤ 122)) = false by simp; omega)
      have g : ¬ (b : Int) ≤ -1 := by omega
      have g2 : (-1 : Int) < (b : Int) := by omega
      have g3 : decide ((b : Int) ≤ -1) = false := by rw [decide_eq_false_iff_not]; exact g
      have hs : sml n < 256 := by unfold sml; split <;> omega
      clear h1 h2
      revert hsm HT2 hw2 hs
      generalize sml n = m
      intro hw2 hsm HT2 hs
      go_enter Tryd.func136, Tryd.ntmps136
      go_wp2_with (first | (go_at_call 144; refine (hsm.out _).mono ?_; rintro e w' ⟨rfl, rfl⟩) | (go_at_call 143; refine (within_any _ _ _ _ _ rfl).mono ?_; rintro e w' ⟨rfl, rfl⟩; first | rw [HT1.out] | rw [HT2.out]))
      go_ret
      exact ⟨by rw [H.out]; rfl, rfl⟩
theorem rDigit_any (c : UInt8) (b : Nat) (hb : b ≤ 36) (w : World) : Calls Tryd.prog 122 #[.int .u8 (c.toNat : Int), .int .i64 (b : Int)] w fun e w' => e = .returned (.int .i64 (rdg c b)) ∧ w = w' := by
  have h := Lib.hid (fun W => rdigit_any c b hb W)
  go_enter Tryd.func122, Tryd.ntmps122
  go_wp2_with (go_at_call 136; refine (h.out _).mono ?_; rintro e w' ⟨rfl, rfl⟩)
  go_ret
  exact ⟨rfl, rfl⟩
end Go.Proofs.YtmnibfdenmeepaaDoor
