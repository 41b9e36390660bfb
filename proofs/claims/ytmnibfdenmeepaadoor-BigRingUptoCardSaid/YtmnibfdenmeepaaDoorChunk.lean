/- The greatest power of a base in a word. -/
import Derived.Test.YtmnibfdenmeepaaDoorByWord
namespace Go.Proofs.YtmnibfdenmeepaaDoor
open Go.RowKit Go.Shelf Big

def ChunkIs (b : Nat) (e : Ending) : Prop := ∃ k m : Nat, 1 ≤ k ∧ k ≤ 32 ∧ m < 4294967296 ∧ b ^ k = m ∧ e = .returned (.tuple #[.int .u32 (m : Int), .int .i64 (k : Int)])
theorem pow_two_le (b k : Nat) (hb : 2 ≤ b) : 2 ^ k ≤ b ^ k := Nat.pow_le_pow_left hb k
set_option maxHeartbeats 800000 in
theorem chunk_any (b : Nat) (w : World) (hb : 2 ≤ b) (hb2 : b ≤ 36) :
    Calls Tryd.prog 117 #[.int .i64 (b : Int)] w fun e w' => ChunkIs b e ∧ w = w' := by
  go_enter Tryd.func117, Tryd.ntmps117
  go_wp2
  go_loopg [4, 5] 4294967296 (fun g v4 v5 wx => w = wx ∧ ∃ k s : Nat, v4 = .int .u64 (s : Int) ∧ v5 = .int .i64 (k : Int) ∧ s = b ^ k ∧ s < 4294967296 ∧ 4294967297 ≤ s + g ∧ (k = 0 → s = 1))
  case atStart => exact ⟨rfl, 0, 1, rfl, rfl, rfl, by omega, by omega, fun _ => rfl⟩
  case round =>
    obtain ⟨rfl, k, s, rfl, rfl, hs, hlt, hg, h0⟩ := hrel
    have hk : k ≤ 32 := by
      rcases Nat.lt_or_ge 32 k with h | h
      · have h1 := pow_two_le b k hb
        have h2 : 2 ^ 33 ≤ 2 ^ k := Nat.pow_le_pow_right (by omega) h
        omega
      · exact h
    have hmulI : (s : Int) * (b : Int) = ((s * b : Nat) : Int) := (Int.natCast_mul _ _).symm
    have hpow : b ^ (k + 1) = s * b := by rw [Nat.pow_succ, hs]
    have hge : s * 2 ≤ s * b := Nat.mul_le_mul_left _ hb
    have hle : s * b ≤ s * 36 := Nat.mul_le_mul_left _ hb2
    have hpos : 0 < s := by rw [hs]; exact Nat.pow_pos (by omega)
    obtain ⟨m, hm⟩ : ∃ m, s * b = m := ⟨_, rfl⟩
    rw [hm] at hmulI hpow hge hle
    have Hs := Lib.hid hs
    have Hp := Lib.hid hpow
    have H0 := Lib.hid h0
    clear hs hpow h0 hm
    by_cases hc : m < 4294967296
    · have hci : (m : Int) < 4294967296 := by omega
      obtain ⟨g, rfl⟩ : ∃ g, gk = g + 1 := ⟨gk - 1, by omega⟩
      go_wp2
      go_roundg g
      case measure => omega
      case rel => exact ⟨rfl, k + 1, m, rfl, rfl, Hp.out.symm, hc, by omega, fun h => by omega⟩
    · have hci : ¬ (m : Int) < 4294967296 := by omega
      have hk1 : 1 ≤ k := by
        rcases Nat.eq_zero_or_pos k with h | h
        · have := H0.out h
          omega
        · exact h
      go_wp2
      go_ret2
      exact ⟨⟨k, s, hk1, hk, hlt, Hs.out.symm, rfl⟩, rfl⟩
end Go.Proofs.YtmnibfdenmeepaaDoor
