/- unitOf, length, add of the program. -/
import Derived.Test.YtcgabonoddloiaaDoorDates5
import Derived.Test.YtcgabonoddloiaaDoorCalUnit
namespace Go.Proofs.YtcgabonoddloiaaDoor
open Go.RowKit Clk

/-- The names of the units. -/
def uNames : List ByteArray := [⟨#[115, 101, 99, 111, 110, 100]⟩, ⟨#[109, 105, 110, 117, 116, 101]⟩, ⟨#[104, 111, 117, 114]⟩, ⟨#[100, 97, 121]⟩, ⟨#[119, 101, 101, 107]⟩, ⟨#[109, 111, 110, 116, 104]⟩, ⟨#[121, 101, 97, 114]⟩]
def uLen : Nat → Int
  | 0 => 1
  | 1 => 60
  | 2 => 3600
  | 3 => 86400
  | 4 => 604800
  | 5 => 1
  | _ => 12

def uName (k : Nat) : ByteArray := uNames.getD k ⟨#[]⟩
theorem idx_u (k : Nat) (hk : k < 7) (w : World) : (Instr.index 63 (.agg #[.string ⟨#[115, 101, 99, 111, 110, 100]⟩, .string ⟨#[109, 105, 110, 117, 116, 101]⟩, .string ⟨#[104, 111, 117, 114]⟩, .string ⟨#[100, 97, 121]⟩, .string ⟨#[119, 101, 101, 107]⟩, .string ⟨#[109, 111, 110, 116, 104]⟩, .string ⟨#[121, 101, 97, 114]⟩]) (.int .i64 k)).run Tryd.prog w = .ok (.string (uName k)) w := by
  have hu : k = 0 ∨ k = 1 ∨ k = 2 ∨ k = 3 ∨ k = 4 ∨ k = 5 ∨ k = 6 := by omega
  rcases hu with rfl | rfl | rfl | rfl | rfl | rfl | rfl
  all_goals (show _ = _; kernel_rfl)

/-- The unit is the u-th name. -/
structure UnitIs (s : ByteArray) (u : Nat) : Prop where
  lt : u < 7
  is : ((uName u).toList == s.toList) = true
  first : ∀ k, k < u → ((uName k).toList == s.toList) = false
structure UnitNo (s : ByteArray) : Prop where
  no : ∀ k, k < 7 → ((uName k).toList == s.toList) = false

theorem unit_cases (s : ByteArray) : UnitNo s ∨ ∃ u, UnitIs s u := by
  have h : ∀ n, n ≤ 7 → (∀ k, k < n → ((uName k).toList == s.toList) = false) ∨ ∃ u, UnitIs s u := by
    intro n
    induction n with
    | zero => intro _; exact .inl fun k hk => absurd hk (Nat.not_lt_zero _)
    | succ n ih =>
      intro hn
      rcases ih (by omega) with h | h
      · cases hb : (uName n).toList == s.toList with
        | true => exact .inr ⟨n, by omega, hb, h⟩
        | false =>
          refine .inl fun k hk => ?_
          by_cases e : k = n
          · subst e; exact hb
          · exact h k (by omega)
      · exact .inr h
  rcases h 7 (by omega) with h | h
  · exact .inl ⟨h⟩
  · exact .inr h

set_option maxRecDepth 100000 in
set_option maxHeartbeats 800000 in
theorem unitOf_no (s : ByteArray) (w : World) (h : UnitNo s) :
    Calls Tryd.prog 15 #[.string s] w fun e w' => e = .returned (.tuple #[.int .i64 0, .bool false]) ∧ Below w.heap.size w w' := by
  go_enter Tryd.func15, Tryd.ntmps15
  go_wp2_with fail
  go_loop [9] (fun v9 => ∃ k : Nat, k ≤ 7 ∧ v9 = .int .i64 k) (fun v9 => (7 - intOf v9).toNat)
  case atStart => exact ⟨0, by omega, rfl⟩
  case round =>
    obtain ⟨k, hk, rfl⟩ := hrel
    by_cases hlt : k < 7
    · have hix := idx_u k hlt
      have hne := h.no k hlt
      obtain ⟨x, hx⟩ : ∃ x, uName k = x := ⟨_, rfl⟩
      rw [hx] at hix hne
      clear hx
      go_wp2
      go_round
      case rel => exact ⟨k + 1, by omega, by go_num⟩
      case measure => simp [intOf]; omega
    · go_wp2
      go_ret2
      exact ⟨rfl, (Below.refl _ _).alloc (Nat.le_refl _) _⟩

set_option maxRecDepth 100000 in
set_option maxHeartbeats 800000 in
theorem unitOf_is (s : ByteArray) (u : Nat) (w : World) (h : UnitIs s u) :
    Calls Tryd.prog 15 #[.string s] w fun e w' => e = .returned (.tuple #[.int .i64 u, .bool true]) ∧ Below w.heap.size w w' := by
  have hu := h.lt
  go_enter Tryd.func15, Tryd.ntmps15
  go_wp2_with fail
  go_loop [9] (fun v9 => ∃ k : Nat, k ≤ u ∧ v9 = .int .i64 k) (fun v9 => (7 - intOf v9).toNat)
  case atStart => exact ⟨0, by omega, rfl⟩
  case round =>
    obtain ⟨k, hk, rfl⟩ := hrel
    have hix := idx_u k (by omega)
    by_cases hlt : k < u
    · have hne := h.first k hlt
      obtain ⟨x, hx⟩ : ∃ x, uName k = x := ⟨_, rfl⟩
      rw [hx] at hix hne
      clear hx
      go_wp2
      go_round
      case rel => exact ⟨k + 1, by omega, by go_num⟩
      case measure => simp [intOf]; omega
    · obtain rfl : k = u := by omega
      have hne := h.is
      obtain ⟨x, hx⟩ : ∃ x, uName k = x := ⟨_, rfl⟩
      rw [hx] at hix hne
      clear hx
      go_wp2
      go_ret2
      exact ⟨rfl, (Below.refl _ _).alloc (Nat.le_refl _) _⟩

theorem idx_len (k : Nat) (hk : k < 7) (w : World) : (Instr.index 69 (.agg #[.int .i64 1, .int .i64 60, .int .i64 3600, .int .i64 86400, .int .i64 604800, .int .i64 1, .int .i64 12]) (.int .i64 k)).run Tryd.prog w = .ok (.int .i64 (uLen k)) w := by
  have hu : k = 0 ∨ k = 1 ∨ k = 2 ∨ k = 3 ∨ k = 4 ∨ k = 5 ∨ k = 6 := by omega
  rcases hu with rfl | rfl | rfl | rfl | rfl | rfl | rfl
  all_goals (show _ = _; kernel_rfl)

set_option maxRecDepth 100000 in
set_option maxHeartbeats 800000 in
theorem length_any (u : Nat) (w : World) (h : u < 7) :
    Calls Tryd.prog 29 #[.int .i64 u] w fun e w' => e = .returned (.int .i64 (uLen u)) ∧ w = w' := by
  have hix := idx_len u h
  obtain ⟨x, hx⟩ : ∃ x, uLen u = x := ⟨_, rfl⟩
  rw [hx] at hix ⊢
  clear hx
  go_enter Tryd.func29, Tryd.ntmps29
  go_wp2
  go_ret
  exact ⟨rfl, rfl⟩
end Go.Proofs.YtcgabonoddloiaaDoor
