/- Place at the example of the document. -/
import Derived.Test.YtneklmalkmeohaaShelf
import Derived.Test.YtneklmalkmeohaaRows
import Derived.WalkKit
import Derived.WalkSpells
import Derived.WalkLawsBesides
import Derived.BigQuiet
import Derived.Deep.QuietTactic
import Derived.Lib.Hide
namespace Go.Proofs.Ytneklmalkmeohaa
open Go.RowKit

set_option maxHeartbeats 400000 in
theorem small_at49 (w : World) :
    Calls Try.prog 60 #[.int .u8 49] w fun e w' => e = .returned (.int .u8 49) ∧ w = w' := by
  go_enter Try.func60, Try.ntmps60
  go_wp2
  go_ret
  exact ⟨rfl, rfl⟩

set_option maxHeartbeats 400000 in
theorem digit_at49 (w : World) :
    Calls Try.prog 87 #[.int .u8 49] w fun e w' => e = .returned (.int .i64 1) ∧ w = w' := by
  go_enter Try.func87, Try.ntmps87
  go_wp2_with (go_at_call 60; refine (small_at49 _).mono ?_; rintro e w' ⟨rfl, rfl⟩)
  go_ret
  exact ⟨rfl, rfl⟩

set_option maxHeartbeats 400000 in
theorem digits_at1 (w : World) :
    Calls Try.prog 56 #[.string ⟨#[49]⟩, .int .i64 10, .int .i64 9] w fun e w' => e = .returned (.int .i64 1) ∧ w = w' := by
  go_enter Try.func56, Try.ntmps56
  go_wp2
  refine wp_loop_rounds 3 ?_
  rw [rounds_succ]
  go_wp2_with (go_at_call 87; refine (digit_at49 _).mono ?_; rintro e w' ⟨rfl, rfl⟩)
  rw [rounds_succ]
  go_wp2
  go_ret
  exact ⟨rfl, rfl⟩

set_option maxHeartbeats 400000 in
theorem natural_at1 (w : World) :
    Calls Try.prog 57 #[.string ⟨#[49]⟩, .int .i64 10] w fun e w' => e = .returned (.int .i64 1) ∧ w = w' := by
  go_enter Try.func57, Try.ntmps57
  go_wp2
  refine wp_loop_rounds 3 ?_
  rw [rounds_succ]
  go_wp2_with (go_at_call 87; refine (digit_at49 _).mono ?_; rintro e w' ⟨rfl, rfl⟩)
  rw [rounds_succ]
  go_wp2
  go_ret
  exact ⟨rfl, rfl⟩

theorem cut_at (w : World) :
    Calls Try.prog 79 #[.string ⟨#[101, 110, 100, 45, 49]⟩, .string ⟨#[101, 110, 100]⟩] w fun e w' => e = .returned (.tuple #[.string ⟨#[45, 49]⟩, .bool true]) ∧ w = w' :=
  (Try.strings_CutPrefix _ _ w).mono fun e w' ⟨he, hw⟩ => ⟨by rw [he]; rfl, hw.symm⟩

set_option maxHeartbeats 400000 in
theorem place_at (w : World) :
    Calls Try.prog 47 #[.string ⟨#[101, 110, 100, 45, 49]⟩, .int .i64 5] w fun e w' => e = .returned (.tuple #[.int .i64 3, .int .i64 0]) ∧ w = w' := by
  go_enter Try.func47, Try.ntmps47
  go_wp2_with (first | (go_at_call 79; refine (cut_at _).mono ?_; rintro e w' ⟨rfl, rfl⟩) | (go_at_call 56; refine (digits_at1 _).mono ?_; rintro e w' ⟨rfl, rfl⟩) | (go_at_call 57; refine (natural_at1 _).mono ?_; rintro e w' ⟨rfl, rfl⟩))
  go_ret2
  exact ⟨rfl, rfl⟩
end Go.Proofs.Ytneklmalkmeohaa
