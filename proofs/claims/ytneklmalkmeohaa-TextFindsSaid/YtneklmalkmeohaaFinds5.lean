/- The walk of the law TextFinds. -/
import Derived.Test.YtneklmalkmeohaaLong
import Derived.Test.YtneklmalkmeohaaFinds4
import Derived.Deep.RegionHeld3
namespace Go.Proofs.Ytneklmalkmeohaa
open Go.RowKit Go.Lib

set_option maxRecDepth 100000 in
set_option maxHeartbeats 3200000 in
theorem finds_any (a b : ByteArray) (x y m : Int) (w : World) (hm : w.cell? ⟨0, 0, none⟩ = some (.int .i64 m)) :
    Calls Try.prog 3 #[.string a, .string b, .agg #[.int .i64 x, .int .i64 y]] w fun e w' => e = .returned (.bool true) ∧ Below w.heap.size w w' := by
  have l0 := World.block_lt_of_cell? w _ hm
  obtain ⟨lg, hlg⟩ : ∃ lg : Bool, (decide (400 < a.size) || decide (400 < b.size)) = lg := ⟨_, rfl⟩
  go_enter Try.func3, Try.ntmps3
  go_wp2_with fail
  refine (long_two a b _ _ ?_ ?_).mono ?_
  · simp [*]
  · simp [*]
  rintro e w' ⟨rfl, rfl⟩
  rw [hlg]
  have hB := two_boxes w (Obj.cells #[Value.int IntKind.i64 x, Value.int IntKind.i64 y] 22) (Obj.cells #[Value.string a, Value.string b] 9)
  have k0 : ((w.alloc (Obj.cells #[Value.int IntKind.i64 x, Value.int IntKind.i64 y] 22)).alloc (Obj.cells #[Value.string a, Value.string b] 9)).cell? ⟨w.heap.size, 0, none⟩ = some (.int .i64 x) := by simp
  have k1 : ((w.alloc (Obj.cells #[Value.int IntKind.i64 x, Value.int IntKind.i64 y] 22)).alloc (Obj.cells #[Value.string a, Value.string b] 9)).cell? ⟨w.heap.size, 1, none⟩ = some (.int .i64 y) := by simp
  have km := (hB.cell l0).trans hm
  have hz : w.heap.size ≤ ((w.alloc (Obj.cells #[Value.int IntKind.i64 x, Value.int IntKind.i64 y] 22)).alloc (Obj.cells #[Value.string a, Value.string b] 9)).heap.size := hB.size
  generalize ((w.alloc (Obj.cells #[Value.int IntKind.i64 x, Value.int IntKind.i64 y] 22)).alloc (Obj.cells #[Value.string a, Value.string b] 9)) = W at hB k0 k1 km hz ⊢
  cases lg
  · have ha : a.size ≤ 400 := by
      have : ¬ (400 < a.size) := fun h => by simp [h] at hlg
      omega
    have hb : b.size ≤ 400 := by
      have : ¬ (400 < b.size) := fun h => by simp [h] at hlg
      omega
    clear hlg hm
    go_wp2
    go_region_held3 (fun w' => w'.cell? ⟨w.heap.size, 0, none⟩ = some (.int .i64 x) ∧ w'.cell? ⟨w.heap.size, 1, none⟩ = some (.int .i64 y) ∧ w'.cell? ⟨0, 0, none⟩ = some (.int .i64 m) ∧ Below w.heap.size w w')
      ((go_split_ands; refine ⟨?_, ?_, ?_, ?_⟩ <;> first | assumption | (exact Below.drewAt (by assumption) _) | (exact Below.behind (by assumption) (by assumption)) | (exact cell_keep (by assumption) (by assumption))))
      ((go_split_ands; first
        | (go_at_call 11; refine (compare_any _ _ _).mono ?_; rintro e w' ⟨rfl, rfl⟩)
        | (go_at_call 12; refine (refCompare_any _ _ _).mono ?_; rintro e w' ⟨rfl, rfl⟩)
        | (go_at_call 13; refine (range_any _ _ _ _ (by assumption)).mono ?_; rintro e w' ⟨rfl, rfl⟩)
        | (go_at_call 14; refine (refRange_any _ _ _ _ (by assumption)).mono ?_; rintro e w' ⟨rfl, rfl⟩)
        | (go_at_call 15; refine (first_any _ _ _ m _ (by assumption) (by assumption) (by assumption)).mono ?_; rintro e w' ⟨rfl, rfl⟩)
        | (go_at_call 16; refine (refFirst_any _ _ _ _ (by assumption) (by assumption)).mono ?_; rintro e w' ⟨rfl, rfl⟩)
        | (go_at_call 17; refine (last_any _ _ _ _ (by assumption) (by assumption)).mono ?_; rintro e w' ⟨rfl, rfl⟩)
        | (go_at_call 18; refine (refLast_any _ _ _ _ (by assumption) (by assumption)).mono ?_; rintro e w' ⟨rfl, rfl⟩)
        | (go_at_call 19; refine (count_any _ _ m _ (by assumption) (by assumption) (by assumption)).mono ?_; rintro e w' ⟨rfl, rfl⟩)
        | (go_at_call 20; refine (refCount_any _ _ _ (by assumption) (by assumption)).mono ?_; rintro e w' ⟨rfl, rfl⟩)
        | (go_at_call 10; refine (awake_any _).mono ?_; rintro e w' ⟨rfl, hb'⟩)))
    all_goals
      go_split_ands
      go_wp2
      go_ret
      exact ⟨rfl, by assumption⟩
  · clear hlg hm
    go_wp2_with fail
    refine (awake_any _).mono ?_
    rintro e w' ⟨rfl, hb'⟩
    go_wp2
    go_ret
    exact ⟨rfl, hB.trans (hb'.mono hz)⟩
end Go.Proofs.Ytneklmalkmeohaa
