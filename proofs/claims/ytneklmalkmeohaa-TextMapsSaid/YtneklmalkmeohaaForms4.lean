/- The walk of the law TextForms. -/
import Derived.Test.YtneklmalkmeohaaUnesc6
import Derived.Test.YtneklmalkmeohaaTrim2
import Derived.Test.YtneklmalkmeohaaLong
import Derived.Deep.RegionHeld3
namespace Go.Proofs.Ytneklmalkmeohaa
open Go.RowKit Go.Lib

/-- What the walk keeps: the box of two bools, and all that was there. -/
def Keep (w : World) (x y : Bool) (W : World) : Prop := W.cell? ⟨w.heap.size, 0, none⟩ = some (.bool x) ∧ W.cell? ⟨w.heap.size, 1, none⟩ = some (.bool y) ∧ Below w.heap.size w W

theorem Keep.step {w W W' : World} {x y : Bool} (h : Keep w x y W) (hb : Below W.heap.size W W') : Keep w x y W' :=
  ⟨cell_keep h.1 hb, cell_keep h.2.1 hb, Below.behind h.2.2 hb⟩

theorem Keep.call {w W : World} {x y : Bool} {f : Nat} {args : Array Value} {v : Value} (h : Keep w x y W) (hc : Calls Try.prog f args W fun e w' => e = .returned v ∧ Below W.heap.size W w') :
    Calls Try.prog f args W fun e w' => e = .returned v ∧ Keep w x y w' := hc.mono fun _ _ ⟨he, hb⟩ => ⟨he, h.step hb⟩

set_option maxRecDepth 100000 in
set_option maxHeartbeats 3200000 in
theorem forms_any (a b : ByteArray) (x y : Bool) (w : World) :
    Calls Try.prog 4 #[.string a, .string b, .agg #[.bool x, .bool y]] w fun e w' => e = .returned (.bool true) ∧ Below w.heap.size w w' := by
  obtain ⟨lg, hlg⟩ : ∃ lg : Bool, (decide (400 < a.size) || decide (400 < b.size)) = lg := ⟨_, rfl⟩
  go_enter Try.func4, Try.ntmps4
  go_wp2_with fail
  refine (long_two a b _ _ ?_ ?_).mono ?_
  · simp [*]
  · simp [*]
  rintro e w' ⟨rfl, rfl⟩
  rw [hlg]
  have hB := two_boxes w (Obj.cells #[Value.bool x, Value.bool y] 29) (Obj.cells #[Value.string a, Value.string b] 9)
  have k0 : ((w.alloc (Obj.cells #[Value.bool x, Value.bool y] 29)).alloc (Obj.cells #[Value.string a, Value.string b] 9)).cell? ⟨w.heap.size, 0, none⟩ = some (.bool x) := by simp
  have k1 : ((w.alloc (Obj.cells #[Value.bool x, Value.bool y] 29)).alloc (Obj.cells #[Value.string a, Value.string b] 9)).cell? ⟨w.heap.size, 1, none⟩ = some (.bool y) := by simp
  have hz : w.heap.size ≤ ((w.alloc (Obj.cells #[Value.bool x, Value.bool y] 29)).alloc (Obj.cells #[Value.string a, Value.string b] 9)).heap.size := hB.size
  generalize ((w.alloc (Obj.cells #[Value.bool x, Value.bool y] 29)).alloc (Obj.cells #[Value.string a, Value.string b] 9)) = W at hB k0 k1 hz ⊢
  cases lg
  · have ha : a.size ≤ 400 := by
      have : ¬ (400 < a.size) := fun h => by simp [h] at hlg
      omega
    have hb : b.size ≤ 400 := by
      have : ¬ (400 < b.size) := fun h => by simp [h] at hlg
      omega
    clear hlg
    have HK : Keep w x y W := ⟨k0, k1, hB⟩
    clear k0 k1 hB hz
    obtain ⟨C, n, hv⟩ : ∃ (C : ByteArray) (n : Nat), unescVal a = .tuple #[.string C, .int .i64 (n : Int)] := ⟨_, _, rfl⟩
    have hU1 := fun W => unescape_any a W ha
    have hU2 := fun W => refUnescape_any a W ha
    rw [hv] at hU1 hU2
    clear hv
    go_wp2_with (first
      | (go_at_call 21; refine (HK.call (hU1 _)).mono ?_; rintro e w' ⟨rfl, HK⟩)
      | (go_at_call 22; refine (HK.call (hU2 _)).mono ?_; rintro e w' ⟨rfl, HK⟩)
      | (go_at_call 23; refine (HK.call (reverse_any a _ ha)).mono ?_; rintro e w' ⟨rfl, HK⟩)
      | (go_at_call 24; refine (HK.call (refReverse_any a _ ha)).mono ?_; rintro e w' ⟨rfl, HK⟩)
      | (go_at_call 25; refine (HK.call (lower_any a _ ha)).mono ?_; rintro e w' ⟨rfl, HK⟩)
      | (go_at_call 26; refine (HK.call (refLower_any a _ ha)).mono ?_; rintro e w' ⟨rfl, HK⟩)
      | (go_at_call 27; refine (HK.call (upper_any a _ ha)).mono ?_; rintro e w' ⟨rfl, HK⟩)
      | (go_at_call 28; refine (HK.call (refUpper_any a _ ha)).mono ?_; rintro e w' ⟨rfl, HK⟩)
      | (go_at_call 29; refine (HK.call (title_any a _ ha)).mono ?_; rintro e w' ⟨rfl, HK⟩)
      | (go_at_call 30; refine (HK.call (refTitle_any a _ ha)).mono ?_; rintro e w' ⟨rfl, HK⟩))
    clear hU1 hU2
    go_loopg [11] a.size (fun g v wx => ∃ k : Nat, v = .int .i64 k ∧ k + g = a.size ∧ Keep w x y wx)
    case atStart => exact ⟨0, rfl, by omega, HK⟩
    case round =>
      obtain ⟨k, rfl, hkg, k0, k1, hB⟩ := hrel
      by_cases hk : k < a.size
      · have hk1 : (k : Int) < (a.size : Int) := by omega
        have hk0 : (0 : Int) ≤ (k : Int) := by omega
        obtain ⟨c, hc⟩ : ∃ c, a[k] = c := ⟨_, rfl⟩
        obtain ⟨g, rfl⟩ : ∃ g, gk = g + 1 := ⟨gk - 1, by omega⟩
        go_wp2
        go_quiet ((first
          | (go_at_call 31; exact Calls.quiet_of_same ((white_any c _).mono fun e w' ⟨he, hw⟩ => ⟨he, hw.symm⟩))
          | (go_at_call 32; exact Calls.quiet_of_same ((refWhite_any c _).mono fun e w' ⟨he, hw⟩ => ⟨he, hw.symm⟩))))
        go_wp2
        go_roundg g
        case measure => omega
        case rel => exact ⟨k + 1, rfl, by omega, k0, k1, Below.drewAt hB _⟩
      · have hk1 : ¬ (k : Int) < (a.size : Int) := by omega
        go_wp2
        go_region_held3 (fun w' => w'.cell? ⟨w.heap.size, 0, none⟩ = some (.bool x) ∧ w'.cell? ⟨w.heap.size, 1, none⟩ = some (.bool y) ∧ Below w.heap.size w w')
          ((go_split_ands; refine ⟨?_, ?_, ?_⟩ <;> first | assumption | (exact Below.drewAt (by assumption) _) | (exact Below.behind (by assumption) (by assumption)) | (exact cell_keep (by assumption) (by assumption))))
          ((go_split_ands; first
            | (go_at_call 33; refine (trim_any _ _ _ _ _ (by assumption) (by assumption)).mono ?_; rintro e w' ⟨rfl, hb'⟩)
            | (go_at_call 34; refine (refTrim_any _ _ _ _ _ (by assumption) (by assumption)).mono ?_; rintro e w' ⟨rfl, rfl⟩)
            | (go_at_call 35; refine (unescaped_any _ _ (by assumption)).mono ?_; rintro e w' ⟨rfl, hb'⟩)
            | (go_at_call 36; refine (refUnescaped_any _ _ (by assumption)).mono ?_; rintro e w' ⟨rfl, hb'⟩)
            | (go_at_call 37; refine (detail_any _ _ (by assumption)).mono ?_; rintro e w' ⟨rfl, rfl⟩)
            | (go_at_call 38; refine (refDetail_any _ _ (by assumption)).mono ?_; rintro e w' ⟨rfl, rfl⟩)
            | (go_at_call 10; refine (awake_any _).mono ?_; rintro e w' ⟨rfl, hb'⟩)))
        all_goals
          go_split_ands
          go_wp2
          go_ret
          exact ⟨rfl, by assumption⟩
  · clear hlg
    go_wp2_with fail
    refine (awake_any _).mono ?_
    rintro e w' ⟨rfl, hb'⟩
    go_wp2
    go_ret
    exact ⟨rfl, hB.trans (hb'.mono hz)⟩
end Go.Proofs.Ytneklmalkmeohaa
