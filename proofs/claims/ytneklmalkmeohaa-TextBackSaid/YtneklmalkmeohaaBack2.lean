/- The walk of the law TextBack. -/
import Derived.Test.YtneklmalkmeohaaBack1
namespace Go.Proofs.Ytneklmalkmeohaa
open Go.RowKit Go.Lib

set_option maxHeartbeats 400000 in
theorem bounds_big (f t n : Int) (w : World) (hn0 : 0 ≤ n) (hn : n ≤ 100000) :
    Calls Try.prog 49 #[.int .i64 f, .int .i64 t, .int .i64 n] w fun e w' => e = .returned (.tuple #[.int .i64 (max f 0), .int .i64 (min t (n - 1))]) ∧ w = w' := by
  go_enter Try.func49, Try.ntmps49
  go_wp2
  go_ret2
  exact ⟨rfl, rfl⟩

set_option maxRecDepth 100000 in
set_option maxHeartbeats 800000 in
theorem range_big (s : ByteArray) (f t : Int) (w : World) (hs : s.size ≤ 100000) :
    Calls Try.prog 13 #[.string s, .int .i64 f, .int .i64 t] w fun e w' => e = .returned (.string ⟨(rangeOf s.data.toList f t).toArray⟩) ∧ w = w' := by
  by_cases hlt : max f 0 > min t ((s.size : Int) - 1)
  · have H := Lib.hid (rangeOf_nil s.data.toList f t (by simpa using hlt))
    go_enter Try.func13, Try.ntmps13
    go_wp2_with (go_at_call 49; refine (bounds_big _ _ _ _ (by omega) (by omega)).mono ?_; rintro e w' ⟨rfl, rfl⟩)
    go_ret
    exact ⟨by rw [H.out]; rfl, rfl⟩
  · have H := Lib.hid (rangeOf_ext s f t hlt)
    go_enter Try.func13, Try.ntmps13
    go_wp2_with (go_at_call 49; refine (bounds_big _ _ _ _ (by omega) (by omega)).mono ?_; rintro e w' ⟨rfl, rfl⟩)
    go_ret
    exact ⟨by rw [← H.out]; rfl, rfl⟩

theorem range_put (s x : ByteArray) (f t : Nat) (w : World) (hs : s.size ≤ 400) (hx : x.size ≤ 400) (h : f ≤ t) (ht : t < s.size) :
    Calls Try.prog 13 #[.string ⟨(replaced s.data.toList f t x.data.toList).toArray⟩, .int .i64 f, .int .i64 ((f : Int) + x.size - 1)] w fun e w' => e = .returned (.string x) ∧ w = w' := by
  have hl : s.data.toList.length = s.size := (Lib.size_eq s).symm
  have hlx : x.data.toList.length = x.size := (Lib.size_eq x).symm
  refine (range_big _ _ _ w ?_).mono ?_
  · rw [data_size]
    have := replaced_len s.data.toList x.data.toList f t h (by omega)
    omega
  · rintro e w' ⟨rfl, rfl⟩
    refine ⟨?_, rfl⟩
    show Ending.returned (Value.string ⟨(rangeOf (replaced s.data.toList f t x.data.toList) f ((f : Int) + x.size - 1)).toArray⟩) = _
    rw [← hlx, range_replaced _ _ _ _ h (by omega)]

/-- Box and the library's number. -/
structure Box3m (w : World) (x y z m : Int) (W : World) : Prop where
  h : Box3 w x y z W
  km : W.cell? ⟨0, 0, none⟩ = some (.int .i64 m)
theorem Box3m.later {w W W' : World} {x y z m : Int} (h : Box3m w x y z m W) (hb : Below W.heap.size W W') : Box3m w x y z m W' := ⟨h.h.later hb, cell_keep h.km hb⟩

theorem first_said (x s : ByteArray) (c : Int) : firstOf s.data.toList x.data.toList c = -1 ∨ ∃ i : Nat, firstOf s.data.toList x.data.toList c = i ∧ (i : Int) + (x.size : Int) ≤ (s.size : Int) ∧ ((s.extract i (i + x.size)).toList == x.toList) = true ∧ c ≤ (i : Int) := by
  have hl : s.data.toList.length = s.size := (Lib.size_eq s).symm
  have hlx : x.data.toList.length = x.size := (Lib.size_eq x).symm
  rcases first_cases s.data.toList x.data.toList c with h | ⟨_, i, h1, h2, h3, h4⟩
  · exact .inl h
  · exact .inr ⟨i, h1, by omega, by rw [stands_eq x s i (by omega)]; exact h3, h2⟩
theorem last_said (x s : ByteArray) (c : Int) : lastOf s.data.toList x.data.toList c = -1 ∨ ∃ i : Nat, lastOf s.data.toList x.data.toList c = i ∧ (i : Int) + (x.size : Int) ≤ (s.size : Int) ∧ ((s.extract i (i + x.size)).toList == x.toList) = true ∧ (i : Int) ≤ c := by
  have hl : s.data.toList.length = s.size := (Lib.size_eq s).symm
  have hlx : x.data.toList.length = x.size := (Lib.size_eq x).symm
  rcases last_cases s.data.toList x.data.toList c with h | ⟨_, i, h1, h2, h3, h4⟩
  · exact .inl h
  · exact .inr ⟨i, h1, by omega, by rw [stands_eq x s i (by omega)]; exact h3, h2⟩

set_option maxRecDepth 100000 in
set_option maxHeartbeats 3200000 in
theorem back_main (s x : ByteArray) (A B : Nat) (c m : Int) (w : World) (hm : w.cell? ⟨0, 0, none⟩ = some (.int .i64 m)) (hs : s.size ≤ 400) (hxs : x.size ≤ 400) (hA : A ≤ 20) (hB : B ≤ 20) :
    Calls Try.prog 8 #[.string s, .string x, .agg #[.int .i64 A, .int .i64 B, .int .i64 c]] w fun e w' => e = .returned (.bool true) ∧ Below w.heap.size w w' := by
  have l0 := World.block_lt_of_cell? w _ hm
  have hlg : (decide (400 < s.size) || decide (400 < x.size)) = false := by simp; omega
  obtain ⟨R1, hR1⟩ : ∃ R : ByteArray, (⟨(repeatL s.data.toList A).toArray⟩ : ByteArray) = R := ⟨_, rfl⟩
  obtain ⟨R2, hR2⟩ : ∃ R : ByteArray, (⟨(repeatL s.data.toList B).toArray⟩ : ByteArray) = R := ⟨_, rfl⟩
  obtain ⟨R3, hR3⟩ : ∃ R : ByteArray, (⟨(repeatL s.data.toList (A + B)).toArray⟩ : ByteArray) = R := ⟨_, rfl⟩
  have hcat : R1 ++ R2 = R3 := by rw [← hR1, ← hR2, ← hR3, mk_append, ← repeatL_add]
  have hz : ¬ 9223372036854775807 < R1.size + R2.size := by
    rw [← hR1, ← hR2, data_size, data_size, repeatL_length, repeatL_length, ← Lib.size_eq]
    have h1 : A * s.size ≤ 20 * 400 := Nat.mul_le_mul hA hs
    have h2 : B * s.size ≤ 20 * 400 := Nat.mul_le_mul hB hs
    omega
  have c1 := fun W => repeat_short s A W hs (by omega)
  have c2 := fun W => repeat_short s B W hs (by omega)
  have c3 := fun W => repeat_short s (A + B) W hs (by omega)
  simp only [hR1] at c1
  simp only [hR2] at c2
  simp only [hR3, Int.natCast_add] at c3
  have a0 : ¬ (A : Int) < 0 := by omega
  have a1 : ¬ (A : Int) > 20 := by omega
  have b0 : ¬ (B : Int) < 0 := by omega
  have b1 : ¬ (B : Int) > 20 := by omega
  have C1 := Lib.hid c1
  have C2 := Lib.hid c2
  have C3 := Lib.hid c3
  clear c1 c2 c3 hR1 hR2 hR3
  go_enter Try.func8, Try.ntmps8
  go_wp2_with fail
  refine (long_two s x _ _ ?_ ?_).mono ?_
  · simp [*]
  · simp [*]
  rintro e w' ⟨rfl, rfl⟩
  rw [hlg]
  have hB := two_boxes w (Obj.cells #[Value.int IntKind.i64 A, Value.int IntKind.i64 B, Value.int IntKind.i64 c] 36) (Obj.cells #[Value.string s, Value.string x] 9)
  have hx : Box3m w A B c m ((w.alloc (Obj.cells #[Value.int IntKind.i64 A, Value.int IntKind.i64 B, Value.int IntKind.i64 c] 36)).alloc (Obj.cells #[Value.string s, Value.string x] 9)) :=
    ⟨⟨by simp, by simp, by simp, hB⟩, (hB.cell l0).trans hm⟩
  clear hB hm l0 hlg
  generalize ((w.alloc (Obj.cells #[Value.int IntKind.i64 A, Value.int IntKind.i64 B, Value.int IntKind.i64 c] 36)).alloc (Obj.cells #[Value.string s, Value.string x] 9)) = W at hx ⊢
  have k0 := hx.h.c0
  have k1 := hx.h.c1
  go_wp2_with fail
  refine (C1.out _).mono ?_
  rintro e W1 ⟨rfl, d1⟩
  have h1 := hx.later d1
  have k1 := h1.h.c1
  go_wp2_with fail
  refine (C2.out _).mono ?_
  rintro e W2 ⟨rfl, d2⟩
  have h2 := h1.later d2
  have k0 := h2.h.c0
  have k1 := h2.h.c1
  clear hx h1 d1 d2 C1 C2
  go_wp2_with fail
  refine (C3.out _).mono ?_
  rintro e W3 ⟨rfl, d3⟩
  have h3 := h2.later d3
  go_wp2_with fail
  refine (reverse_any s _ hs).mono ?_
  rintro e W4 ⟨rfl, d4⟩
  have h4 := h3.later d4
  go_wp2_with fail
  refine (reverse_back s _ hs).mono ?_
  rintro e W5 ⟨rfl, d5⟩
  have h5 := h4.later d5
  clear h2 h3 h4 d3 d4 d5 C3
  go_wp2_with fail
  refine (upper_any s _ hs).mono ?_
  rintro e W6 ⟨rfl, d6⟩
  have h6 := h5.later d6
  go_wp2_with fail
  refine (lower_upper s _ hs).mono ?_
  rintro e W7 ⟨rfl, d7⟩
  have h7 := h6.later d7
  go_wp2_with fail
  refine (lower_any s _ hs).mono ?_
  rintro e W8 ⟨rfl, d8⟩
  have h8 := h7.later d8
  clear h5 h6 h7 d6 d7 d8
  have k2 := h8.h.c2
  go_wp2_with fail
  refine (first_any x s c m _ hxs hs h8.km).mono ?_
  rintro e w' ⟨rfl, rfl⟩
  have FS := first_said x s c
  generalize firstOf s.data.toList x.data.toList c = F at FS ⊢
  go_upto_region 9 with fail
  go_cut [130] (fun s130 wx => W8 = wx ∧ s130 = .bool false)
  case first =>
    rcases FS with rfl | ⟨i, rfl, f1, f2, f3⟩
    · go_wp2
      go_meet
      exact ⟨rfl, rfl⟩
    · have g0 : (i : Int) ≥ 0 := by omega
      have g1 : ¬ (i : Int) + (x.size : Int) > (s.size : Int) := by omega
      have g3 : ¬ (i : Int) < c := by omega
      have g4 : (i : Int) ≤ (i : Int) + (x.size : Int) := by omega
      have g5 : (0 : Int) ≤ (i : Int) + (x.size : Int) := by omega
      go_wp2
      go_meet
      exact ⟨rfl, rfl⟩
  case rest =>
    obtain ⟨rfl, rfl⟩ := hcut
    clear FS
    go_wp2_with fail
    refine (last_any x s c _ hxs hs).mono ?_
    rintro e w' ⟨rfl, rfl⟩
    have LS := last_said x s c
    generalize lastOf s.data.toList x.data.toList c = L at LS ⊢
    go_upto_region 12 with fail
    go_cut [163] (fun s163 wx => W8 = wx ∧ s163 = .bool false)
    case first =>
      rcases LS with rfl | ⟨i, rfl, f1, f2, f3⟩
      · go_wp2
        go_meet
        exact ⟨rfl, rfl⟩
      · have g0 : (i : Int) ≥ 0 := by omega
        have g1 : ¬ (i : Int) + (x.size : Int) > (s.size : Int) := by omega
        have g3 : ¬ (i : Int) > c := by omega
        have g4 : (i : Int) ≤ (i : Int) + (x.size : Int) := by omega
        have g5 : (0 : Int) ≤ (i : Int) + (x.size : Int) := by omega
        go_wp2
        go_meet
        exact ⟨rfl, rfl⟩
    case rest =>
      obtain ⟨rfl, rfl⟩ := hcut
      clear LS
      have k0 := h8.h.c0
      have k1 := h8.h.c1
      by_cases hab : (A : Int) > (B : Int)
      · go_wp2_with (go_at_call 10; refine (awake_any _).mono ?_; rintro e w' ⟨rfl, hb'⟩)
        go_ret
        exact ⟨rfl, Below.behind h8.h.b hb'⟩
      by_cases hbl : (B : Int) ≥ (s.size : Int)
      · go_wp2_with (go_at_call 10; refine (awake_any _).mono ?_; rintro e w' ⟨rfl, hb'⟩)
        go_ret
        exact ⟨rfl, Below.behind h8.h.b hb'⟩
      go_wp2_with fail
      refine (replace_walk s x A B _ hs hxs).mono ?_
      rintro e W9 ⟨rfl, d9⟩
      have h9 := h8.later d9
      have k0 := h9.h.c0
      go_wp2_with fail
      refine (range_put s x A B _ hs hxs (by omega) (by omega)).mono ?_
      rintro e w' ⟨rfl, rfl⟩
      go_wp2_with fail
      refine (awake_any _).mono ?_
      rintro e w' ⟨rfl, hb'⟩
      go_wp2
      go_ret
      exact ⟨rfl, Below.behind h9.h.b hb'⟩

set_option maxRecDepth 100000 in
set_option maxHeartbeats 3200000 in
theorem back_other (s x : ByteArray) (a b c m : Int) (w : World) (lg : Bool) (hlg : (decide (400 < s.size) || decide (400 < x.size)) = lg) (hm : w.cell? ⟨0, 0, none⟩ = some (.int .i64 m)) (h : lg = true ∨ a < 0 ∨ a > 20 ∨ b < 0 ∨ b > 20) :
    Calls Try.prog 8 #[.string s, .string x, .agg #[.int .i64 a, .int .i64 b, .int .i64 c]] w fun e w' => e = .returned (.bool true) ∧ Below w.heap.size w w' := by
  have l0 := World.block_lt_of_cell? w _ hm
  go_enter Try.func8, Try.ntmps8
  go_wp2_with fail
  refine (long_two s x _ _ ?_ ?_).mono ?_
  · simp [*]
  · simp [*]
  rintro e w' ⟨rfl, rfl⟩
  rw [hlg]
  have hB := two_boxes w (Obj.cells #[Value.int IntKind.i64 a, Value.int IntKind.i64 b, Value.int IntKind.i64 c] 36) (Obj.cells #[Value.string s, Value.string x] 9)
  have hx : Box3m w a b c m ((w.alloc (Obj.cells #[Value.int IntKind.i64 a, Value.int IntKind.i64 b, Value.int IntKind.i64 c] 36)).alloc (Obj.cells #[Value.string s, Value.string x] 9)) :=
    ⟨⟨by simp, by simp, by simp, hB⟩, (hB.cell l0).trans hm⟩
  clear hB hm l0 hlg
  generalize ((w.alloc (Obj.cells #[Value.int IntKind.i64 a, Value.int IntKind.i64 b, Value.int IntKind.i64 c] 36)).alloc (Obj.cells #[Value.string s, Value.string x] 9)) = W at hx ⊢
  have k0 := hx.h.c0
  have k1 := hx.h.c1
  cases lg
  · by_cases a0 : a < 0
    · clear h
      go_wp2_with (go_at_call 10; refine (awake_any _).mono ?_; rintro e w' ⟨rfl, hb'⟩)
      go_ret
      exact ⟨rfl, Below.behind hx.h.b hb'⟩
    by_cases a1 : a > 20
    · clear h
      go_wp2_with (go_at_call 10; refine (awake_any _).mono ?_; rintro e w' ⟨rfl, hb'⟩)
      go_ret
      exact ⟨rfl, Below.behind hx.h.b hb'⟩
    by_cases b0 : b < 0
    · clear h
      go_wp2_with (go_at_call 10; refine (awake_any _).mono ?_; rintro e w' ⟨rfl, hb'⟩)
      go_ret
      exact ⟨rfl, Below.behind hx.h.b hb'⟩
    have b1 : b > 20 := by
      rcases h with h | h | h | h | h
      · cases h
      · exact absurd h a0
      · exact absurd h a1
      · exact absurd h b0
      · exact h
    clear h
    go_wp2_with (go_at_call 10; refine (awake_any _).mono ?_; rintro e w' ⟨rfl, hb'⟩)
    go_ret
    exact ⟨rfl, Below.behind hx.h.b hb'⟩
  · clear h
    go_wp2_with (go_at_call 10; refine (awake_any _).mono ?_; rintro e w' ⟨rfl, hb'⟩)
    go_ret
    exact ⟨rfl, Below.behind hx.h.b hb'⟩

theorem back_any (s x : ByteArray) (a b c m : Int) (w : World) (hm : w.cell? ⟨0, 0, none⟩ = some (.int .i64 m)) :
    Calls Try.prog 8 #[.string s, .string x, .agg #[.int .i64 a, .int .i64 b, .int .i64 c]] w fun e w' => e = .returned (.bool true) ∧ Below w.heap.size w w' := by
  by_cases h : (decide (400 < s.size) || decide (400 < x.size)) = true ∨ a < 0 ∨ a > 20 ∨ b < 0 ∨ b > 20
  · exact back_other s x a b c m w _ rfl hm h
  · have h1 : ¬ (400 < s.size) := fun h' => h (.inl (by simp [h']))
    have h2 : ¬ (400 < x.size) := fun h' => h (.inl (by simp [h']))
    obtain ⟨A, rfl⟩ : ∃ A : Nat, a = A := ⟨a.toNat, by omega⟩
    obtain ⟨B, rfl⟩ : ∃ B : Nat, b = B := ⟨b.toNat, by omega⟩
    exact back_main s x A B c m w hm (by omega) (by omega) (by omega) (by omega)
end Go.Proofs.Ytneklmalkmeohaa
