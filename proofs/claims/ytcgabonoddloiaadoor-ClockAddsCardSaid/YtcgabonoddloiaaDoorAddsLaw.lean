/- ClockAdds answers true, for every times, numbers and unit. -/
import Derived.Test.YtcgabonoddloiaaDoorAddsMath
import Derived.Test.YtcgabonoddloiaaDoorAwake
namespace Go.Proofs.YtcgabonoddloiaaDoor
open Go.RowKit Clk

theorem Has.below {w w' : World} {g : Nat} {t : TypeId} {cs : Array Value} (h : Has w g t cs) (hb : Below w.heap.size w w') : Has w' g t cs := (hb.block g h.lt).trans h

set_option maxRecDepth 100000 in
set_option maxHeartbeats 3200000 in
theorem addsLaw_out (t m n b : Int) (s : ByteArray) (w : World) (hP : Pow w.heap.size w) (h : m < -1000000000 ∨ (¬ m < -1000000000 ∧ 1000000000 < m) ∨ (¬ m < -1000000000 ∧ ¬ 1000000000 < m ∧ n < -1000000000) ∨ (¬ m < -1000000000 ∧ ¬ 1000000000 < m ∧ ¬ n < -1000000000 ∧ 1000000000 < n) ∨ (¬ m < -1000000000 ∧ ¬ 1000000000 < m ∧ ¬ n < -1000000000 ∧ ¬ 1000000000 < n ∧ 10 < s.size)) :
    Calls Tryd.prog 3 #[.int .i64 t, .int .i64 m, .int .i64 n, .int .i64 b, .string s] w fun e w' => e = .returned (.bool true) ∧ Below w.heap.size w w' := by
  have HP := Lib.hid hP
  clear hP
  rcases h with h1 | ⟨h1, h2⟩ | ⟨h1, h2, h3⟩ | ⟨h1, h2, h3, h4⟩ | ⟨h1, h2, h3, h4, h5⟩
  all_goals
    go_enter Tryd.func3, Tryd.ntmps3
    go_wp2_with fail
    refine (awake_any _ HP.out).mono ?_
    rintro e w2 ⟨rfl, hb2⟩
    go_wp2
    go_ret
    exact ⟨rfl, hb2⟩

set_option maxRecDepth 100000 in
set_option maxHeartbeats 8000000 in
theorem addsLaw_in (t m n b : Int) (s : ByteArray) (w : World) (hP : Pow w.heap.size w) (m1 : ¬ m < -1000000000) (m2 : ¬ 1000000000 < m) (n1 : ¬ n < -1000000000) (n2 : ¬ 1000000000 < n) (hlen : ¬ 10 < s.size) :
    Calls Tryd.prog 3 #[.int .i64 t, .int .i64 m, .int .i64 n, .int .i64 b, .string s] w fun e w' => e = .returned (.bool true) ∧ Below w.heap.size w w' := by
  have HP := Lib.hid hP
  clear hP
  cases ht : isT t with
  | false =>
    have HT := Lib.hid ht
    clear ht
    go_enter Tryd.func3, Tryd.ntmps3
    go_wp2_with fail
    refine (date_no t _ HT.out).mono ?_
    rintro e w1 ⟨rfl, hb1⟩
    go_wp2_with fail
    refine (Add_no t m s _ HT.out).mono ?_
    rintro e w2 ⟨rfl, hb2⟩
    have B2 := Lib.hid ((hb1.alloc hb1.size _).trans (hb2.mono (by have := hb1.size; simp; omega)))
    clear hb1 hb2
    go_wp2_with fail
    refine (awake_any _ (Pow.at HP.out B2.out B2.out.size)).mono ?_
    rintro e w99 ⟨rfl, hb99⟩
    go_wp2
    go_ret
    exact ⟨rfl, B2.out.trans (hb99.mono B2.out.size)⟩
  | true =>
    obtain ⟨Y, M, D, hh, ii, ss, A⟩ := atIs t
    have HT := Lib.hid ht
    have HA := Lib.hid A
    rcases unit_cases s with hu | ⟨u, hu⟩
    · clear ht A
      go_enter Tryd.func3, Tryd.ntmps3
      go_wp2_with fail
      refine (date_ok t Y M D hh ii ss _ HA.out HT.out).mono ?_
      rintro e w1 ⟨rfl, hb1⟩
      go_wp2_with fail
      refine (Add_name t m s _ HT.out hu).mono ?_
      rintro e w2 ⟨rfl, hb2⟩
      have B2 := Lib.hid ((hb1.alloc hb1.size _).trans (hb2.mono (by have := hb1.size; simp; omega)))
      clear hb1 hb2
      go_wp2_with fail
      refine (awake_any _ (Pow.at HP.out B2.out B2.out.size)).mono ?_
      rintro e w99 ⟨rfl, hb99⟩
      go_wp2
      go_ret
      exact ⟨rfl, B2.out.trans (hb99.mono B2.out.size)⟩
    · obtain ⟨a, E1, hs1, hc1⟩ := Add_is t m s u ht hu
      have HC1 := Lib.hid hc1
      clear hc1
      rcases hs1 with ⟨rfl, hr1⟩ | ⟨rfl, rfl, -⟩
      · have ha := addR_isT ht hr1
        obtain ⟨v2, E2, hs2, hc2⟩ := Add_is a n s u ha hu
        obtain ⟨v3, E3, hs3, hc3⟩ := Add_is t (m + n) s u ht hu
        have HC2 := Lib.hid hc2
        have HC3 := Lib.hid hc3
        have hcase : E2 = 7 ∨ (E2 = 0 ∧ D ≤ 28 ∧ v3 = v2 ∧ E3 = 0) ∨ (E2 = 0 ∧ ¬ D ≤ 28) := by
          rcases hs2 with ⟨rfl, h2⟩ | ⟨rfl, -, -⟩
          · by_cases hD : D ≤ 28
            · have := addR_add ht (by rw [A.d]; exact hD) hr1 h2
              obtain ⟨e1, e2⟩ := hs3.only (.inl ⟨rfl, this⟩)
              exact .inr (.inl ⟨rfl, hD, e1, e2⟩)
            · exact .inr (.inr ⟨rfl, hD⟩)
          · exact .inl rfl
        have hbt : (∃ v, ∀ w : World, Calls Tryd.prog 8 #[.int .i64 t, .int .i64 b, .string s] w fun e w' => e = .returned (.tuple #[.int .i64 v, .int .i64 7]) ∧ Below w.heap.size w w') ∨ (b < t ∧ ∃ v, ∀ w : World, Calls Tryd.prog 8 #[.int .i64 t, .int .i64 b, .string s] w fun e w' => e = .returned (.tuple #[.int .i64 v, .int .i64 0]) ∧ Below w.heap.size w w') ∨
            (¬ b < t ∧ ∃ k x y E5 : Int, (0 ≤ k ∧ k ≤ 400000000000) ∧ (∀ w : World, Calls Tryd.prog 8 #[.int .i64 t, .int .i64 b, .string s] w fun e w' => e = .returned (.tuple #[.int .i64 k, .int .i64 0]) ∧ Below w.heap.size w w') ∧ x ≤ b ∧ (∀ w : World, Calls Tryd.prog 7 #[.int .i64 t, .int .i64 k, .string s] w fun e w' => e = .returned (.tuple #[.int .i64 x, .int .i64 0]) ∧ Below w.heap.size w w') ∧
              (∀ w : World, Calls Tryd.prog 7 #[.int .i64 t, .int .i64 (k + 1), .string s] w fun e w' => e = .returned (.tuple #[.int .i64 y, .int .i64 E5]) ∧ Below w.heap.size w w') ∧ (E5 = 7 ∨ (E5 = 0 ∧ b < y))) := by
          cases hb : isT b with
          | false => exact .inl ⟨0, fun w => Between_no t b s w (.inr ⟨ht, hb⟩)⟩
          | true =>
            by_cases hlt : b < t
            · exact .inr (.inl ⟨hlt, _, fun w => Between_is t b s u w ht hb hu⟩)
            · obtain ⟨⟨x, hx, hxb⟩, hy⟩ := btw_most t b u ht hb (by omega) hu.lt
              have e : btwR t b u = btw t b u := by unfold btwR; rw [if_neg hlt]
              obtain ⟨T4, E4, hs4, hc4⟩ := Add_is t (btw t b u) s u ht hu
              obtain ⟨T5, E5, hs5, hc5⟩ := Add_is t (btw t b u + 1) s u ht hu
              obtain ⟨rfl, rfl⟩ := hs4.only (.inl ⟨rfl, hx⟩)
              refine .inr (.inr ⟨hlt, btw t b u, T4, T5, E5, btw_bd t b u ht hb (by omega) hu.lt, fun w => e ▸ Between_is t b s u w ht hb hu, hxb, hc4, hc5, ?_⟩)
              rcases hs5 with ⟨rfl, h5⟩ | ⟨rfl, -, -⟩
              · exact .inr ⟨rfl, hy _ h5⟩
              · exact .inl rfl
        have HBT := Lib.hid hbt
        clear hc2 hc3 hs2 hs3 hr1 ha hu ht A hbt
        rcases hcase with rfl | ⟨rfl, hD, rfl, rfl⟩ | ⟨rfl, hD⟩
        all_goals
          go_enter Tryd.func3, Tryd.ntmps3
          go_wp2_with fail
          refine (date_ok t Y M D hh ii ss _ HA.out HT.out).mono ?_
          rintro e w1 ⟨rfl, hb1⟩
          have hz1 := hb1.size
          go_wp2_with fail
          have hs0 := Has.new w1 24 #[.int .i64 Y, .int .i64 M, .int .i64 D, .int .i64 hh, .int .i64 ii, .int .i64 ss]
          refine (HC1.out _).mono ?_
          rintro e w2 ⟨rfl, hb2⟩
          have HS2 := Lib.hid (hs0.below hb2)
          have B2 := Lib.hid ((hb1.alloc hz1 _).trans (hb2.mono (by simp; omega)))
          clear hb1 hb2 hs0
          go_wp2_with fail
          refine (HC2.out _).mono ?_
          rintro e w3 ⟨rfl, hb3⟩
          have HS3 := Lib.hid (HS2.out.below hb3)
          have B3 := Lib.hid (B2.out.trans (hb3.mono B2.out.size))
          clear hb3
          go_wp2_with fail
          refine (HC3.out _).mono ?_
          rintro e w4 ⟨rfl, hb4⟩
          have hs4 := HS3.out.below hb4
          have c2 : w4.cell? ⟨w1.heap.size, 2, none⟩ = some (.int .i64 D) := hs4.cell 2
          have B4 := Lib.hid (B3.out.trans (hb4.mono B3.out.size))
          clear hb4 hs4 HS2 HS3
          rcases HBT.out with ⟨v, hv⟩ | ⟨hlt, v, hv⟩ | ⟨hlt, k, x, y, E5, ⟨k0, k1⟩, hv, hxb, hx, hy, hE⟩
          · have HV := Lib.hid hv
            clear hv
            go_wp2_with fail
            refine (HV.out _).mono ?_
            rintro e w5 ⟨rfl, hb5⟩
            have B5 := Lib.hid (B4.out.trans (hb5.mono B4.out.size))
            clear hb5
            go_wp2_with fail
            refine (awake_any _ (Pow.at HP.out B5.out B5.out.size)).mono ?_
            rintro e w99 ⟨rfl, hb99⟩
            go_wp2
            go_ret
            exact ⟨rfl, B5.out.trans (hb99.mono B5.out.size)⟩
          · have HV := Lib.hid hv
            clear hv
            go_wp2_with fail
            refine (HV.out _).mono ?_
            rintro e w5 ⟨rfl, hb5⟩
            have B5 := Lib.hid (B4.out.trans (hb5.mono B4.out.size))
            clear hb5
            go_wp2_with fail
            refine (awake_any _ (Pow.at HP.out B5.out B5.out.size)).mono ?_
            rintro e w99 ⟨rfl, hb99⟩
            go_wp2
            go_ret
            exact ⟨rfl, B5.out.trans (hb99.mono B5.out.size)⟩
          · have HV := Lib.hid hv
            have HX := Lib.hid hx
            have HY := Lib.hid hy
            have HE := Lib.hid hE
            clear hv hx hy hE
            go_wp2_with fail
            refine (HV.out _).mono ?_
            rintro e w5 ⟨rfl, hb5⟩
            have B5 := Lib.hid (B4.out.trans (hb5.mono B4.out.size))
            clear hb5
            go_wp2_with fail
            refine (HX.out _).mono ?_
            rintro e w6 ⟨rfl, hb6⟩
            have B6 := Lib.hid (B5.out.trans (hb6.mono B5.out.size))
            clear hb6
            go_wp2_with fail
            refine (HY.out _).mono ?_
            rintro e w7 ⟨rfl, hb7⟩
            have B7 := Lib.hid (B6.out.trans (hb7.mono B6.out.size))
            clear hb7
            rcases HE.out with rfl | ⟨rfl, hby⟩
            all_goals
              go_wp2_with fail
              refine (awake_any _ (Pow.at HP.out B7.out B7.out.size)).mono ?_
              rintro e w99 ⟨rfl, hb99⟩
              go_wp2
              go_ret
              exact ⟨rfl, B7.out.trans (hb99.mono B7.out.size)⟩
      · clear ht A hu
        go_enter Tryd.func3, Tryd.ntmps3
        go_wp2_with fail
        refine (date_ok t Y M D hh ii ss _ HA.out HT.out).mono ?_
        rintro e w1 ⟨rfl, hb1⟩
        go_wp2_with fail
        refine (HC1.out _).mono ?_
        rintro e w2 ⟨rfl, hb2⟩
        have B2 := Lib.hid ((hb1.alloc hb1.size _).trans (hb2.mono (by have := hb1.size; simp; omega)))
        clear hb1 hb2
        go_wp2_with fail
        refine (awake_any _ (Pow.at HP.out B2.out B2.out.size)).mono ?_
        rintro e w99 ⟨rfl, hb99⟩
        go_wp2
        go_ret
        exact ⟨rfl, B2.out.trans (hb99.mono B2.out.size)⟩

theorem addsLaw_any (t m n b : Int) (s : ByteArray) (w : World) (hP : Pow w.heap.size w) :
    Calls Tryd.prog 3 #[.int .i64 t, .int .i64 m, .int .i64 n, .int .i64 b, .string s] w fun e w' => e = .returned (.bool true) ∧ Below w.heap.size w w' := by
  by_cases h1 : m < -1000000000
  · exact addsLaw_out t m n b s w hP (.inl h1)
  by_cases h2 : 1000000000 < m
  · exact addsLaw_out t m n b s w hP (.inr (.inl ⟨h1, h2⟩))
  by_cases h3 : n < -1000000000
  · exact addsLaw_out t m n b s w hP (.inr (.inr (.inl ⟨h1, h2, h3⟩)))
  by_cases h4 : 1000000000 < n
  · exact addsLaw_out t m n b s w hP (.inr (.inr (.inr (.inl ⟨h1, h2, h3, h4⟩))))
  by_cases h5 : 10 < s.size
  · exact addsLaw_out t m n b s w hP (.inr (.inr (.inr (.inr ⟨h1, h2, h3, h4, h5⟩))))
  · exact addsLaw_in t m n b s w hP h1 h2 h3 h4 h5
end Go.Proofs.YtcgabonoddloiaaDoor
