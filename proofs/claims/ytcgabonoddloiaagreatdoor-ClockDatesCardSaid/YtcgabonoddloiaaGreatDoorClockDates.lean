/- ClockDates returns true for every time, date, year and month (the card: its row's listed tables tied to the program's text): Valid, Date, Time, Leap and Days of the program are those of the reference, and undo each other. No condition. -/
import Derived.Test.YtcgabonoddloiaaGreatDoorFrame
import Derived.Test.YtcgabonoddloiaaGreatDoorDatesLaw
namespace Go.Proofs.YtcgabonoddloiaaGreatDoor
open Go.ChangeShapes Go.WideShapes Go.ChangeAt Go.RowKit

theorem open_six_ints {P : Program} {r : Reach} {b0 : Nat} {t e : TypeId} {fs : Array Go.Field} {k : IntKind} {W : World} {v : Value} (hu : P.underlying t = some (.struct fs)) (hC : P.cellsOf t = 6) (hT : P.cellTypes P.depth t = some [e, e, e, e, e, e]) (he : P.underlying e = some (.int k))
    (h : Value.okWide P W r b0 t v) : ∃ x0 x1 x2 x3 x4 x5 : Int, v = Value.agg #[.int k x0, .int k x1, .int k x2, .int k x3, .int k x4, .int k x5] := by
  simp only [Value.okWide, hu] at h
  obtain ⟨cs, rfl, hs, ts, hts, _, hall⟩ := h
  rw [hT] at hts
  cases hts
  rw [hC] at hs
  have hcell : ∀ (i : Nat) (v : Value), cs[i]? = some v → ∃ x, v = Value.int k x := by
    intro i v hv
    obtain ⟨u, hu', hc⟩ := hall i v hv
    have e1 : u = e := by
      have h2 : i % 6 < 6 := Nat.mod_lt _ (by decide)
      have h3 : [e, e, e, e, e, e][i % 6]? = some u := hu'
      match hm : i % 6, h2, h3 with
      | 0, _, h3 => simpa using h3.symm
      | 1, _, h3 => simpa using h3.symm
      | 2, _, h3 => simpa using h3.symm
      | 3, _, h3 => simpa using h3.symm
      | 4, _, h3 => simpa using h3.symm
      | 5, _, h3 => simpa using h3.symm
    subst e1
    exact okWide_int (base := b0) (r := r) (w := W) he (by simpa [Value.okWide, he] using hc)
  obtain ⟨l⟩ := cs
  match l, hs with
  | [c0, c1, c2, c3, c4, c5], _ =>
    obtain ⟨x0, rfl⟩ := hcell 0 c0 rfl
    obtain ⟨x1, rfl⟩ := hcell 1 c1 rfl
    obtain ⟨x2, rfl⟩ := hcell 2 c2 rfl
    obtain ⟨x3, rfl⟩ := hcell 3 c3 rfl
    obtain ⟨x4, rfl⟩ := hcell 4 c4 rfl
    obtain ⟨x5, rfl⟩ := hcell 5 c5 rfl
    exact ⟨x0, x1, x2, x3, x4, x5, rfl⟩

set_option maxRecDepth 100000 in
theorem dates_lifted (os : Os) (started : os.Started) (H : Type) (enc : TypeId × Value → H) :
    ReturnsInHanded {} Tryz.checked os 3 .any (fun w args => (Rows.clockDatesSpec.pre enc Tryz.prog Tryz.f3 Rows.clockDatesRow.domain false w args ∧ laidMetH Tryz.prog Rows.clockDatesRow.laid w) ∧ sizedMet enc Tryz.prog Tryz.f3 (OpenSpec.ofChange Rows.clockDatesSpec) false w args)
      (Rows.clockDatesSpec.post enc Tryz.prog Tryz.f3 false true false false) := by
  refine returnsInHanded_of_change_and (C := Tryz.checked) (X := fun w _ => laidMetH Tryz.prog Rows.clockDatesRow.laid w) (fun _ _ _ hh h => h.of_heap hh) Tryz.own started (by kernel_rfl) Tryz.func3
    (ChangeSpec.witness_shaped (enc := enc) (C := Tryz.checked) (os := os) (X := fun w _ => laidMetH Tryz.prog Rows.clockDatesRow.laid w) false (World.laidAll Tryz.prog os Rows.clockDatesRow.laid) #[.int .i64 0, .agg #[.int .i64 0, .int .i64 0, .int .i64 0, .int .i64 0, .int .i64 0, .int .i64 0], .int .i64 0, .int .i64 0] 8 (World.laidAll_os _ _ _)
      (World.shaped_of_ZipB (by kernel_rfl) (by kernel_rfl)) (by kernel_rfl) (by kernel_rfl) (by kernel_rfl)
      (by rw [MakeChecks.laidMetH_plain _ _ _ (by kernel_rfl)]; exact laidMet_laidAll _ (by kernel_rfl) (by kernel_rfl))) ?_
  intro W base args ds gs before hval0 hW _ _ hL _
  have hval : ∀ (j : Nat) t v, Tryz.f3.params[j]? = some t → args[j]? = some v → Value.okWide Tryz.prog W .any base t v := hval0
  have hW' := hW
  obtain ⟨p, q, hA0, hV, rfl, _, _⟩ := hW
  have hA : DataW.TrodAll enc Tryz.prog W 0 (fun _ => true) true Tryz.f3.params.toList args.toList ds p := hA0
  rw [Tryz.params3] at hA hval
  obtain ⟨v0, v1, v2, v3, d0, d1, d2, d3, p0, p1, p2, p3, rfl, rfl, rfl, h0, h1, h2, h3⟩ := trodAll_four hA
  obtain ⟨rfl, rfl⟩ := trodVars_none hV
  obtain ⟨x, rfl, rfl, rfl, wx⟩ := open_int Tryz.underlying3 (hval 0 3 v0 rfl rfl) h0
  obtain ⟨y, m, d, h, i, s, rfl⟩ := open_six_ints Tryz.underlying23 (by kernel_rfl) (by kernel_rfl) Tryz.underlying3 (hval 1 23 v1 rfl rfl)
  obtain ⟨yr, rfl, rfl, rfl, wy⟩ := open_int Tryz.underlying3 (hval 2 3 v2 rfl rfl) h2
  obtain ⟨mo, rfl, rfl, rfl, wm⟩ := open_int Tryz.underlying3 (hval 3 3 v3 rfl rfl) h3
  have lt1 : ∀ x ∈ p1, x.block < W.heap.size := fun x hx => hW'.lt x (by simp [hx])
  have hP := pow_of hL (by kernel_rfl) (List.mem_of_getElem? (i := 2) rfl)
  refine (datesLaw_any x y m d h i s yr mo W hP).mono fun e W' ⟨he, hb⟩ => ?_
  subst he
  exact ⟨_, rfl, _, _, _, [], _, [], hW', trodAll_mk1 (shut_bool Tryz.underlying4 _), trodAll_mk4 (shut_int Tryz.underlying3 wx) (Below.trod Tryz.laidOut (by kernel_rfl) (of_decide_eq_true (by kernel_rfl)) h1 hb lt1) (shut_int Tryz.underlying3 wy) (shut_int Tryz.underlying3 wm), rfl, hb.frame _, fun h => by cases h⟩

theorem dates_holds : Rows.ClockDatesSaid :=
  OpenClaim.holds_of_wide 3 Tryz.f3 rfl rfl rfl rfl rfl rfl rfl ⟨rfl, rfl, rfl, rfl, rfl⟩ rfl rfl rfl rfl rfl (by kernel_rfl) Tryz.func3 (by kernel_rfl)
    (of_decide_eq_true (by kernel_rfl)) (by unfold Func.isWrapper; first | (rw [if_pos (by decide +kernel)]; kernel_rfl) | (rw [if_neg (by decide +kernel)]; exact ⟨rfl, rfl⟩))
    (fun os started H enc _ => dates_lifted os started H enc)

theorem dates_card : Rows.ClockDatesCardSaid :=
  Claim7.holds_tied_plain_at .later [] [.data, .data, .data, .data, .data, .data, .pinned, .pinned] true (true, "8862a9faaf792f4417fbf3e0920ddd10e136778f868b1ac93b8601be7bf6cf68") false
    dates_holds (fun _ h => by cases h) (by kernel_rfl) (fun _ h => by cases h) clockDates_row_tie rfl ⟨rfl, rfl⟩ (by kernel_rfl) rfl
    (fun f fn hf hfn => by
      obtain rfl : f = 3 := Option.some.inj ((show Tryz.prog.funcNamed "threadbare/threadbarelaw11.ClockDates" = some 3 by kernel_rfl).symm.trans hf) |>.symm
      obtain rfl : fn = Tryz.f3 := (Option.some.inj (Tryz.func3.symm.trans hfn)).symm
      exact ⟨by kernel_rfl, fun j t ht => by
        rw [Tryz.params3] at ht
        have hm : t ∈ [3, 23, 3, 3] := by simpa using Array.mem_of_getElem? ht
        have hall : ([3, 23, 3, 3].all fun u => !Tryz.prog.wantsStandIn u) = true := by kernel_rfl
        exact (show Tryz.prog.wantsStandIn t = false by simpa using List.all_eq_true.1 hall t hm)⟩)
    (by kernel_rfl)
end Go.Proofs.YtcgabonoddloiaaGreatDoor
