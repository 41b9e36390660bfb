/- ClockWrites answers true, for every time and form. -/
import Derived.Test.YtcgabonoddloiaaGreatDoorWrRefWrite
import Derived.Test.YtcgabonoddloiaaGreatDoorAwake
namespace Go.Proofs.YtcgabonoddloiaaGreatDoor
open Go.RowKit Clk Wr

theorem Wr.piecesOf_let : ∀ (n : Nat) (l : List UInt8), l.length ≤ n → ∀ ps, Wr.piecesOf true l = some ps → ∀ c, Wr.Pc.part c ∈ ps → Wr.isLet c = true
  | 0, [], _, ps, h => by cases h; intro c hc; cases hc
  | 0, _ :: _, hl, _, _ => by simp at hl
  | n + 1, [], _, ps, h => by cases h; intro c hc; cases hc
  | n + 1, [c], _, ps, h => by
    unfold Wr.piecesOf at h
    split at h
    · cases h
    · cases h; intro c hc; simp at hc
  | n + 1, c :: d :: r, hl, ps, h => by
    have k1 : r.length ≤ n := by simp at hl; omega
    have k2 : (d :: r).length ≤ n := by simp at hl ⊢; omega
    have go : ∀ (new : List Wr.Pc), (∀ c, Wr.Pc.part c ∈ new → Wr.isLet c = true) → ∀ ps, (Wr.piecesOf true r).map (new ++ ·) = some ps → ∀ c, Wr.Pc.part c ∈ ps → Wr.isLet c = true := fun new hn ps hm c hc => by
      obtain ⟨qs, hq, rfl⟩ := Option.map_eq_some_iff.1 hm
      rcases List.mem_append.1 hc with hc | hc
      · exact hn c hc
      · exact Wr.piecesOf_let n r k1 qs hq c hc
    unfold Wr.piecesOf at h
    split at h
    · split at h
      · rename_i hd
        exact go [.part d] (fun c hc => by simp at hc; subst hc; exact hd) ps h
      · split at h
        · exact go [.plain 37] (fun c hc => by simp at hc) ps h
        · split at h
          · exact go Wr.dPcs (fun c hc => by simp [Wr.dPcs] at hc; rcases hc with rfl | rfl | rfl <;> decide) ps h
          · split at h
            · exact go Wr.tPcs (fun c hc => by simp [Wr.tPcs] at hc; rcases hc with rfl | rfl | rfl <;> decide) ps h
            · cases h
    · obtain ⟨qs, hq, rfl⟩ := Option.map_eq_some_iff.1 h
      intro c hc
      simp at hc
      exact Wr.piecesOf_let n (d :: r) k2 qs hq c hc

/-- Write of both. -/
theorem write_both (t : Int) (form : ByteArray) (hf : form.size ≤ 200) : ∃ (X : ByteArray) (E : Int), (∀ w, Pow w.heap.size w → Calls Tryz.prog 32 #[.int .i64 t, .string form] w fun e w' => e = .returned (.tuple #[.string X, .int .i64 E]) ∧ Below w.heap.size w w') ∧
    (∀ w, Pow w.heap.size w → Calls Tryz.prog 33 #[.int .i64 t, .string form] w fun e w' => e = .returned (.tuple #[.string X, .int .i64 E]) ∧ Below w.heap.size w w') := by
  cases ht : isT t with
  | false => exact ⟨_, 7, fun w _ => Wr.write_no t form w ht, fun w _ => Wr.refWrite_no t form w ht⟩
  | true =>
    cases hp : Wr.piecesOf true form.data.toList with
    | none => exact ⟨_, 2, fun w _ => Wr.write_bad t form w ht hf hp, fun w hP => Wr.refWrite_bad t form w ht hf hp hP⟩
    | some ps =>
      refine ⟨_, 0, fun w hP => ?_, fun w hP => Wr.refWrite_ok t form ps w ht hf hp (Wr.piecesOf_let _ _ (Nat.le_refl _) ps hp) hP⟩
      cases ps with
      | nil => exact Wr.write_nil t form w ht hf hp hP
      | cons p ps => exact Wr.write_pos t form (p :: ps) w ht hf hp (by simp) hP

set_option maxRecDepth 100000 in
set_option maxHeartbeats 3200000 in
theorem writesLaw_any (t : Int) (form : ByteArray) (w : World) (hP : Pow w.heap.size w) :
    Calls Tryz.prog 6 #[.int .i64 t, .string form] w fun e w' => e = .returned (.bool true) ∧ Below w.heap.size w w' := by
  have HP := Lib.hid hP
  by_cases hlen : 200 < form.size
  · clear hP
    go_enter Tryz.func6, Tryz.ntmps6
    go_wp2_with fail
    refine (awake_any _ HP.out).mono ?_
    rintro e w2 ⟨rfl, hb2⟩
    go_wp2
    go_ret
    exact ⟨rfl, hb2⟩
  · obtain ⟨X, E, a1, a2⟩ := write_both t form (by omega)
    have H1 := Lib.hid a1
    have H2 := Lib.hid a2
    clear a1 a2 hP
    go_enter Tryz.func6, Tryz.ntmps6
    go_wp2_with fail
    refine (H1.out _ HP.out).mono ?_
    rintro e w1 ⟨rfl, hb1⟩
    have B1 := Lib.hid hb1
    clear hb1
    go_wp2_with fail
    refine (H2.out _ (Pow.at HP.out B1.out B1.out.size)).mono ?_
    rintro e w2 ⟨rfl, hb2⟩
    have B2 := Lib.hid (B1.out.trans (hb2.mono B1.out.size))
    clear hb2
    go_wp2_with fail
    refine (awake_any _ (Pow.at HP.out B2.out B2.out.size)).mono ?_
    rintro e w3 ⟨rfl, hb3⟩
    go_wp2
    go_ret
    exact ⟨rfl, B2.out.trans (hb3.mono B2.out.size)⟩
end Go.Proofs.YtcgabonoddloiaaGreatDoor
