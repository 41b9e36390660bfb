/- letters of the program: a map with all letters, in whatever order it is made. -/
import Derived.Test.YtcgabonoddloiaaGreatDoorLet1
import Derived.Deep.RegionWith
namespace Go.Proofs.YtcgabonoddloiaaGreatDoor
open Go.RowKit Clk Go.ChangeMaps

theorem cases46 {i : Nat} (h : i < 46) : i = 0 ∨ i = 1 ∨ i = 2 ∨ i = 3 ∨ i = 4 ∨ i = 5 ∨ i = 6 ∨ i = 7 ∨ i = 8 ∨ i = 9 ∨ i = 10 ∨ i = 11 ∨ i = 12 ∨ i = 13 ∨ i = 14 ∨ i = 15 ∨ i = 16 ∨ i = 17 ∨ i = 18 ∨ i = 19 ∨ i = 20 ∨ i = 21 ∨ i = 22 ∨ i = 23 ∨ i = 24 ∨ i = 25 ∨ i = 26 ∨ i = 27 ∨ i = 28 ∨ i = 29 ∨ i = 30 ∨ i = 31 ∨ i = 32 ∨ i = 33 ∨ i = 34 ∨ i = 35 ∨ i = 36 ∨ i = 37 ∨ i = 38 ∨ i = 39 ∨ i = 40 ∨ i = 41 ∨ i = 42 ∨ i = 43 ∨ i = 44 ∨ i = 45 := by omega

set_option maxRecDepth 100000 in
set_option maxHeartbeats 16000000 in
theorem letters_any (w : World) : Calls Tryz.prog 72 #[] w fun e w' => ∃ M es ck, e = .returned (.map (some M)) ∧ HasM w' M es ck ∧ Below w.heap.size w w' ∧ (∀ x ∈ parts, ∃ v, Got es x.2.2.2.2 v ∧ PartIs w.heap.size w'.heap.size v w' x.2.2.1 x.2.2.2.1) ∧ (∀ c, (∀ x ∈ keys, x.2 ≠ c) → Lacks es c) ∧ w.heap.size ≤ M := by
  go_enter Tryz.func72, Tryz.ntmps72
  go_wp2_with fail
  refine wp_region_inv (Inv := fun listed a w' => ∃ v0 u, a = { tmps := #[v0, .pointer (some ⟨w.heap.size, 0, none⟩), .func (.func 79) #[] #[], u 3, u 4, u 5, u 6, u 7, u 8, u 9, u 10, u 11, u 12, u 13, u 14, u 15, u 16, u 17, u 18, u 19, u 20, u 21, u 22, u 23, u 24, u 25, u 26, u 27, u 28], defers := [] } ∧ Facts w.heap.size w.heap.size w (fun j => listed.getD j false) v0 u w') (by kernel_rfl) (ord_of (by kernel_rfl)) ?h0 ?step ?fin
  case h0 =>
    refine ⟨_, fun _ => undef, rfl, ?_⟩
    have hz : ∀ j : Nat, (Array.replicate 46 false).getD j false = false := fun j => by simp [Array.getD_eq_getD_getElem?, Array.getElem?_replicate]; split <;> rfl
    refine ⟨?_, by simp, by simp, by simp [go_sem], fun x _ h => ?_, fun x _ h => ?_, fun h => ?_, fun x _ h => ?_, fun h => ?_, fun h => ?_⟩
    · exact ((Below.refl _ _).alloc (Nat.le_refl _) _).drew
    all_goals exact absurd ((hz _).symm.trans h) (by simp)
  case fin =>
    rintro listed a w' ⟨v0, u, rfl, F⟩ hall
    obtain ⟨e1, h44⟩ := F.end2 (hall 45 (by decide))
    obtain ⟨e2, h0⟩ := F.end1 h44
    obtain ⟨M, es, ck, eM, hM, hB, hk, hp, hq⟩ := F.map h0
    have e3 : v0 = .map (some M) := e1.trans (e2.trans eM)
    subst e3
    have hP : ∀ x ∈ parts, ∃ v, Got es x.2.2.2.2 v ∧ PartIs w.heap.size w'.heap.size v w' x.2.2.1 x.2.2.2.1 := fun x hx => hp x hx (hall _ ((by decide : ∀ x ∈ parts, x.1 + 1 < 46) x hx))
    have hB2 := F.below
    have HM := Lib.hid (And.intro hM (And.intro hB2 (And.intro hP (And.intro hq hB))))
    clear hp hk eM e1 e2 h0 h44 hall F hM hB2 hP hq hB
    go_wp2
    go_ret
    exact ⟨M, es, ck, rfl, HM.out⟩
  case step =>
    rintro listed a w' i ⟨v0, u, rfl, F⟩ hi hn hd
    rcases cases46 hi with rfl | rfl | rfl | rfl | rfl | rfl | rfl | rfl | rfl | rfl | rfl | rfl | rfl | rfl | rfl | rfl | rfl | rfl | rfl | rfl | rfl | rfl | rfl | rfl | rfl | rfl | rfl | rfl | rfl | rfl | rfl | rfl | rfl | rfl | rfl | rfl | rfl | rfl | rfl | rfl | rfl | rfl | rfl | rfl | rfl | rfl
    · refine wpOp_by rfl rfl (fun K hK => ?_)
      go_simp
      exact hK _ _ ⟨v0, upd u 3 _, rfl, F.make (fun _ h => set_true h) (fun _ h => (set_false hn h).1) (false_of hn)⟩
    · refine wpOp_by rfl rfl (fun K hK => ?_)
      go_simp
      refine (part_any _ _ _).mono ?_
      rintro e w1 ⟨v, rfl, hp, hb⟩
      exact hK _ _ ⟨v0, upd u 4 v, rfl, (F.to hb).set 1 4 v (fun _ h => set_true h) (fun _ h => (set_false hn h).1) (by decide) (by decide) (by decide) (by decide) (by decide) (by decide) (by decide) (by decide) (by decide) (by decide) (by decide) (part_only _ _ _ (hp.wide F.size (Nat.le_refl _) (Nat.le_refl _)) (by decide)) (known_none _ (by decide))⟩
    · obtain ⟨M, es, ck, eM, hM, hB, hk, hp, hq⟩ := F.map (hd _ rfl ⟨0, .data⟩ (by simp) rfl)
      have hput := map_put (P := Tryz.prog) (xT := 85) Tryz.underlying85 Tryz.underlying5 (key := .int .u8 89) rfl hM (hk (2, 89) (by decide) (false_of hn)) (u 4)
      have hlc := hd _ rfl ⟨1, .data⟩ (by simp) rfl
      refine wpOp_by rfl rfl (fun K hK => ?_)
      go_simp
      exact hK _ _ ⟨v0, u, by rw [eM], F.ins 2 89 (u 4) (fun _ h => set_true h) (fun _ h => set_false hn h) (hd _ rfl ⟨0, .data⟩ (by simp) rfl) (false_of hn) (by decide) eM hM (by decide) (by decide) (by decide) (by intro x hx hj; simp only [parts, List.mem_cons, List.mem_nil_iff, or_false] at hx; rcases hx with rfl | rfl | rfl | rfl | rfl | rfl | rfl | rfl <;> first | exact ⟨rfl, hlc⟩ | cases hj)⟩
    · refine wpOp_by rfl rfl (fun K hK => ?_)
      go_simp
      refine (part_any _ _ _).mono ?_
      rintro e w1 ⟨v, rfl, hp, hb⟩
      exact hK _ _ ⟨v0, upd u 5 v, rfl, (F.to hb).set 3 5 v (fun _ h => set_true h) (fun _ h => (set_false hn h).1) (by decide) (by decide) (by decide) (by decide) (by decide) (by decide) (by decide) (by decide) (by decide) (by decide) (by decide) (part_only _ _ _ (hp.wide F.size (Nat.le_refl _) (Nat.le_refl _)) (by decide)) (known_none _ (by decide))⟩
    · obtain ⟨M, es, ck, eM, hM, hB, hk, hp, hq⟩ := F.map (hd _ rfl ⟨0, .data⟩ (by simp) rfl)
      have hput := map_put (P := Tryz.prog) (xT := 85) Tryz.underlying85 Tryz.underlying5 (key := .int .u8 121) rfl hM (hk (4, 121) (by decide) (false_of hn)) (u 5)
      have hlc := hd _ rfl ⟨3, .data⟩ (by simp) rfl
      refine wpOp_by rfl rfl (fun K hK => ?_)
      go_simp
      exact hK _ _ ⟨v0, u, by rw [eM], F.ins 4 121 (u 5) (fun _ h => set_true h) (fun _ h => set_false hn h) (hd _ rfl ⟨0, .data⟩ (by simp) rfl) (false_of hn) (by decide) eM hM (by decide) (by decide) (by decide) (by intro x hx hj; simp only [parts, List.mem_cons, List.mem_nil_iff, or_false] at hx; rcases hx with rfl | rfl | rfl | rfl | rfl | rfl | rfl | rfl <;> first | exact ⟨rfl, hlc⟩ | cases hj)⟩
    · refine wpOp_by rfl rfl (fun K hK => ?_)
      go_simp
      refine (part_any _ _ _).mono ?_
      rintro e w1 ⟨v, rfl, hp, hb⟩
      exact hK _ _ ⟨v0, upd u 6 v, rfl, (F.to hb).set 5 6 v (fun _ h => set_true h) (fun _ h => (set_false hn h).1) (by decide) (by decide) (by decide) (by decide) (by decide) (by decide) (by decide) (by decide) (by decide) (by decide) (by decide) (part_only _ _ _ (hp.wide F.size (Nat.le_refl _) (Nat.le_refl _)) (by decide)) (known_none _ (by decide))⟩
    · obtain ⟨M, es, ck, eM, hM, hB, hk, hp, hq⟩ := F.map (hd _ rfl ⟨0, .data⟩ (by simp) rfl)
      have hput := map_put (P := Tryz.prog) (xT := 85) Tryz.underlying85 Tryz.underlying5 (key := .int .u8 109) rfl hM (hk (6, 109) (by decide) (false_of hn)) (u 6)
      have hlc := hd _ rfl ⟨5, .data⟩ (by simp) rfl
      refine wpOp_by rfl rfl (fun K hK => ?_)
      go_simp
      exact hK _ _ ⟨v0, u, by rw [eM], F.ins 6 109 (u 6) (fun _ h => set_true h) (fun _ h => set_false hn h) (hd _ rfl ⟨0, .data⟩ (by simp) rfl) (false_of hn) (by decide) eM hM (by decide) (by decide) (by decide) (by intro x hx hj; simp only [parts, List.mem_cons, List.mem_nil_iff, or_false] at hx; rcases hx with rfl | rfl | rfl | rfl | rfl | rfl | rfl | rfl <;> first | exact ⟨rfl, hlc⟩ | cases hj)⟩
    · refine wpOp_by rfl rfl (fun K hK => ?_)
      go_simp
      refine (part_any _ _ _).mono ?_
      rintro e w1 ⟨v, rfl, hp, hb⟩
      exact hK _ _ ⟨v0, upd u 7 v, rfl, (F.to hb).set 7 7 v (fun _ h => set_true h) (fun _ h => (set_false hn h).1) (by decide) (by decide) (by decide) (by decide) (by decide) (by decide) (by decide) (by decide) (by decide) (by decide) (by decide) (part_only _ _ _ (hp.wide F.size (Nat.le_refl _) (Nat.le_refl _)) (by decide)) (known_none _ (by decide))⟩
    · obtain ⟨M, es, ck, eM, hM, hB, hk, hp, hq⟩ := F.map (hd _ rfl ⟨0, .data⟩ (by simp) rfl)
      have hput := map_put (P := Tryz.prog) (xT := 85) Tryz.underlying85 Tryz.underlying5 (key := .int .u8 100) rfl hM (hk (8, 100) (by decide) (false_of hn)) (u 7)
      have hlc := hd _ rfl ⟨7, .data⟩ (by simp) rfl
      refine wpOp_by rfl rfl (fun K hK => ?_)
      go_simp
      exact hK _ _ ⟨v0, u, by rw [eM], F.ins 8 100 (u 7) (fun _ h => set_true h) (fun _ h => set_false hn h) (hd _ rfl ⟨0, .data⟩ (by simp) rfl) (false_of hn) (by decide) eM hM (by decide) (by decide) (by decide) (by intro x hx hj; simp only [parts, List.mem_cons, List.mem_nil_iff, or_false] at hx; rcases hx with rfl | rfl | rfl | rfl | rfl | rfl | rfl | rfl <;> first | exact ⟨rfl, hlc⟩ | cases hj)⟩
    · refine wpOp_by rfl rfl (fun K hK => ?_)
      go_simp
      refine (part_any _ _ _).mono ?_
      rintro e w1 ⟨v, rfl, hp, hb⟩
      exact hK _ _ ⟨v0, upd u 8 v, rfl, (F.to hb).set 9 8 v (fun _ h => set_true h) (fun _ h => (set_false hn h).1) (by decide) (by decide) (by decide) (by decide) (by decide) (by decide) (by decide) (by decide) (by decide) (by decide) (by decide) (part_only _ _ _ (hp.wide F.size (Nat.le_refl _) (Nat.le_refl _)) (by decide)) (known_none _ (by decide))⟩
    · obtain ⟨M, es, ck, eM, hM, hB, hk, hp, hq⟩ := F.map (hd _ rfl ⟨0, .data⟩ (by simp) rfl)
      have hput := map_put (P := Tryz.prog) (xT := 85) Tryz.underlying85 Tryz.underlying5 (key := .int .u8 72) rfl hM (hk (10, 72) (by decide) (false_of hn)) (u 8)
      have hlc := hd _ rfl ⟨9, .data⟩ (by simp) rfl
      refine wpOp_by rfl rfl (fun K hK => ?_)
      go_simp
      exact hK _ _ ⟨v0, u, by rw [eM], F.ins 10 72 (u 8) (fun _ h => set_true h) (fun _ h => set_false hn h) (hd _ rfl ⟨0, .data⟩ (by simp) rfl) (false_of hn) (by decide) eM hM (by decide) (by decide) (by decide) (by intro x hx hj; simp only [parts, List.mem_cons, List.mem_nil_iff, or_false] at hx; rcases hx with rfl | rfl | rfl | rfl | rfl | rfl | rfl | rfl <;> first | exact ⟨rfl, hlc⟩ | cases hj)⟩
    · refine wpOp_by rfl rfl (fun K hK => ?_)
      go_simp
      refine (part_any _ _ _).mono ?_
      rintro e w1 ⟨v, rfl, hp, hb⟩
      exact hK _ _ ⟨v0, upd u 9 v, rfl, (F.to hb).set 11 9 v (fun _ h => set_true h) (fun _ h => (set_false hn h).1) (by decide) (by decide) (by decide) (by decide) (by decide) (by decide) (by decide) (by decide) (by decide) (by decide) (by decide) (part_only _ _ _ (hp.wide F.size (Nat.le_refl _) (Nat.le_refl _)) (by decide)) (known_none _ (by decide))⟩
    · obtain ⟨M, es, ck, eM, hM, hB, hk, hp, hq⟩ := F.map (hd _ rfl ⟨0, .data⟩ (by simp) rfl)
      have hput := map_put (P := Tryz.prog) (xT := 85) Tryz.underlying85 Tryz.underlying5 (key := .int .u8 77) rfl hM (hk (12, 77) (by decide) (false_of hn)) (u 9)
      have hlc := hd _ rfl ⟨11, .data⟩ (by simp) rfl
      refine wpOp_by rfl rfl (fun K hK => ?_)
      go_simp
      exact hK _ _ ⟨v0, u, by rw [eM], F.ins 12 77 (u 9) (fun _ h => set_true h) (fun _ h => set_false hn h) (hd _ rfl ⟨0, .data⟩ (by simp) rfl) (false_of hn) (by decide) eM hM (by decide) (by decide) (by decide) (by intro x hx hj; simp only [parts, List.mem_cons, List.mem_nil_iff, or_false] at hx; rcases hx with rfl | rfl | rfl | rfl | rfl | rfl | rfl | rfl <;> first | exact ⟨rfl, hlc⟩ | cases hj)⟩
    · refine wpOp_by rfl rfl (fun K hK => ?_)
      go_simp
      refine (part_any _ _ _).mono ?_
      rintro e w1 ⟨v, rfl, hp, hb⟩
      exact hK _ _ ⟨v0, upd u 10 v, rfl, (F.to hb).set 13 10 v (fun _ h => set_true h) (fun _ h => (set_false hn h).1) (by decide) (by decide) (by decide) (by decide) (by decide) (by decide) (by decide) (by decide) (by decide) (by decide) (by decide) (part_only _ _ _ (hp.wide F.size (Nat.le_refl _) (Nat.le_refl _)) (by decide)) (known_none _ (by decide))⟩
    · obtain ⟨M, es, ck, eM, hM, hB, hk, hp, hq⟩ := F.map (hd _ rfl ⟨0, .data⟩ (by simp) rfl)
      have hput := map_put (P := Tryz.prog) (xT := 85) Tryz.underlying85 Tryz.underlying5 (key := .int .u8 83) rfl hM (hk (14, 83) (by decide) (false_of hn)) (u 10)
      have hlc := hd _ rfl ⟨13, .data⟩ (by simp) rfl
      refine wpOp_by rfl rfl (fun K hK => ?_)
      go_simp
      exact hK _ _ ⟨v0, u, by rw [eM], F.ins 14 83 (u 10) (fun _ h => set_true h) (fun _ h => set_false hn h) (hd _ rfl ⟨0, .data⟩ (by simp) rfl) (false_of hn) (by decide) eM hM (by decide) (by decide) (by decide) (by intro x hx hj; simp only [parts, List.mem_cons, List.mem_nil_iff, or_false] at hx; rcases hx with rfl | rfl | rfl | rfl | rfl | rfl | rfl | rfl <;> first | exact ⟨rfl, hlc⟩ | cases hj)⟩
    · refine wpOp_by rfl rfl (fun K hK => ?_)
      go_simp
      refine (part_any _ _ _).mono ?_
      rintro e w1 ⟨v, rfl, hp, hb⟩
      exact hK _ _ ⟨v0, upd u 11 v, rfl, (F.to hb).set 15 11 v (fun _ h => set_true h) (fun _ h => (set_false hn h).1) (by decide) (by decide) (by decide) (by decide) (by decide) (by decide) (by decide) (by decide) (by decide) (by decide) (by decide) (part_only _ _ _ (hp.wide F.size (Nat.le_refl _) (Nat.le_refl _)) (by decide)) (known_none _ (by decide))⟩
    · obtain ⟨M, es, ck, eM, hM, hB, hk, hp, hq⟩ := F.map (hd _ rfl ⟨0, .data⟩ (by simp) rfl)
      have hput := map_put (P := Tryz.prog) (xT := 85) Tryz.underlying85 Tryz.underlying5 (key := .int .u8 73) rfl hM (hk (16, 73) (by decide) (false_of hn)) (u 11)
      have hlc := hd _ rfl ⟨15, .data⟩ (by simp) rfl
      refine wpOp_by rfl rfl (fun K hK => ?_)
      go_simp
      exact hK _ _ ⟨v0, u, by rw [eM], F.ins 16 73 (u 11) (fun _ h => set_true h) (fun _ h => set_false hn h) (hd _ rfl ⟨0, .data⟩ (by simp) rfl) (false_of hn) (by decide) eM hM (by decide) (by decide) (by decide) (by intro x hx hj; simp only [parts, List.mem_cons, List.mem_nil_iff, or_false] at hx; rcases hx with rfl | rfl | rfl | rfl | rfl | rfl | rfl | rfl <;> first | exact ⟨rfl, hlc⟩ | cases hj)⟩
    · refine wpOp_by rfl rfl (fun K hK => ?_)
      go_simp
      refine (two_of_number _ _ _ _ _).mono ?_
      rintro e w1 ⟨⟨v, rfl⟩, hb⟩
      exact hK _ _ ⟨v0, upd u 12 v, rfl, (F.to hb).set 17 12 v (fun _ h => set_true h) (fun _ h => (set_false hn h).1) (by decide) (by decide) (by decide) (by decide) (by decide) (by decide) (by decide) (by decide) (by decide) (by decide) (by decide) (part_none _ (by decide)) (known_none _ (by decide))⟩
    · obtain ⟨M, es, ck, eM, hM, hB, hk, hp, hq⟩ := F.map (hd _ rfl ⟨0, .data⟩ (by simp) rfl)
      have hput := map_put (P := Tryz.prog) (xT := 85) Tryz.underlying85 Tryz.underlying5 (key := .int .u8 106) rfl hM (hk (18, 106) (by decide) (false_of hn)) (u 12)
      have hlc := hd _ rfl ⟨17, .data⟩ (by simp) rfl
      refine wpOp_by rfl rfl (fun K hK => ?_)
      go_simp
      exact hK _ _ ⟨v0, u, by rw [eM], F.ins 18 106 (u 12) (fun _ h => set_true h) (fun _ h => set_false hn h) (hd _ rfl ⟨0, .data⟩ (by simp) rfl) (false_of hn) (by decide) eM hM (by decide) (by decide) (by decide) (fun x hx hj => absurd hj ((by decide : ∀ x ∈ parts, x.1 + 1 ≠ 18) x hx))⟩
    · have hcell := F.cell
      refine wpOp_by rfl rfl (fun K hK => ?_)
      go_simp
      exact hK _ _ ⟨v0, upd u 13 _, rfl, F.set 19 13 _ (fun _ h => set_true h) (fun _ h => (set_false hn h).1) (by decide) (by decide) (by decide) (by decide) (by decide) (by decide) (by decide) (by decide) (by decide) (by decide) (by decide) (part_none _ (by decide)) (by intro x hx hj; simp only [known, List.mem_cons, List.mem_nil_iff, or_false] at hx; rcases hx with rfl | rfl | rfl | rfl | rfl <;> first | rfl | cases hj)⟩
    · have k13 : u 13 = .func (.func 78) #[] #[] := F.know _ (.head _) (hd _ rfl ⟨19, .data⟩ (by simp) rfl)
      refine wpOp_by rfl rfl (fun K hK => ?_)
      go_simp
      refine (two_of_number _ _ _ _ _).mono ?_
      rintro e w1 ⟨⟨v, rfl⟩, hb⟩
      exact hK _ _ ⟨v0, upd u 14 v, by simp [upd, k13], (F.to hb).set 20 14 v (fun _ h => set_true h) (fun _ h => (set_false hn h).1) (by decide) (by decide) (by decide) (by decide) (by decide) (by decide) (by decide) (by decide) (by decide) (by decide) (by decide) (part_none _ (by decide)) (known_none _ (by decide))⟩
    · obtain ⟨M, es, ck, eM, hM, hB, hk, hp, hq⟩ := F.map (hd _ rfl ⟨0, .data⟩ (by simp) rfl)
      have hput := map_put (P := Tryz.prog) (xT := 85) Tryz.underlying85 Tryz.underlying5 (key := .int .u8 117) rfl hM (hk (21, 117) (by decide) (false_of hn)) (u 14)
      have hlc := hd _ rfl ⟨20, .data⟩ (by simp) rfl
      refine wpOp_by rfl rfl (fun K hK => ?_)
      go_simp
      exact hK _ _ ⟨v0, u, by rw [eM], F.ins 21 117 (u 14) (fun _ h => set_true h) (fun _ h => set_false hn h) (hd _ rfl ⟨0, .data⟩ (by simp) rfl) (false_of hn) (by decide) eM hM (by decide) (by decide) (by decide) (fun x hx hj => absurd hj ((by decide : ∀ x ∈ parts, x.1 + 1 ≠ 21) x hx))⟩
    · refine wpOp_by rfl rfl (fun K hK => ?_)
      go_simp
      refine (two_of_number _ _ _ _ _).mono ?_
      rintro e w1 ⟨⟨v, rfl⟩, hb⟩
      exact hK _ _ ⟨v0, upd u 15 v, rfl, (F.to hb).set 22 15 v (fun _ h => set_true h) (fun _ h => (set_false hn h).1) (by decide) (by decide) (by decide) (by decide) (by decide) (by decide) (by decide) (by decide) (by decide) (by decide) (by decide) (part_none _ (by decide)) (known_none _ (by decide))⟩
    · obtain ⟨M, es, ck, eM, hM, hB, hk, hp, hq⟩ := F.map (hd _ rfl ⟨0, .data⟩ (by simp) rfl)
      have hput := map_put (P := Tryz.prog) (xT := 85) Tryz.underlying85 Tryz.underlying5 (key := .int .u8 71) rfl hM (hk (23, 71) (by decide) (false_of hn)) (u 15)
      have hlc := hd _ rfl ⟨22, .data⟩ (by simp) rfl
      refine wpOp_by rfl rfl (fun K hK => ?_)
      go_simp
      exact hK _ _ ⟨v0, u, by rw [eM], F.ins 23 71 (u 15) (fun _ h => set_true h) (fun _ h => set_false hn h) (hd _ rfl ⟨0, .data⟩ (by simp) rfl) (false_of hn) (by decide) eM hM (by decide) (by decide) (by decide) (fun x hx hj => absurd hj ((by decide : ∀ x ∈ parts, x.1 + 1 ≠ 23) x hx))⟩
    · refine wpOp_by rfl rfl (fun K hK => ?_)
      go_simp
      refine (two_of_number _ _ _ _ _).mono ?_
      rintro e w1 ⟨⟨v, rfl⟩, hb⟩
      exact hK _ _ ⟨v0, upd u 16 v, rfl, (F.to hb).set 24 16 v (fun _ h => set_true h) (fun _ h => (set_false hn h).1) (by decide) (by decide) (by decide) (by decide) (by decide) (by decide) (by decide) (by decide) (by decide) (by decide) (by decide) (part_none _ (by decide)) (known_none _ (by decide))⟩
    · obtain ⟨M, es, ck, eM, hM, hB, hk, hp, hq⟩ := F.map (hd _ rfl ⟨0, .data⟩ (by simp) rfl)
      have hput := map_put (P := Tryz.prog) (xT := 85) Tryz.underlying85 Tryz.underlying5 (key := .int .u8 86) rfl hM (hk (25, 86) (by decide) (false_of hn)) (u 16)
      have hlc := hd _ rfl ⟨24, .data⟩ (by simp) rfl
      refine wpOp_by rfl rfl (fun K hK => ?_)
      go_simp
      exact hK _ _ ⟨v0, u, by rw [eM], F.ins 25 86 (u 16) (fun _ h => set_true h) (fun _ h => set_false hn h) (hd _ rfl ⟨0, .data⟩ (by simp) rfl) (false_of hn) (by decide) eM hM (by decide) (by decide) (by decide) (fun x hx hj => absurd hj ((by decide : ∀ x ∈ parts, x.1 + 1 ≠ 25) x hx))⟩
    · refine wpOp_by rfl rfl (fun K hK => ?_)
      go_simp
      exact hK _ _ ⟨v0, upd u 17 _, rfl, F.set 26 17 _ (fun _ h => set_true h) (fun _ h => (set_false hn h).1) (by decide) (by decide) (by decide) (by decide) (by decide) (by decide) (by decide) (by decide) (by decide) (by decide) (by decide) (part_none _ (by decide)) (known_none _ (by decide))⟩
    · obtain ⟨M, es, ck, eM, hM, hB, hk, hp, hq⟩ := F.map (hd _ rfl ⟨0, .data⟩ (by simp) rfl)
      have hput := map_put (P := Tryz.prog) (xT := 85) Tryz.underlying85 Tryz.underlying5 (key := .int .u8 101) rfl hM (hk (27, 101) (by decide) (false_of hn)) (u 17)
      have hlc := hd _ rfl ⟨26, .data⟩ (by simp) rfl
      refine wpOp_by rfl rfl (fun K hK => ?_)
      go_simp
      exact hK _ _ ⟨v0, u, by rw [eM], F.ins 27 101 (u 17) (fun _ h => set_true h) (fun _ h => set_false hn h) (hd _ rfl ⟨0, .data⟩ (by simp) rfl) (false_of hn) (by decide) eM hM (by decide) (by decide) (by decide) (fun x hx hj => absurd hj ((by decide : ∀ x ∈ parts, x.1 + 1 ≠ 27) x hx))⟩
    · refine wpOp_by rfl rfl (fun K hK => ?_)
      go_simp
      exact hK _ _ ⟨v0, upd u 18 _, rfl, F.set 28 18 _ (fun _ h => set_true h) (fun _ h => (set_false hn h).1) (by decide) (by decide) (by decide) (by decide) (by decide) (by decide) (by decide) (by decide) (by decide) (by decide) (by decide) (part_none _ (by decide)) (known_none _ (by decide))⟩
    · obtain ⟨M, es, ck, eM, hM, hB, hk, hp, hq⟩ := F.map (hd _ rfl ⟨0, .data⟩ (by simp) rfl)
      have hput := map_put (P := Tryz.prog) (xT := 85) Tryz.underlying85 Tryz.underlying5 (key := .int .u8 115) rfl hM (hk (29, 115) (by decide) (false_of hn)) (u 18)
      have hlc := hd _ rfl ⟨28, .data⟩ (by simp) rfl
      refine wpOp_by rfl rfl (fun K hK => ?_)
      go_simp
      exact hK _ _ ⟨v0, u, by rw [eM], F.ins 29 115 (u 18) (fun _ h => set_true h) (fun _ h => set_false hn h) (hd _ rfl ⟨0, .data⟩ (by simp) rfl) (false_of hn) (by decide) eM hM (by decide) (by decide) (by decide) (fun x hx hj => absurd hj ((by decide : ∀ x ∈ parts, x.1 + 1 ≠ 29) x hx))⟩
    · refine wpOp_by rfl rfl (fun K hK => ?_)
      go_simp
      refine (named_any _ _ _ _ _ _).mono ?_
      rintro e w1 ⟨⟨v, rfl⟩, hb⟩
      exact hK _ _ ⟨v0, upd u 19 v, rfl, (F.to hb).set 30 19 v (fun _ h => set_true h) (fun _ h => (set_false hn h).1) (by decide) (by decide) (by decide) (by decide) (by decide) (by decide) (by decide) (by decide) (by decide) (by decide) (by decide) (part_none _ (by decide)) (known_none _ (by decide))⟩
    · obtain ⟨M, es, ck, eM, hM, hB, hk, hp, hq⟩ := F.map (hd _ rfl ⟨0, .data⟩ (by simp) rfl)
      have hput := map_put (P := Tryz.prog) (xT := 85) Tryz.underlying85 Tryz.underlying5 (key := .int .u8 112) rfl hM (hk (31, 112) (by decide) (false_of hn)) (u 19)
      have hlc := hd _ rfl ⟨30, .data⟩ (by simp) rfl
      refine wpOp_by rfl rfl (fun K hK => ?_)
      go_simp
      exact hK _ _ ⟨v0, u, by rw [eM], F.ins 31 112 (u 19) (fun _ h => set_true h) (fun _ h => set_false hn h) (hd _ rfl ⟨0, .data⟩ (by simp) rfl) (false_of hn) (by decide) eM hM (by decide) (by decide) (by decide) (fun x hx hj => absurd hj ((by decide : ∀ x ∈ parts, x.1 + 1 ≠ 31) x hx))⟩
    · refine wpOp_by rfl rfl (fun K hK => ?_)
      go_simp
      exact hK _ _ ⟨v0, upd u 20 _, rfl, F.set 32 20 _ (fun _ h => set_true h) (fun _ h => (set_false hn h).1) (by decide) (by decide) (by decide) (by decide) (by decide) (by decide) (by decide) (by decide) (by decide) (by decide) (by decide) (part_none _ (by decide)) (by intro x hx hj; simp only [known, List.mem_cons, List.mem_nil_iff, or_false] at hx; rcases hx with rfl | rfl | rfl | rfl | rfl <;> first | rfl | cases hj)⟩
    · have k0 := F.know _ (.tail _ (.head _)) (hd _ rfl ⟨32, .data⟩ (by simp) rfl)
      have k : u 20 = .func (.func 79) #[] #[] := k0
      clear k0
      refine wpOp_by rfl rfl (fun K hK => ?_)
      go_simp
      refine (named_any _ _ _ _ _ _).mono ?_
      rintro e w1 ⟨⟨v, rfl⟩, hb⟩
      exact hK _ _ ⟨v0, upd u 21 v, by simp [upd, k], (F.to hb).set 33 21 v (fun _ h => set_true h) (fun _ h => (set_false hn h).1) (by decide) (by decide) (by decide) (by decide) (by decide) (by decide) (by decide) (by decide) (by decide) (by decide) (by decide) (part_none _ (by decide)) (known_none _ (by decide))⟩
    · obtain ⟨M, es, ck, eM, hM, hB, hk, hp, hq⟩ := F.map (hd _ rfl ⟨0, .data⟩ (by simp) rfl)
      have hput := map_put (P := Tryz.prog) (xT := 85) Tryz.underlying85 Tryz.underlying5 (key := .int .u8 66) rfl hM (hk (34, 66) (by decide) (false_of hn)) (u 21)
      have hlc := hd _ rfl ⟨33, .data⟩ (by simp) rfl
      refine wpOp_by rfl rfl (fun K hK => ?_)
      go_simp
      exact hK _ _ ⟨v0, u, by rw [eM], F.ins 34 66 (u 21) (fun _ h => set_true h) (fun _ h => set_false hn h) (hd _ rfl ⟨0, .data⟩ (by simp) rfl) (false_of hn) (by decide) eM hM (by decide) (by decide) (by decide) (fun x hx hj => absurd hj ((by decide : ∀ x ∈ parts, x.1 + 1 ≠ 34) x hx))⟩
    · refine wpOp_by rfl rfl (fun K hK => ?_)
      go_simp
      exact hK _ _ ⟨v0, upd u 22 _, rfl, F.set 35 22 _ (fun _ h => set_true h) (fun _ h => (set_false hn h).1) (by decide) (by decide) (by decide) (by decide) (by decide) (by decide) (by decide) (by decide) (by decide) (by decide) (by decide) (part_none _ (by decide)) (by intro x hx hj; simp only [known, List.mem_cons, List.mem_nil_iff, or_false] at hx; rcases hx with rfl | rfl | rfl | rfl | rfl <;> first | rfl | cases hj)⟩
    · have k0 := F.know _ (.tail _ (.tail _ (.head _))) (hd _ rfl ⟨35, .data⟩ (by simp) rfl)
      have k : u 22 = .func (.func 79) #[] #[] := k0
      clear k0
      refine wpOp_by rfl rfl (fun K hK => ?_)
      go_simp
      refine (named_any _ _ _ _ _ _).mono ?_
      rintro e w1 ⟨⟨v, rfl⟩, hb⟩
      exact hK _ _ ⟨v0, upd u 23 v, by simp [upd, k], (F.to hb).set 36 23 v (fun _ h => set_true h) (fun _ h => (set_false hn h).1) (by decide) (by decide) (by decide) (by decide) (by decide) (by decide) (by decide) (by decide) (by decide) (by decide) (by decide) (part_none _ (by decide)) (known_none _ (by decide))⟩
    · obtain ⟨M, es, ck, eM, hM, hB, hk, hp, hq⟩ := F.map (hd _ rfl ⟨0, .data⟩ (by simp) rfl)
      have hput := map_put (P := Tryz.prog) (xT := 85) Tryz.underlying85 Tryz.underlying5 (key := .int .u8 98) rfl hM (hk (37, 98) (by decide) (false_of hn)) (u 23)
      have hlc := hd _ rfl ⟨36, .data⟩ (by simp) rfl
      refine wpOp_by rfl rfl (fun K hK => ?_)
      go_simp
      exact hK _ _ ⟨v0, u, by rw [eM], F.ins 37 98 (u 23) (fun _ h => set_true h) (fun _ h => set_false hn h) (hd _ rfl ⟨0, .data⟩ (by simp) rfl) (false_of hn) (by decide) eM hM (by decide) (by decide) (by decide) (fun x hx hj => absurd hj ((by decide : ∀ x ∈ parts, x.1 + 1 ≠ 37) x hx))⟩
    · refine wpOp_by rfl rfl (fun K hK => ?_)
      go_simp
      exact hK _ _ ⟨v0, upd u 24 _, rfl, F.set 38 24 _ (fun _ h => set_true h) (fun _ h => (set_false hn h).1) (by decide) (by decide) (by decide) (by decide) (by decide) (by decide) (by decide) (by decide) (by decide) (by decide) (by decide) (part_none _ (by decide)) (by intro x hx hj; simp only [known, List.mem_cons, List.mem_nil_iff, or_false] at hx; rcases hx with rfl | rfl | rfl | rfl | rfl <;> first | rfl | cases hj)⟩
    · have k0 := F.know _ (.tail _ (.tail _ (.tail _ (.head _)))) (hd _ rfl ⟨38, .data⟩ (by simp) rfl)
      have k : u 24 = .func (.func 99) #[] #[.pointer (some ⟨w.heap.size, 0, none⟩)] := k0
      clear k0
      refine wpOp_by rfl rfl (fun K hK => ?_)
      go_simp
      refine (named_any _ _ _ _ _ _).mono ?_
      rintro e w1 ⟨⟨v, rfl⟩, hb⟩
      exact hK _ _ ⟨v0, upd u 25 v, by simp [upd, k], (F.to hb).set 39 25 v (fun _ h => set_true h) (fun _ h => (set_false hn h).1) (by decide) (by decide) (by decide) (by decide) (by decide) (by decide) (by decide) (by decide) (by decide) (by decide) (by decide) (part_none _ (by decide)) (known_none _ (by decide))⟩
    · obtain ⟨M, es, ck, eM, hM, hB, hk, hp, hq⟩ := F.map (hd _ rfl ⟨0, .data⟩ (by simp) rfl)
      have hput := map_put (P := Tryz.prog) (xT := 85) Tryz.underlying85 Tryz.underlying5 (key := .int .u8 65) rfl hM (hk (40, 65) (by decide) (false_of hn)) (u 25)
      have hlc := hd _ rfl ⟨39, .data⟩ (by simp) rfl
      refine wpOp_by rfl rfl (fun K hK => ?_)
      go_simp
      exact hK _ _ ⟨v0, u, by rw [eM], F.ins 40 65 (u 25) (fun _ h => set_true h) (fun _ h => set_false hn h) (hd _ rfl ⟨0, .data⟩ (by simp) rfl) (false_of hn) (by decide) eM hM (by decide) (by decide) (by decide) (fun x hx hj => absurd hj ((by decide : ∀ x ∈ parts, x.1 + 1 ≠ 40) x hx))⟩
    · refine wpOp_by rfl rfl (fun K hK => ?_)
      go_simp
      exact hK _ _ ⟨v0, upd u 26 _, rfl, F.set 41 26 _ (fun _ h => set_true h) (fun _ h => (set_false hn h).1) (by decide) (by decide) (by decide) (by decide) (by decide) (by decide) (by decide) (by decide) (by decide) (by decide) (by decide) (part_none _ (by decide)) (by intro x hx hj; simp only [known, List.mem_cons, List.mem_nil_iff, or_false] at hx; rcases hx with rfl | rfl | rfl | rfl | rfl <;> first | rfl | cases hj)⟩
    · have k0 := F.know _ (.tail _ (.tail _ (.tail _ (.tail _ (.head _))))) (hd _ rfl ⟨41, .data⟩ (by simp) rfl)
      have k : u 26 = .func (.func 100) #[] #[.pointer (some ⟨w.heap.size, 0, none⟩)] := k0
      clear k0
      refine wpOp_by rfl rfl (fun K hK => ?_)
      go_simp
      refine (named_any _ _ _ _ _ _).mono ?_
      rintro e w1 ⟨⟨v, rfl⟩, hb⟩
      exact hK _ _ ⟨v0, upd u 27 v, by simp [upd, k], (F.to hb).set 42 27 v (fun _ h => set_true h) (fun _ h => (set_false hn h).1) (by decide) (by decide) (by decide) (by decide) (by decide) (by decide) (by decide) (by decide) (by decide) (by decide) (by decide) (part_none _ (by decide)) (known_none _ (by decide))⟩
    · obtain ⟨M, es, ck, eM, hM, hB, hk, hp, hq⟩ := F.map (hd _ rfl ⟨0, .data⟩ (by simp) rfl)
      have hput := map_put (P := Tryz.prog) (xT := 85) Tryz.underlying85 Tryz.underlying5 (key := .int .u8 97) rfl hM (hk (43, 97) (by decide) (false_of hn)) (u 27)
      have hlc := hd _ rfl ⟨42, .data⟩ (by simp) rfl
      refine wpOp_by rfl rfl (fun K hK => ?_)
      go_simp
      exact hK _ _ ⟨v0, u, by rw [eM], F.ins 43 97 (u 27) (fun _ h => set_true h) (fun _ h => set_false hn h) (hd _ rfl ⟨0, .data⟩ (by simp) rfl) (false_of hn) (by decide) eM hM (by decide) (by decide) (by decide) (fun x hx hj => absurd hj ((by decide : ∀ x ∈ parts, x.1 + 1 ≠ 43) x hx))⟩
    · refine wpOp_by rfl rfl (fun K hK => ?_)
      go_simp
      exact hK _ _ ⟨v0, upd u 28 _, rfl, F.move (fun _ h => set_true h) (fun _ h => (set_false hn h).1) (false_of hn) (hd _ rfl ⟨0, .data⟩ (by simp) rfl)⟩
    · have h44 := hd _ rfl ⟨44, .data⟩ (by simp) rfl
      refine wpOp_by rfl rfl (fun K hK => ?_)
      go_simp
      exact hK _ _ ⟨u 28, u, rfl, F.last (fun _ h => set_true h) (fun _ h => (set_false hn h).1) h44⟩
end Go.Proofs.YtcgabonoddloiaaGreatDoor
