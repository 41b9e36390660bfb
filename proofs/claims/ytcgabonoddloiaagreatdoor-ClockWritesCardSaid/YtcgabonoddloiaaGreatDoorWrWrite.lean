/- Write of the program, of any time and form. -/
import Derived.Test.YtcgabonoddloiaaGreatDoorWrPieces
import Derived.Test.YtcgabonoddloiaaGreatDoorWrite
namespace Go.Proofs.YtcgabonoddloiaaGreatDoor.Wr
open Go.RowKit Clk Go.ChangeMaps

theorem d_say : PiecesSay dForm (some dPcs) := by
  have h : piecesOf false dForm.data.toList = some dPcs := by kernel_rfl
  have := pieces_gen false (fun h => by cases h) dForm (by decide) (.inr (by rw [h]; intro e; cases e))
  rwa [h] at this
theorem t_say : PiecesSay tForm (some tPcs) := by
  have h : piecesOf false tForm.data.toList = some tPcs := by kernel_rfl
  have := pieces_gen false (fun h => by cases h) tForm (by decide) (.inr (by rw [h]; intro e; cases e))
  rwa [h] at this
theorem pieces_any (form : ByteArray) (h : form.size ≤ 200) : PiecesSay form (piecesOf true form.data.toList) := pieces_gen true (fun _ => ⟨d_say, t_say⟩) form h (.inl rfl)

/-- The text of a piece. -/
def textPc (t : Int) : Pc → List UInt8
  | .plain c => [c]
  | .part c => letText t c.toNat
def textOf (t : Int) (ps : List Pc) : List UInt8 := (ps.map (textPc t)).flatten
theorem textOf_snoc (t : Int) (ps : List Pc) (j : Nat) (p : Pc) (hp : ps[j]? = some p) : textOf t (ps.take (j + 1)) = textOf t (ps.take j) ++ textPc t p := by
  unfold textOf
  have hj : j < ps.length := (List.getElem?_eq_some_iff.1 hp).1
  rw [List.take_succ_eq_append_getElem hj, (List.getElem?_eq_some_iff.1 hp).2]
  simp

theorem itoa_len13 (n : Int) (h0 : -999999999999 ≤ n) (h1 : n ≤ 999999999999) : (Lib.itoa n).length ≤ 13 := by
  unfold Lib.itoa
  split
  · have := dec_len 11 n.natAbs (by omega)
    simp
    omega
  · have := dec_len 11 n.toNat (by omega)
    omega
theorem getD_len (l : List (List UInt8)) (j : Nat) (m : Nat) (h : ∀ x ∈ l, x.length ≤ m) : (l.getD j []).length ≤ m := by
  rw [List.getD_eq_getElem?_getD]
  cases e : l[j]? with
  | none => simp
  | some x => exact h x (List.mem_of_getElem? e)
theorem ite_len {p : Prop} [Decidable p] {a b : List UInt8} {m : Nat} (ha : a.length ≤ m) (hb : b.length ≤ m) : (if p then a else b).length ≤ m := by split <;> assumption
theorem letText_len (t c : Int) (ht : isT t = true) : (letText t c).length ≤ 20 := by
  obtain ⟨t1, t2⟩ := isT_iff.1 ht
  obtain ⟨Y, M, D, h, i, s, A, hY, hM, hD, hh, hi, hs⟩ := at_parts t ht
  have p : ∀ n k, 0 ≤ n → n ≤ 9999 → k ≤ 4 → (padB n k).length ≤ 20 := fun n k a b d => by have := padB_len n k a b d; omega
  have m1 : ∀ j, (mNames.getD j []).length ≤ 20 := fun j => getD_len _ _ _ (by decide)
  have w1 : ∀ j, (wNames.getD j []).length ≤ 20 := fun j => getD_len _ _ _ (by decide)
  have q1 : ∀ j, (pNames.getD j []).length ≤ 20 := fun j => getD_len _ _ _ (by decide)
  have tk : ∀ l : List UInt8, (l.take 3).length ≤ 20 := fun l => by simp; omega
  have y := yday_bd (t / 86400) (by omega)
  have wy := wkY_bd (t / 86400) (by omega) (by omega)
  have wn := wkN_bd (t / 86400) (by omega)
  have it := itoa_len13 t (by omega) (by omega)
  unfold letText
  rw [A.y, A.m, A.d, A.h, A.i, A.s]
  have ie := itoa_len13 D (by omega) (by omega)
  generalize Lib.itoa D = ld at *
  generalize Lib.itoa t = lt at *
  repeat' (refine ite_len ?_ ?_)
  all_goals first
    | exact p _ _ (by omega) (by omega) (by decide)
    | exact m1 _
    | exact w1 _
    | exact q1 _
    | exact tk _
    | omega
theorem textPc_len (t : Int) (ht : isT t = true) (p : Pc) : (textPc t p).length ≤ 20 := by
  cases p with
  | plain c => simp [textPc]
  | part c => exact letText_len t _ ht
theorem textOf_len (t : Int) (ht : isT t = true) (ps : List Pc) : (textOf t ps).length ≤ 20 * ps.length := by
  induction ps with
  | nil => simp [textOf]
  | cons p ps ih =>
    have h1 := textPc_len t ht p
    unfold textOf at ih ⊢
    simp only [List.map_cons, List.flatten_cons, List.length_append, List.length_cons]
    omega
theorem piecesOf_len : ∀ (n : Nat) (l : List UInt8), l.length ≤ n → ∀ ps, piecesOf true l = some ps → ps.length ≤ 5 * l.length
  | 0, [], _, ps, h => by cases h; simp
  | 0, _ :: _, hl, _, _ => by simp at hl
  | n + 1, [], _, ps, h => by cases h; simp
  | n + 1, [c], _, ps, h => by
    unfold piecesOf at h
    split at h
    · cases h
    · cases h; simp
  | n + 1, c :: d :: r, hl, ps, h => by
    have k1 : r.length ≤ n := by simp at hl; omega
    have k2 : (d :: r).length ≤ n := by simp at hl ⊢; omega
    have go : ∀ (x : Option (List Pc)) (new : List Pc) (m : Nat), x = piecesOf true r → new.length ≤ 5 → x.map (new ++ ·) = some ps → ps.length ≤ 5 + 5 * r.length := fun x new _ hx hnw hm => by
      obtain ⟨qs, hq, rfl⟩ := Option.map_eq_some_iff.1 hm
      have := piecesOf_len n r k1 qs (hx ▸ hq)
      simp; omega
    unfold piecesOf at h
    split at h
    · split at h
      · have := go _ [.part d] 0 rfl (by simp) h; simp; omega
      · split at h
        · have := go _ [.plain 37] 0 rfl (by decide) h; simp; omega
        · split at h
          · have := go _ dPcs 0 rfl (by decide) h; simp; omega
          · split at h
            · have := go _ tPcs 0 rfl (by decide) h; simp; omega
            · cases h
    · obtain ⟨qs, hq, rfl⟩ := Option.map_eq_some_iff.1 h
      have := piecesOf_len n (d :: r) k2 qs hq
      simp at this ⊢; omega

theorem write_no (t : Int) (form : ByteArray) (w : World) (ht : isT t = false) :
    Calls Tryz.prog 32 #[.int .i64 t, .string form] w fun e w' => e = .returned (.tuple #[.string ⟨#[]⟩, .int .i64 7]) ∧ Below w.heap.size w w' := by
  go_enter Tryz.func32, Tryz.ntmps32
  go_wp2_with (first | (go_at_call 34; refine (isTime_any _ _).mono ?_; rintro e w' ⟨rfl, rfl⟩; rw [ht]))
  go_ret2
  exact ⟨rfl, Below.refl _ _⟩

theorem write_bad (t : Int) (form : ByteArray) (w : World) (ht : isT t = true) (hf : form.size ≤ 200) (hn : piecesOf true form.data.toList = none) :
    Calls Tryz.prog 32 #[.int .i64 t, .string form] w fun e w' => e = .returned (.tuple #[.string ⟨#[]⟩, .int .i64 2]) ∧ Below w.heap.size w w' := by
  have HS := Lib.hid (pieces_any form hf)
  rw [hn] at HS
  clear hn
  go_enter Tryz.func32, Tryz.ntmps32
  go_wp2_with (first | (go_at_call 34; refine (isTime_any _ _).mono ?_; rintro e w' ⟨rfl, rfl⟩; rw [ht]))
  refine (HS.out _).mono ?_
  rintro e w1 h
  rcases h with ⟨ps, v, xs, h, _⟩ | ⟨_, rfl, hb1⟩
  case inl => cases h
  go_wp2
  go_ret2
  exact ⟨rfl, hb1⟩

set_option maxRecDepth 100000 in
set_option maxHeartbeats 4000000 in
theorem write_pos (t : Int) (form : ByteArray) (ps : List Pc) (w : World) (ht : isT t = true) (hf : form.size ≤ 200) (hps : piecesOf true form.data.toList = some ps) (hl0 : 0 < ps.length) (hP : Pow w.heap.size w) :
    Calls Tryz.prog 32 #[.int .i64 t, .string form] w fun e w' => e = .returned (.tuple #[.string ⟨(textOf t ps).toArray⟩, .int .i64 0]) ∧ Below w.heap.size w w' := by
  have htb := isT_iff.1 ht
  have hl : ps.length ≤ 1000 := by have := piecesOf_len _ _ (Nat.le_refl _) ps hps; simp at this; omega
  have hsay := pieces_any form hf
  rw [hps] at hsay
  have HS := Lib.hid hsay
  have HP := Lib.hid hP
  have HTI := Lib.hid ht
  clear hsay hP hps
  go_enter Tryz.func32, Tryz.ntmps32
  go_wp2_with (first | (go_at_call 34; refine (isTime_any _ _).mono ?_; rintro e w' ⟨rfl, rfl⟩; rw [ht]))
  refine (HS.out _).mono ?_
  rintro e w1 hres
  rcases hres with ⟨ps', v, xs, hps', rfl, hb1, hown, hrows⟩ | ⟨h, _⟩
  case inr => cases h
  obtain rfl : ps = ps' := Option.some.inj hps'
  clear hps'
  obtain ⟨g, cap, rfl, hgB, hgl⟩ := hown.form hl0
  have hz1 := hb1.size
  have HO := Lib.hid (And.intro hb1 (And.intro hown hrows))
  obtain ⟨B, hB⟩ : ∃ B, w1.heap.size = B := ⟨_, rfl⟩
  rw [hB] at hgl hz1
  have HB := Lib.hid hB
  clear hb1 hown hrows hB
  have hbu : Lib.IsBuilderF 67 5 B B (Lib.byteCells (textOf t (ps.take 0))) (w1.alloc (.cells #[.pointer none, .slice none 0 0] 67)) := by
    rw [← HB.out]
    exact .inl ⟨Nat.le_refl _, _, Has.new w1 67 _, World.ownsRowF_of (World.ownsRow_nil _ _ _ _), by simp [Value.ownBlock]⟩
  have HBU := Lib.hid hbu
  clear hbu
  go_wp2_with fail
  rw [HB.out]
  go_loopg [24] ps.length (fun gh v24 wx => ∃ j : Nat, v24 = .int .i64 j ∧ j ≤ ps.length ∧ ps.length - j ≤ gh ∧ Lib.IsBuilderF 67 5 B B (Lib.byteCells (textOf t (ps.take j))) wx ∧ Below B w1 wx)
  case atStart =>
    exact ⟨0, rfl, Nat.zero_le _, by omega, HBU.out, (Below.refl _ _).alloc (by rw [HB.out]; exact Nat.le_refl _) _⟩
  case round =>
    obtain ⟨j, rfl, hj, hjg, hbu, hbx⟩ := hrel
    by_cases hlt : j < ps.length
    · obtain ⟨p, hp⟩ : ∃ p, ps[j]? = some p := ⟨ps[j], List.getElem?_eq_getElem hlt⟩
      obtain ⟨cs, hgood, hcs⟩ := HO.out.2.2.at j p hp
      have hcell : ∀ k, k < 4 → wr.cell? ⟨g, j * 4 + k, none⟩ = cs[k]? := fun k hk => by
        rw [← hcs k hk, ← HO.out.2.1.cellAt (4 * j + k) (by omega), Nat.mul_comm j 4]
        exact World.cell?_of_block (hbx.block g hgl)
      have hsn := textOf_snoc t ps j p hp
      have hBw : B ≤ wr.heap.size := by have := hbx.size; rw [HB.out] at this; exact this
      have hln : (textOf t (ps.take j)).length ≤ 20000 := by
        have := textOf_len t HTI.out (ps.take j)
        rw [List.length_take] at this
        omega
      have HSN := Lib.hid hsn
      have HBX := Lib.hid hbx
      have HBU2 := Lib.hid hbu
      cases p with
      | plain c =>
        have c0 := hcell 0 (by decide)
        have c1 := hcell 1 (by decide)
        have c2 := hcell 2 (by decide)
        have c3 := hcell 3 (by decide)
        rw [show cs = _ from hgood] at c0 c1 c2 c3
        simp only [List.getElem?_cons_zero, List.getElem?_cons_succ, Nat.add_zero] at c0 c1 c2 c3
        clear hcell hcs hsn hbx hbu hp hgood
        go_wp2_with fail
        refine (write_f B B _ _ _ (HBU2.out.alloc _) (by show _ + 1 ≤ _; simp [Lib.byteCells]; omega) (by simp; omega)).mono ?_
        rintro e w3 ⟨rfl, hat, hb3⟩
        have HAT := Lib.hid hat
        clear hat
        go_wp2_with fail
        go_roundg (gk - 1)
        case measure => omega
        case rel =>
          refine ⟨j + 1, by go_num, by omega, by omega, .inr ?_, ?_⟩
          · rw [HSN.out, show textPc t (.plain c) = [c] from rfl, bytes_snoc]
            exact HAT.out
          · exact (HBX.out.alloc hBw _).trans hb3
      | part x =>
        obtain ⟨hxp, wf, rf, lo, hi, hcse, hpart, hBlo, -⟩ := hgood
        obtain ⟨gg, cap2, rf', hag, ⟨rg, cap3, rfl⟩, hE, hcall⟩ := hpart.is
        cases hag
        have c0 := hcell 0 (by decide)
        have c1 := hcell 1 (by decide)
        have c2 := hcell 2 (by decide)
        have c3 := hcell 3 (by decide)
        rw [hcse] at c0 c1 c2 c3
        simp only [List.getElem?_cons_zero, List.getElem?_cons_succ, Nat.add_zero] at c0 c1 c2 c3
        have hmark : (((x.toNat : Nat) : Int) == 0) = false := by
          obtain ⟨y, hy, e⟩ := isLet_yes hxp
          rw [← e]
          exact (by decide : ∀ x ∈ parts, (x.2.2 == 0) = false) y hy
        have hcf : ∀ args w, (callFunc gg args).run Tryz.prog w = .ok (.enter gg args) w := hE
        have HX := Lib.hid (And.intro hpart.le hcall)
        clear hcell hcs hsn hbx hbu hp hcse hpart hxp hE hcall
        go_wp2_with fail
        obtain ⟨hle, hcall⟩ := HX.out
        rw [HB.out] at hle
        have hbx' := HBX.out.alloc hBw (.cells #[.int .u8 x.toNat, .string ⟨#[]⟩, .func (.func gg) #[] cap2, .func (.func rg) #[] cap3] 73)
        have hsz := hbx'.size
        rw [HB.out] at hsz
        refine (hcall _ (fun k h1 h2 _ => hbx'.block k (by omega)) (by omega) t w.heap.size HTI.out (HP.out.to (HO.out.1.trans (hbx'.mono hz1))) (by omega)).mono ?_
        rintro e w3 ⟨rfl, hb3⟩
        have htx : textPc t (.part x) = letText t x.toNat := rfl
        have hpl := letText_len t x.toNat HTI.out
        obtain ⟨T, hT⟩ : ∃ T, letText t x.toNat = T := ⟨_, rfl⟩
        rw [hT] at hpl htx ⊢
        have HT := Lib.hid htx
        have hsz3 := hb3.size
        have HB3 := Lib.hid (And.intro hb3 hbx')
        clear hle hcall htx hT hb3 hbx' hcf
        go_wp2_with fail
        refine (write_f B B _ _ _ (builder_below (HBU2.out.alloc _) HB3.out.1) (by show _ + T.length ≤ _; simp [Lib.byteCells]; omega) (by omega)).mono ?_
        rintro e w4 ⟨rfl, hat, hb4⟩
        have HAT := Lib.hid hat
        clear hat
        go_wp2_with fail
        go_roundg (gk - 1)
        case measure => omega
        case rel =>
          refine ⟨j + 1, by go_num, by omega, by omega, .inr ?_, ?_⟩
          · rw [HSN.out, HT.out, bytes_snoc]
            exact HAT.out
          · exact (HB3.out.2.trans (HB3.out.1.mono (by omega))).trans hb4
    · obtain rfl : j = ps.length := by omega
      have HBX := Lib.hid hbx
      have HBU2 := Lib.hid hbu
      have hBw : B ≤ wr.heap.size := by have := hbx.size; rw [HB.out] at this; exact this
      have HBW := Lib.hid hBw
      clear hbx hbu hlt hBw
      go_wp2_with fail
      refine (Tryz.Builder_String_any_f B B _ _ HBU2.out HBW.out).mono ?_
      rintro e w3 ⟨rfl, -, hb3⟩
      go_wp2
      go_ret2
      exact ⟨rfl, HO.out.1.trans ((HBX.out.trans hb3).mono hz1)⟩

theorem write_nil (t : Int) (form : ByteArray) (w : World) (ht : isT t = true) (hf : form.size ≤ 200) (hps : piecesOf true form.data.toList = some []) (_hP : Pow w.heap.size w) :
    Calls Tryz.prog 32 #[.int .i64 t, .string form] w fun e w' => e = .returned (.tuple #[.string ⟨#[]⟩, .int .i64 0]) ∧ Below w.heap.size w w' := by
  have hsay := pieces_any form hf
  rw [hps] at hsay
  have HS := Lib.hid hsay
  clear hsay hps
  go_enter Tryz.func32, Tryz.ntmps32
  go_wp2_with (first | (go_at_call 34; refine (isTime_any _ _).mono ?_; rintro e w' ⟨rfl, rfl⟩; rw [ht]))
  refine (HS.out _).mono ?_
  rintro e w1 hres
  rcases hres with ⟨ps', v, xs, hps', rfl, hb1, hown, hrows⟩ | ⟨h, _⟩
  case inr => cases h
  obtain rfl : [] = ps' := Option.some.inj hps'
  have hv : ∃ p c, v = .slice p 0 c := by
    rcases hown.2 with ⟨e, _⟩ | ⟨g2, c2, cur, e, _⟩
    · exact ⟨_, _, e⟩
    · exact ⟨_, _, e⟩
  obtain ⟨pp, cp, rfl⟩ := hv
  obtain ⟨B, hB⟩ : ∃ B, w1.heap.size = B := ⟨_, rfl⟩
  have HB := Lib.hid hB
  have HB1 := Lib.hid hb1
  have hz1 := hb1.size
  clear hown hrows hps' hB hb1
  have hbu : Lib.IsBuilderF 67 5 B B (Lib.byteCells []) (w1.alloc (.cells #[.pointer none, .slice none 0 0] 67)) := by
    rw [← HB.out]
    exact .inl ⟨Nat.le_refl _, _, Has.new w1 67 _, World.ownsRowF_of (World.ownsRow_nil _ _ _ _), by simp [Value.ownBlock]⟩
  have hsz : B ≤ (w1.alloc (.cells #[.pointer none, .slice none 0 0] 67)).heap.size := by simp; have := HB.out; omega
  have HBU := Lib.hid (And.intro hbu hsz)
  clear hbu hsz
  go_wp2_with fail
  rw [HB.out]
  go_loop [24] (fun v24 => v24 = .int .i64 0) (fun _ => 0)
  case atStart => rfl
  case round =>
    obtain rfl := hrel
    go_wp2_with fail
    refine (Tryz.Builder_String_any_f B B _ _ HBU.out.1 HBU.out.2).mono ?_
    rintro e w3 ⟨rfl, -, hb3⟩
    go_wp2
    go_ret2
    exact ⟨rfl, HB1.out.trans ((((Below.refl w1.heap.size w1).alloc (Nat.le_refl _) _).trans (HB.out ▸ hb3)).mono hz1)⟩
end Go.Proofs.YtcgabonoddloiaaGreatDoor.Wr
