/- Map at the example of the document. -/
import Derived.Test.YtneklmalkmeohaaWrite
namespace Go.Proofs.Ytneklmalkmeohaa
open Go.RowKit

/-- The memory that Map reads at the example, below its builder. -/
structure MapOk (pb kb fb gA cA gB cB b : Nat) (W : World) : Prop where
  k0 : W.cell? ⟨kb, 0, none⟩ = some (.string ⟨#[97]⟩)
  k1 : W.cell? ⟨kb, 1, none⟩ = some (.string ⟨#[98]⟩)
  p1 : W.cell? ⟨pb, 1, none⟩ = some (.string ⟨#[98]⟩)
  p3 : W.cell? ⟨pb, 3, none⟩ = some (.string ⟨#[97]⟩)
  f97 : W.cell? ⟨fb, 97, none⟩ = some (.slice (some ⟨gA, 0, none⟩) 1 cA)
  f98 : W.cell? ⟨fb, 98, none⟩ = some (.slice (some ⟨gB, 0, none⟩) 1 cB)
  a0 : W.cell? ⟨gA, 0, none⟩ = some (.int .i64 0)
  b0 : W.cell? ⟨gB, 0, none⟩ = some (.int .i64 1)
  lk : kb < b
  lp : pb < b
  lf : fb < b
  la : gA < b
  lb : gB < b
theorem MapOk.later {pb kb fb gA cA gB cB b : Nat} {W W' : World} (h : MapOk pb kb fb gA cA gB cB b W) (hb : Below b W W') : MapOk pb kb fb gA cA gB cB b W' where
  k0 := (hb.cell (p := ⟨kb, 0, none⟩) h.lk).trans h.k0
  k1 := (hb.cell (p := ⟨kb, 1, none⟩) h.lk).trans h.k1
  p1 := (hb.cell (p := ⟨pb, 1, none⟩) h.lp).trans h.p1
  p3 := (hb.cell (p := ⟨pb, 3, none⟩) h.lp).trans h.p3
  f97 := (hb.cell (p := ⟨fb, 97, none⟩) h.lf).trans h.f97
  f98 := (hb.cell (p := ⟨fb, 98, none⟩) h.lf).trans h.f98
  a0 := (hb.cell (p := ⟨gA, 0, none⟩) h.la).trans h.a0
  b0 := (hb.cell (p := ⟨gB, 0, none⟩) h.lb).trans h.b0
  lk := h.lk
  lp := h.lp
  lf := h.lf
  la := h.la
  lb := h.lb

theorem MapOk.drewN {pb kb fb gA cA gB cB b : Nat} {W : World} (h : MapOk pb kb fb gA cA gB cB b W) (n : Nat) : MapOk pb kb fb gA cA gB cB b (W.drewN n) := h.later ⟨rfl, rfl, rfl, Nat.le_refl _, fun _ _ => rfl⟩
theorem builder_drewN {b : Nat} {bs : List Value} {W : World} (h : Lib.IsBuilder 64 5 b b bs W) (n : Nat) : Lib.IsBuilder 64 5 b b bs (W.drewN n) := h
theorem below_drewN' {B : Nat} {w W : World} (h : Below B w W) (n : Nat) : Below B w (W.drewN n) := ⟨h.os, h.tape, h.output, h.size, h.block⟩

theorem pre_true (s p : ByteArray) (h : Lib.hasPrefix s.data.toList p.data.toList = true) (w : World) : Calls Try.prog 71 #[.string s, .string p] w fun e w' => e = .returned (.bool true) ∧ w' = w :=
  (Try.strings_HasPrefix s p w).mono fun e w' ⟨he, hw⟩ => ⟨by rw [he, h], hw⟩

theorem len_any (b : Nat) (bs : List Value) (W : World) (h : Lib.IsBuilder 64 5 b b bs W) : Calls Try.prog 70 #[.pointer (some ⟨b, 0, none⟩)] W fun e w' => e = .returned (.int .i64 bs.length) ∧ W = w' :=
  (Try.Builder_Len b b bs W h).mono fun _e _w' ⟨he, hw⟩ => ⟨he, hw.symm⟩

set_option maxRecDepth 100000 in
set_option maxHeartbeats 1600000 in
theorem map_at (pb : Nat) (w : World) (hp : Has w pb 9 #[.string ⟨#[97]⟩, .string ⟨#[98]⟩, .string ⟨#[98]⟩, .string ⟨#[97]⟩]) :
    Calls Try.prog 43 #[.string ⟨#[97, 98, 97, 98]⟩, .slice (some ⟨pb, 0, none⟩) 4 4, .bool false] w fun e w' => e = .returned (.tuple #[.string ⟨#[98, 97, 98, 97]⟩, .int .i64 0]) ∧ Below w.heap.size w w' := by
  have lp := hp.lt
  have z0 : ({ data := #[97, 98, 97, 98] } : ByteArray)[0].toNat = 97 := rfl
  have z1 : ({ data := #[97, 98, 97, 98] } : ByteArray)[1].toNat = 98 := rfl
  have z2 : ({ data := #[97, 98, 97, 98] } : ByteArray)[2].toNat = 97 := rfl
  have z3 : ({ data := #[97, 98, 97, 98] } : ByteArray)[3].toNat = 98 := rfl
  go_enter Try.func43, Try.ntmps43
  go_wp2
  go_step3
  go_wp2_with fail
  refine (mapKeys_at pb _ hp).mono ?_
  rintro e w1 ⟨gA, cA, gB, cB, F, rfl, hK, fi, fa, fb, ca, cb, hb⟩
  have hi : (Try.prog.info? 73).map (·.size) = some F.size := by rw [fi.size]; exact size73
  have h1 := all_oneCell_toArray fi.one
  simp only [Array.toArray_toList] at h1
  have ht : (w1.alloc (.cells Try.zeroCells73 73)).there w1.heap.size 0 F.size := fun j hj => by
    have hN := Has.new w1 73 Try.zeroCells73
    rw [fi.size] at hj
    constructor
    · rw [hN.cell (0 + j)]
      simp
      omega
    · exact hN.free (0 + j)
  go_wp2_with (refine wpList_store_mid rfl 73 (.tmp 10) (.tmp 28) rfl w1.heap.size 0 F rfl rfl ht hi h1 ?_)
  have KP : Kept (fun k => k = w1.heap.size) (w1.alloc (.cells Try.zeroCells73 73)) ((w1.alloc (.cells Try.zeroCells73 73)).setCells w1.heap.size 0 F.toList) := Kept.puts (S := fun k => k = w1.heap.size) (g := w1.heap.size) (.inl rfl) _ _ _ (Kept.refl _ _)
  have hrr : ((w1.alloc (.cells Try.zeroCells73 73)).setCells w1.heap.size 0 F.toList).rangeAt w1.heap.size 0 F.toList := World.rangeAt_setCells_same _ _ _ _ (by simpa using ht)
  have hz := KP.size
  have hzb := hb.size
  have K1 : Kept (fun k => k = w1.heap.size) w1 ((w1.alloc (.cells Try.zeroCells73 73)).setCells w1.heap.size 0 F.toList) := ((Kept.refl _ w1).alloc _).trans KP
  have hP1 : Has w1 pb 9 _ := (hb.block pb lp).trans hp
  have lA : gA < w1.heap.size := World.block_lt_of_cell? w1 _ ca
  have lB : gB < w1.heap.size := World.block_lt_of_cell? w1 _ cb
  have lK := hK.lt
  simp at hz
  generalize (w1.alloc (.cells Try.zeroCells73 73)).setCells w1.heap.size 0 F.toList = X at *
  have B0 : Below w.heap.size w (X.alloc (.cells #[.pointer none, .slice none 0 0] 64)) := (hb.trans (K1.below hzb (fun k hk h => by omega))).alloc (by omega) _
  have hb0 : Lib.IsBuilder 64 5 X.heap.size X.heap.size [] (X.alloc (.cells #[.pointer none, .slice none 0 0] 64)) := .inl ⟨Nat.le_refl _, _, Has.new X 64 _, World.ownsRow_nil _ _ _ _, by simp [Value.ownBlock]⟩
  have hX : ∀ (g t : Nat) (cs : Array Value), Has w1 g t cs → g < w1.heap.size → Has (X.alloc (.cells #[.pointer none, .slice none 0 0] 64)) g t cs := fun g t cs h hl => (K1.has h (by omega)).alloc _
  have hC : ∀ (p : Addr) (v : Value), w1.cell? p = some v → p.block < w1.heap.size → (X.alloc (.cells #[.pointer none, .slice none 0 0] 64)).cell? p = some v := fun p v h hl => (World.cell?_alloc_lt X _ _ (by omega)).trans (K1.cell h (by omega))
  have hR : ∀ (j : Nat) (v : Value), F[j]? = some v → (X.alloc (.cells #[.pointer none, .slice none 0 0] 64)).cell? ⟨w1.heap.size, j, none⟩ = some v := fun j v h => by
    have h' := hrr j v (by simpa using h)
    rw [Nat.zero_add] at h'
    exact (World.cell?_alloc_lt X _ _ (by simp; omega)).trans h'
  have ok0 : MapOk pb (w.heap.size + 1) w1.heap.size gA cA gB cB X.heap.size (X.alloc (.cells #[.pointer none, .slice none 0 0] 64)) :=
    ⟨(hX _ _ _ hK lK).cell 0, (hX _ _ _ hK lK).cell 1, (hX _ _ _ hP1 (by omega)).cell 1, (hX _ _ _ hP1 (by omega)).cell 3, hR 97 _ fa, hR 98 _ fb, hC _ _ ca lA, hC _ _ cb lB, by omega, by omega, by omega, by omega, by omega⟩
  have hz0 : X.heap.size ≤ (X.alloc (.cells #[.pointer none, .slice none 0 0] 64)).heap.size := by simp
  have hwX : w.heap.size ≤ X.heap.size := by omega
  clear hX hC hR K1 KP hrr hP1 lA lB lK hz hzb hb hK fi fa fb ca cb ht h1 hi lp hp
  generalize X.alloc (.cells #[.pointer none, .slice none 0 0] 64) = W0 at *
  generalize X.heap.size = b at *
  generalize w1.heap.size = fb at *
  go_step3
  go_wp2
  refine wp_loop_rounds 6 ?_
  rw [rounds_succ]
  have e0 := ok0.f97
  have e1 := ok0.a0
  have e2 := ok0.k0
  have e3 := ok0.p1
  go_wp2_with fail
  refine (len_any b _ _ hb0).mono ?_
  rintro e w' ⟨rfl, rfl⟩
  go_wp2
  refine wp_loop_rounds 2 ?_
  rw [rounds_succ]
  go_wp2
  go_quiet ((go_at_call 71; exact Calls.quiet_of_same (pre_true _ _ rfl _)))
  have okv := ok0.drewN nq
  have hbv := builder_drewN hb0 nq
  have Bv := below_drewN' B0 nq
  have hzv : b ≤ (W0.drewN nq).heap.size := hz0
  clear ok0 hb0 B0 hz0 e0 e1 e2 e3
  generalize W0.drewN nq = V0 at *
  have e3 := okv.p1
  go_wp2_with fail
  refine (write_any b b _ _ V0 hbv (of_decide_eq_true rfl) hzv).mono ?_
  rintro e W1 ⟨rfl, hat, hbW⟩
  have ok1 := okv.later hbW
  have hb1 : Lib.IsBuilder 64 5 b b _ W1 := .inr hat
  have B1 := Bv.trans (hbW.mono hwX)
  have hz1 : b ≤ W1.heap.size := Nat.le_trans hzv hbW.size
  clear okv hbv Bv hzv e3 hat hbW
  have e2 := ok1.k0
  go_wp2
  clear e2
  rw [rounds_succ]
  have e0 := ok1.f98
  have e1 := ok1.b0
  have e2 := ok1.k1
  have e3 := ok1.p3
  go_wp2_with fail
  refine (len_any b _ _ hb1).mono ?_
  rintro e w' ⟨rfl, rfl⟩
  go_wp2
  refine wp_loop_rounds 2 ?_
  rw [rounds_succ]
  go_wp2
  go_quiet ((go_at_call 71; exact Calls.quiet_of_same (pre_true _ _ rfl _)))
  have okv := ok1.drewN nq
  have hbv := builder_drewN hb1 nq
  have Bv := below_drewN' B1 nq
  have hzv : b ≤ (W1.drewN nq).heap.size := hz1
  clear ok1 hb1 B1 hz1 e0 e1 e2 e3
  generalize W1.drewN nq = V1 at *
  have e3 := okv.p3
  go_wp2_with fail
  refine (write_any b b _ _ V1 hbv (of_decide_eq_true rfl) hzv).mono ?_
  rintro e W2 ⟨rfl, hat, hbW⟩
  have ok2 := okv.later hbW
  have hb2 : Lib.IsBuilder 64 5 b b _ W2 := .inr hat
  have B2 := Bv.trans (hbW.mono hwX)
  have hz2 : b ≤ W2.heap.size := Nat.le_trans hzv hbW.size
  clear okv hbv Bv hzv e3 hat hbW
  have e2 := ok2.k1
  go_wp2
  clear e2
  rw [rounds_succ]
  have e0 := ok2.f97
  have e1 := ok2.a0
  have e2 := ok2.k0
  have e3 := ok2.p1
  go_wp2_with fail
  refine (len_any b _ _ hb2).mono ?_
  rintro e w' ⟨rfl, rfl⟩
  go_wp2
  refine wp_loop_rounds 2 ?_
  rw [rounds_succ]
  go_wp2
  go_quiet ((go_at_call 71; exact Calls.quiet_of_same (pre_true _ _ rfl _)))
  have okv := ok2.drewN nq
  have hbv := builder_drewN hb2 nq
  have Bv := below_drewN' B2 nq
  have hzv : b ≤ (W2.drewN nq).heap.size := hz2
  clear ok2 hb2 B2 hz2 e0 e1 e2 e3
  generalize W2.drewN nq = V2 at *
  have e3 := okv.p1
  go_wp2_with fail
  refine (write_any b b _ _ V2 hbv (of_decide_eq_true rfl) hzv).mono ?_
  rintro e W3 ⟨rfl, hat, hbW⟩
  have ok3 := okv.later hbW
  have hb3 : Lib.IsBuilder 64 5 b b _ W3 := .inr hat
  have B3 := Bv.trans (hbW.mono hwX)
  have hz3 : b ≤ W3.heap.size := Nat.le_trans hzv hbW.size
  clear okv hbv Bv hzv e3 hat hbW
  have e2 := ok3.k0
  go_wp2
  clear e2
  rw [rounds_succ]
  have e0 := ok3.f98
  have e1 := ok3.b0
  have e2 := ok3.k1
  have e3 := ok3.p3
  go_wp2_with fail
  refine (len_any b _ _ hb3).mono ?_
  rintro e w' ⟨rfl, rfl⟩
  go_wp2
  refine wp_loop_rounds 2 ?_
  rw [rounds_succ]
  go_wp2
  go_quiet ((go_at_call 71; exact Calls.quiet_of_same (pre_true _ _ rfl _)))
  have okv := ok3.drewN nq
  have hbv := builder_drewN hb3 nq
  have Bv := below_drewN' B3 nq
  have hzv : b ≤ (W3.drewN nq).heap.size := hz3
  clear ok3 hb3 B3 hz3 e0 e1 e2 e3
  generalize W3.drewN nq = V3 at *
  have e3 := okv.p3
  go_wp2_with fail
  refine (write_any b b _ _ V3 hbv (of_decide_eq_true rfl) hzv).mono ?_
  rintro e W4 ⟨rfl, hat, hbW⟩
  have ok4 := okv.later hbW
  have hb4 : Lib.IsBuilder 64 5 b b _ W4 := .inr hat
  have B4 := Bv.trans (hbW.mono hwX)
  have hz4 : b ≤ W4.heap.size := Nat.le_trans hzv hbW.size
  clear okv hbv Bv hzv e3 hat hbW
  have e2 := ok4.k1
  go_wp2
  clear e2
  rw [rounds_succ]
  go_wp2_with fail
  refine (len_any b _ _ hb4).mono ?_
  rintro e w' ⟨rfl, rfl⟩
  go_wp2_with fail
  refine (Try.Builder_String b b [98, 97, 98, 97] _ hb4 (by simp)).mono ?_
  rintro e w' ⟨rfl, hbS⟩
  have BF := B4.trans (hbS.mono hwX)
  clear ok4 hb4 B4 hz4 hbS
  go_wp2
  rw [Exit.noGoto_ret]
  go_ret2
  exact ⟨rfl, BF⟩
end Go.Proofs.Ytneklmalkmeohaa
