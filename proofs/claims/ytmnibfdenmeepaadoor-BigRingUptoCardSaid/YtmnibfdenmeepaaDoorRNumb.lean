/- Number of the reference. -/
import Derived.Test.YtmnibfdenmeepaaDoorRText
import Derived.Test.YtmnibfdenmeepaaDoorParse
namespace Go.Proofs.YtmnibfdenmeepaaDoor
open Go.RowKit Go.Shelf Big

/-- n tells z: exact, or far too long. -/
def Tells (n : Nat) (z : Int) : Prop := n = z.natAbs ∨ (10 ^ k1200 ≤ n ∧ n ≤ z.natAbs)
/-- What Number answers. -/
def NumRes (B : Nat) (l : List UInt8) (w' : World) (e : Ending) : Prop :=
  ∃ v n sg, e = .returned (.tuple #[.agg #[.bool sg, v], .bool (numOf l).isSome]) ∧ DecIs w' B v n ∧ (∀ z, numOf l = some z → Tells n z ∧ sg = decide (z < 0))
theorem far_pos : 0 < 10 ^ k1200 := Nat.pow_pos (by decide)
theorem Tells.pos {n : Nat} {z : Int} (h : Tells n z) : decide (0 < n) = decide (0 < z.natAbs) := by
  have := far_pos
  rcases h with rfl | ⟨h1, h2⟩
  · rfl
  · rw [decide_eq_true (by omega), decide_eq_true (by omega)]
theorem numOf_is {l r : List UInt8} {b : Nat} {sg : Bool} (hs : (sgnOf (strip l)).1 = sg) (hb : basOf (sgnOf (strip l)).2 = (b, r)) : numOf l = if okn b r then some (sgI sg (rdn b r)) else none := by
  unfold numOf
  rw [hb, hs]
theorem tells_of {l r : List UInt8} {b n : Nat} {sg g : Bool} (hs : (sgnOf (strip l)).1 = sg) (hb : basOf (sgnOf (strip l)).2 = (b, r)) (hn : okn b r = true → n = rdn b r ∨ (10 ^ k1200 ≤ n ∧ n ≤ rdn b r)) (hg : okn b r = true → g = (sg && decide (0 < n))) :
    (numOf l).isSome = okn b r ∧ ∀ z, numOf l = some z → Tells n z ∧ g = decide (z < 0) := by
  rw [numOf_is hs hb]
  cases h : okn b r with
  | false => exact ⟨rfl, fun z hz => by simp at hz⟩
  | true =>
    refine ⟨rfl, fun z hz => ?_⟩
    simp only [if_true, Option.some.injEq] at hz
    subst hz
    have e2 : (sgI sg (rdn b r)).natAbs = rdn b r := by
      unfold sgI
      cases sg <;> simp
    have ht : Tells n (sgI sg (rdn b r)) := by
      unfold Tells
      rw [e2]
      exact hn h
    refine ⟨ht, ?_⟩
    have hp := ht.pos
    rw [e2] at hp
    rw [hg h, hp]
    unfold sgI
    cases sg <;> simp
theorem cells_two {w : World} {g : Nat} {t : TypeId} {a b : Value} (h : Has w g t #[a, b]) : w.cell? ⟨g, 0, none⟩ = some a ∧ w.cell? ⟨g, 1, none⟩ = some b ∧ w.frozen? ⟨g, 0, none⟩ = false ∧ w.frozen? ⟨g, 1, none⟩ = false :=
  ⟨h.cell 0, h.cell 1, h.free 0, h.free 1⟩
/-- decimal's answer, read for Number. -/
theorem dec_num {B : Nat} {l r : List UInt8} {sg : Bool} {w' : World} {e : Ending} (hs : (sgnOf (strip l)).1 = sg) (hb : basOf (sgnOf (strip l)).2 = (10, r)) (h : DecRes B 10 sg r w' e) : NumRes B l w' e := by
  obtain ⟨v, n, g, rfl, hd, hk⟩ := h
  obtain ⟨h1, h2⟩ := tells_of (n := n) (g := g) hs hb (fun h => .inl (hk h).1) (fun h => (hk h).2)
  exact ⟨v, n, g, by rw [h1], hd, h2⟩
theorem NumRes.form {B : Nat} {l : List UInt8} {w' : World} {e : Ending} (h : NumRes B l w' e) :
    ∃ (s : Bool) (av : Option Addr) (n c : Nat) (t : Bool), e = .returned (.tuple #[.agg #[.bool s, .slice av n c], .bool t]) ∧
      ∀ (k : Nat) (x y : Value), k < B → NumRes B l ((w'.setCell ⟨k, 0, none⟩ x).setCell ⟨k, 1, none⟩ y) e := by
  obtain ⟨v, n, g, rfl, hd, hk⟩ := h
  obtain ⟨av, c, rfl⟩ := hd.slice
  exact ⟨g, av, _, c, _, rfl, fun k x y hlt => ⟨_, n, g, rfl, (hd.apart (hd.new hlt) 0 x).apart (hd.new hlt) 1 y, hk⟩⟩
theorem NumRes.mono {B B' : Nat} {l : List UInt8} {w' : World} {e : Ending} (h : NumRes B l w' e) (hB : B' ≤ B) : NumRes B' l w' e := by
  obtain ⟨v, n, g, rfl, hd, hk⟩ := h
  exact ⟨v, n, g, rfl, DecIs.mono hd hB, hk⟩

set_option maxRecDepth 100000 in
set_option maxHeartbeats 8000000 in
theorem rNumber_any (s : ByteArray) (w : World) (hs : s.size ≤ 1000000000000) :
    Calls Tryd.prog 55 #[.string s] w fun e w' => NumRes w.heap.size s.data.toList w' e ∧ Below w.heap.size w w' := by
  have HSt := Lib.hid (fun W => Strip_any s W (by omega))
  go_enter Tryd.func55, Tryd.ntmps55
  go_wp2_with fail
  refine (HSt.out _).mono ?_
  rintro e w1 ⟨⟨S, rfl, hS0, hT⟩, rfl⟩
  have hS : S.size ≤ 1000000000000 := by omega
  have HT := Lib.hid hT
  clear hT hS0
  go_upto_region 3 with fail
  go_cut [21] from 10 to 21 (fun v21 wx => wx = w.alloc (.cells #[.bool false, .slice none 0 0] 51) ∧ ∃ t : Bool, v21 = .bool t ∧ ((t = false ∧ sgnOf S.data.toList = (false, S.data.toList)) ∨ (t = true ∧ ∃ (_h : 0 < S.size) (sg : Bool), (S[0].toNat = if sg then 45 else 43) ∧ sgnOf S.data.toList = (sg, (S.extract 1 S.size).data.toList))))
  case first =>
    rcases sgn_cases S with ⟨he, hsg⟩ | ⟨hp, h45, hsg⟩ | ⟨hp, h45, h43, hsg⟩ | ⟨hp, h45, h43, hsg⟩
    · have HS := Lib.hid hsg
      clear hsg
      go_wp2
      go_meet
      exact ⟨rfl, false, rfl, .inl ⟨rfl, HS.out⟩⟩
    all_goals
      have hE' : S.toList.isEmpty = false := by
        cases h : S.toList.isEmpty with
        | false => rfl
        | true => have h1 := (empty_iff S).1 h; have h2 := Lib.size_eq S; rw [h1] at h2; have h3 : S.size = 0 := h2; omega
      have hpI : (0 : Int) < (S.size : Int) := by omega
      have HS := Lib.hid hsg
      have HP := Lib.hid hp
      clear hsg
    · have g1 : (S[0].toNat : Int) = 45 := by omega
      have H45 := Lib.hid h45
      clear h45
      go_wp2
      go_meet
      exact ⟨rfl, true, rfl, .inr ⟨rfl, HP.out, true, H45.out, HS.out⟩⟩
    · have g1 : ((S[0].toNat : Int) == 45) = false := by simp; omega
      have g2 : (S[0].toNat : Int) = 43 := by omega
      have g2' : ((S[0].toNat : Int) == 43) = true := by simp; omega
      have n1 : ¬ (S[0].toNat : Int) = 45 := by omega
      have H43 := Lib.hid h43
      have G := Lib.hid (And.intro g1 g2')
      clear h45 h43
      go_wp2
      go_meet
      exact ⟨rfl, true, by first | rfl | (simp only [Value.bool.injEq, Bool.or_eq_true, beq_iff_eq]; exact .inr g2), .inr ⟨rfl, HP.out, false, H43.out, HS.out⟩⟩
    · have g1 : ((S[0].toNat : Int) == 45) = false := by simp; omega
      have g2 : ((S[0].toNat : Int) == 43) = false := by simp; omega
      have n1 : ¬ (S[0].toNat : Int) = 45 := by omega
      have n2 : ¬ (S[0].toNat : Int) = 43 := by omega
      have G := Lib.hid (And.intro g1 g2)
      clear h45 h43
      go_wp2
      go_meet
      exact ⟨rfl, false, by first | rfl | (simp only [Value.bool.injEq, Bool.or_eq_false_iff, beq_eq_false_iff_ne]; exact ⟨n1, n2⟩), .inl ⟨rfl, HS.out⟩⟩
  case rest =>
    obtain ⟨rfl, t, rfl, hor⟩ := hcut
    have HOR := Lib.hid hor
    clear hor
    go_upto_if 21 with fail
    go_cut [0, 4] from 22 to 26 (fun v0 v4 wx => wx = w.alloc (.cells #[.bool false, .slice none 0 0] 51) ∧ ∃ (X : ByteArray) (sg : Bool), v0 = .string X ∧ v4 = .bool sg ∧ X.size ≤ 1000000000000 ∧ sgnOf S.data.toList = (sg, X.data.toList))
    case first =>
      cases t with
      | false =>
        have HS := Lib.hid (show sgnOf S.data.toList = (false, S.data.toList) by
          rcases HOR.out with ⟨_, h⟩ | ⟨h, _⟩
          · exact h
          · cases h)
        go_wp2
        go_meet
        exact ⟨rfl, S, false, rfl, rfl, hS, HS.out⟩
      | true =>
        obtain ⟨hp, sg, hc, hsg⟩ : ∃ (_h : 0 < S.size) (sg : Bool), (S[0].toNat = if sg then 45 else 43) ∧ sgnOf S.data.toList = (sg, (S.extract 1 S.size).data.toList) := by
          rcases HOR.out with ⟨h, _⟩ | ⟨_, h⟩
          · cases h
          · exact h
        have HS := Lib.hid hsg
        have hpI : (0 : Int) < (S.size : Int) := by omega
        have hpI1 : (1 : Int) ≤ (S.size : Int) := by omega
        clear hsg
        cases sg with
        | true =>
          have g1 : (S[0].toNat : Int) = 45 := by simp at hc; omega
          clear hc
          go_wp2
          go_meet
          exact ⟨rfl, S.extract 1 S.size, true, rfl, by first | rfl | simp [g1], by simp; omega, HS.out⟩
        | false =>
          have g1 : (S[0].toNat : Int) = 43 := by simp at hc; omega
          clear hc
          go_wp2
          go_meet
          exact ⟨rfl, S.extract 1 S.size, false, rfl, by first | rfl | simp [g1], by simp; omega, HS.out⟩
    case rest =>
      obtain ⟨rfl, X, sg, rfl, rfl, hX, hsg⟩ := hcut
      have HSG := Lib.hid (show (sgnOf (strip s.data.toList)).1 = sg ∧ (sgnOf (strip s.data.toList)).2 = X.data.toList by rw [← HT.out, hsg]; exact ⟨rfl, rfl⟩)
      clear hsg
      have HDEC := Lib.hid (fun W => decimal_any X sg W hX)
      rcases bas_cases X with ⟨hp, hb⟩ | ⟨hp, h0, hb⟩ | ⟨hp, h0, h1, hb⟩ | ⟨hp, h0, h1, hb⟩ | ⟨hp, h0, h1, hb⟩ | ⟨hp, h0, h1, h2, h3, hb⟩
      · have HB := Lib.hid hb
        have hpI : ¬ (1 : Int) < (X.size : Int) := by omega
        have hpN : ¬ 1 < X.size := by omega
        clear hb
        go_wp2_with (go_at_call 105; refine (HDEC.out _).mono ?_; rintro e w3 ⟨hres, hb3⟩; have hnr := dec_num HSG.out.1 (by rw [HSG.out.2]; exact HB.out) hres; obtain ⟨sb, av, nv, cv, tt, rfl, hfar⟩ := hnr.form; have hz3 := hb3.size; obtain ⟨q0, q1, q2, q3⟩ := cells_two ((Has.new w 51 #[.bool false, .slice none 0 0]).below hb3))
        refine bodyPost_ret (v := .tuple #[.agg #[.bool sb, .slice av nv cv], .bool tt]) (by simp [results, Tryd.results55, go_sem, World.cell?_setCell_same', q0, q1]) rfl ⟨(hfar w.heap.size _ _ (by simp)).mono (by simp), ((((Below.refl w.heap.size w).alloc (Nat.le_refl _) _).trans (hb3.mono (by simp))).setCell (p := ⟨w.heap.size, 0, none⟩) (Nat.le_refl _) _).setCell (p := ⟨w.heap.size, 1, none⟩) (Nat.le_refl _) _⟩
      · have HB := Lib.hid hb
        have hpI : (1 : Int) < (X.size : Int) := by omega
        have hpJ : (2 : Int) ≤ (X.size : Int) := by omega
        have g0 : ((X[0].toNat : Int) == 48) = false := by simp; omega
        have g0' : ¬ (X[0].toNat : Int) = 48 := by omega
        clear hb
        go_wp2_with (go_at_call 105; refine (HDEC.out _).mono ?_; rintro e w3 ⟨hres, hb3⟩; have hnr := dec_num HSG.out.1 (by rw [HSG.out.2]; exact HB.out) hres; obtain ⟨sb, av, nv, cv, tt, rfl, hfar⟩ := hnr.form; have hz3 := hb3.size; obtain ⟨q0, q1, q2, q3⟩ := cells_two ((Has.new w 51 #[.bool false, .slice none 0 0]).below hb3))
        refine bodyPost_ret (v := .tuple #[.agg #[.bool sb, .slice av nv cv], .bool tt]) (by simp [results, Tryd.results55, go_sem, World.cell?_setCell_same', q0, q1]) rfl ⟨(hfar w.heap.size _ _ (by simp)).mono (by simp), ((((Below.refl w.heap.size w).alloc (Nat.le_refl _) _).trans (hb3.mono (by simp))).setCell (p := ⟨w.heap.size, 0, none⟩) (Nat.le_refl _) _).setCell (p := ⟨w.heap.size, 1, none⟩) (Nat.le_refl _) _⟩
      · have HB := Lib.hid hb
        have HDG := Lib.hid (fun W => rdigits_any (X.extract 2 X.size) 16 W (by simp; omega) (by omega) (by omega))
        have hpI : (1 : Int) < (X.size : Int) := by omega
        have hpJ : (2 : Int) ≤ (X.size : Int) := by omega
        have g0 : (X[0].toNat : Int) = 48 := by omega
        have g1 : (X[1].toNat : Int) = 120 := by omega
        clear hb
        go_wp2_with fail
        refine (HDG.out _).mono ?_
        rintro e w3 ⟨⟨v, n, rfl, hd, hk⟩, hb3⟩
        obtain ⟨av, cv, rfl⟩ := hd.slice
        have hd' := hd
        obtain ⟨L, hL⟩ : ∃ L, (lims 10 n).length = L := ⟨_, rfl⟩
        rw [hL] at hd' ⊢
        have HL := Lib.hid hL
        have HD := Lib.hid hd'
        have HT2 := Lib.hid (tells_of (n := n) (g := sg && decide (0 < n)) HSG.out.1 (by rw [HSG.out.2]; exact HB.out) hk (fun _ => rfl))
        have hz3 := hb3.size
        have HB3 := Lib.hid (Below.behind ((Below.refl w.heap.size w).alloc (Nat.le_refl _) (.cells #[.bool false, .slice none 0 0] 51)) hb3)
        have HH := Lib.hid ((Has.new w 51 #[.bool false, .slice none 0 0]).below hb3)
        clear hd hd' hk hL hb3
        go_wp2_with fail
        refine (num_any _ n _ sg w3 HD.out).mono ?_
        rintro e w4 ⟨rfl, hb4⟩
        have hz4 := hb4.size
        obtain ⟨q0, q1, q2, q3⟩ := cells_two (HH.out.below hb4)
        have HB4 := Lib.hid (Below.behind HB3.out hb4)
        have HD4 := Lib.hid (HD.out.kept hb4)
        clear hb4
        go_wp2
        refine bodyPost_ret (v := .tuple #[.agg #[.bool (sg && decide (0 < n)), .slice av L cv], .bool (okn 16 (X.extract 2 X.size).data.toList)]) (by simp [results, Tryd.results55, go_sem, World.cell?_setCell_same', q0, q1]) rfl ⟨⟨_, n, _, by rw [HT2.out.1], DecIs.mono ((HD4.out.apart (HD4.out.new (b := w.heap.size) (by simp)) 0 _).apart (HD4.out.new (b := w.heap.size) (by simp)) 1 _) (by simp), HT2.out.2⟩, (HB4.out.setCell (p := ⟨w.heap.size, 0, none⟩) (Nat.le_refl _) _).setCell (p := ⟨w.heap.size, 1, none⟩) (Nat.le_refl _) _⟩
      · have HB := Lib.hid hb
        have HDG := Lib.hid (fun W => rdigits_any (X.extract 2 X.size) 8 W (by simp; omega) (by omega) (by omega))
        have hpI : (1 : Int) < (X.size : Int) := by omega
        have hpJ : (2 : Int) ≤ (X.size : Int) := by omega
        have g0 : (X[0].toNat : Int) = 48 := by omega
        have g1 : (X[1].toNat : Int) = 111 := by omega
        clear hb
        go_wp2_with fail
        refine (HDG.out _).mono ?_
        rintro e w3 ⟨⟨v, n, rfl, hd, hk⟩, hb3⟩
        obtain ⟨av, cv, rfl⟩ := hd.slice
        have hd' := hd
        obtain ⟨L, hL⟩ : ∃ L, (lims 10 n).length = L := ⟨_, rfl⟩
        rw [hL] at hd' ⊢
        have HL := Lib.hid hL
        have HD := Lib.hid hd'
        have HT2 := Lib.hid (tells_of (n := n) (g := sg && decide (0 < n)) HSG.out.1 (by rw [HSG.out.2]; exact HB.out) hk (fun _ => rfl))
        have hz3 := hb3.size
        have HB3 := Lib.hid (Below.behind ((Below.refl w.heap.size w).alloc (Nat.le_refl _) (.cells #[.bool false, .slice none 0 0] 51)) hb3)
        have HH := Lib.hid ((Has.new w 51 #[.bool false, .slice none 0 0]).below hb3)
        clear hd hd' hk hL hb3
        go_wp2_with fail
        refine (num_any _ n _ sg w3 HD.out).mono ?_
        rintro e w4 ⟨rfl, hb4⟩
        have hz4 := hb4.size
        obtain ⟨q0, q1, q2, q3⟩ := cells_two (HH.out.below hb4)
        have HB4 := Lib.hid (Below.behind HB3.out hb4)
        have HD4 := Lib.hid (HD.out.kept hb4)
        clear hb4
        go_wp2
        refine bodyPost_ret (v := .tuple #[.agg #[.bool (sg && decide (0 < n)), .slice av L cv], .bool (okn 8 (X.extract 2 X.size).data.toList)]) (by simp [results, Tryd.results55, go_sem, World.cell?_setCell_same', q0, q1]) rfl ⟨⟨_, n, _, by rw [HT2.out.1], DecIs.mono ((HD4.out.apart (HD4.out.new (b := w.heap.size) (by simp)) 0 _).apart (HD4.out.new (b := w.heap.size) (by simp)) 1 _) (by simp), HT2.out.2⟩, (HB4.out.setCell (p := ⟨w.heap.size, 0, none⟩) (Nat.le_refl _) _).setCell (p := ⟨w.heap.size, 1, none⟩) (Nat.le_refl _) _⟩
      · have HB := Lib.hid hb
        have HDG := Lib.hid (fun W => rdigits_any (X.extract 2 X.size) 2 W (by simp; omega) (by omega) (by omega))
        have hpI : (1 : Int) < (X.size : Int) := by omega
        have hpJ : (2 : Int) ≤ (X.size : Int) := by omega
        have g0 : (X[0].toNat : Int) = 48 := by omega
        have g1 : (X[1].toNat : Int) = 98 := by omega
        clear hb
        go_wp2_with fail
        refine (HDG.out _).mono ?_
        rintro e w3 ⟨⟨v, n, rfl, hd, hk⟩, hb3⟩
        obtain ⟨av, cv, rfl⟩ := hd.slice
        have hd' := hd
        obtain ⟨L, hL⟩ : ∃ L, (lims 10 n).length = L := ⟨_, rfl⟩
        rw [hL] at hd' ⊢
        have HL := Lib.hid hL
        have HD := Lib.hid hd'
        have HT2 := Lib.hid (tells_of (n := n) (g := sg && decide (0 < n)) HSG.out.1 (by rw [HSG.out.2]; exact HB.out) hk (fun _ => rfl))
        have hz3 := hb3.size
        have HB3 := Lib.hid (Below.behind ((Below.refl w.heap.size w).alloc (Nat.le_refl _) (.cells #[.bool false, .slice none 0 0] 51)) hb3)
        have HH := Lib.hid ((Has.new w 51 #[.bool false, .slice none 0 0]).below hb3)
        clear hd hd' hk hL hb3
        go_wp2_with fail
        refine (num_any _ n _ sg w3 HD.out).mono ?_
        rintro e w4 ⟨rfl, hb4⟩
        have hz4 := hb4.size
        obtain ⟨q0, q1, q2, q3⟩ := cells_two (HH.out.below hb4)
        have HB4 := Lib.hid (Below.behind HB3.out hb4)
        have HD4 := Lib.hid (HD.out.kept hb4)
        clear hb4
        go_wp2
        refine bodyPost_ret (v := .tuple #[.agg #[.bool (sg && decide (0 < n)), .slice av L cv], .bool (okn 2 (X.extract 2 X.size).data.toList)]) (by simp [results, Tryd.results55, go_sem, World.cell?_setCell_same', q0, q1]) rfl ⟨⟨_, n, _, by rw [HT2.out.1], DecIs.mono ((HD4.out.apart (HD4.out.new (b := w.heap.size) (by simp)) 0 _).apart (HD4.out.new (b := w.heap.size) (by simp)) 1 _) (by simp), HT2.out.2⟩, (HB4.out.setCell (p := ⟨w.heap.size, 0, none⟩) (Nat.le_refl _) _).setCell (p := ⟨w.heap.size, 1, none⟩) (Nat.le_refl _) _⟩
      · have HB := Lib.hid hb
        have hpI : (1 : Int) < (X.size : Int) := by omega
        have hpJ : (2 : Int) ≤ (X.size : Int) := by omega
        have g0 : (X[0].toNat : Int) = 48 := by omega
        have g1 : ((X[1].toNat : Int) == 120) = false := by simp; omega
        have g1' : ¬ (X[1].toNat : Int) = 120 := by omega
        have g2 : ((X[1].toNat : Int) == 111) = false := by simp; omega
        have g2' : ¬ (X[1].toNat : Int) = 111 := by omega
        have g3 : ((X[1].toNat : Int) == 98) = false := by simp; omega
        have g3' : ¬ (X[1].toNat : Int) = 98 := by omega
        clear hb
        go_wp2_with (go_at_call 105; refine (HDEC.out _).mono ?_; rintro e w3 ⟨hres, hb3⟩; have hnr := dec_num HSG.out.1 (by rw [HSG.out.2]; exact HB.out) hres; obtain ⟨sb, av, nv, cv, tt, rfl, hfar⟩ := hnr.form; have hz3 := hb3.size; obtain ⟨q0, q1, q2, q3⟩ := cells_two ((Has.new w 51 #[.bool false, .slice none 0 0]).below hb3))
        refine bodyPost_ret (v := .tuple #[.agg #[.bool sb, .slice av nv cv], .bool tt]) (by simp [results, Tryd.results55, go_sem, World.cell?_setCell_same', q0, q1]) rfl ⟨(hfar w.heap.size _ _ (by simp)).mono (by simp), ((((Below.refl w.heap.size w).alloc (Nat.le_refl _) _).trans (hb3.mono (by simp))).setCell (p := ⟨w.heap.size, 0, none⟩) (Nat.le_refl _) _).setCell (p := ⟨w.heap.size, 1, none⟩) (Nat.le_refl _) _⟩
end Go.Proofs.YtmnibfdenmeepaaDoor
