/- pieces of the program, of any form. -/
import Derived.Test.YtcgabonoddloiaaGreatDoorWrLetters
import Derived.Test.YtcgabonoddloiaaGreatDoorWrPc
import Derived.Test.YtcgabonoddloiaaGreatDoorPieces
namespace Go.Proofs.YtcgabonoddloiaaGreatDoor.Wr
open Go.RowKit Clk Go.ChangeMaps

/-- What pieces answers. -/
def PiecesRes (w : World) (r : Option (List Pc)) (e : Ending) (w' : World) : Prop :=
  (∃ ps v xs, r = some ps ∧ e = .returned (.tuple #[v, .int .i64 0]) ∧ Below w.heap.size w w' ∧ w'.ownsRow w.heap.size 73 4 v ps.length xs ∧ RowsAre v.ownBlock w.heap.size w' xs ps) ∨
    (r = none ∧ e = .returned (.tuple #[.slice none 0 0, .int .i64 2]) ∧ Below w.heap.size w w')
def PiecesSay (form : ByteArray) (r : Option (List Pc)) : Prop := ∀ w : World, Calls Tryz.prog 64 #[.string form] w (PiecesRes w r)

theorem piecesOf_plain (nest : Bool) {c : UInt8} (hc : c ≠ 37) (r : List UInt8) : piecesOf nest (c :: r) = (piecesOf nest r).map (.plain c :: ·) := by
  cases r with
  | nil => simp [piecesOf, hc]
  | cons d r => simp [piecesOf, hc]

theorem rows_plain {own : Option Nat} {B : Nat} {w : World} {xs : List Value} {ps : List Pc} (h : RowsAre own B w xs ps) {o : Obj} {w2 : World} {g : Nat} (hg : (w.alloc o).grownBy w2 own) (ha : own = some g ∨ g = w.heap.size + 1) {s : ByteArray} {c : UInt8} (hs : s = ⟨#[c]⟩) :
    RowsAre (some g) B w2 (xs ++ [.int .u8 0, .string s, .nilFunc, .nilFunc]) (ps ++ [.plain c]) := by
  refine (h.imp fun cs p k => ?_).append (.one (by rw [hs]; rfl))
  refine ((k.below ((Below.refl _ _).alloc (Nat.le_refl _) o)).grown hg fun j hj => ?_)
  cases hj
  rcases ha with e | e
  · exact .inl e
  · exact .inr (by simp; omega)

theorem rows_part {own : Option Nat} {B b1 : Nat} {w w0 w1 : World} {xs : List Value} {ps : List Pc} (h : RowsAre own B w xs ps) {o o' : Obj} {w2 : World} {g : Nat} (hg : ((w.alloc o).alloc o').grownBy w2 own) (ha : own = some g ∨ g = w.heap.size + 1 + 1) {c : UInt8} (hx : isLet c = true) {key : Int} (hk : (c.toNat : Int) = key) {wf rf : Value}
    (hp : LetIs w0.heap.size w1.heap.size (.agg #[wf, rf]) w1 c.toNat) (h1 : w1.heap.size = b1) (h0 : w0.heap.size = B) (hb : Below b1 w1 w2) (hgb : b1 ≤ g) :
    RowsAre (some g) B w2 (xs ++ [.int .u8 key, .string ⟨#[]⟩, wf, rf]) (ps ++ [.part c]) := by
  refine (h.imp fun cs p k => ?_).append (.one ⟨hx, wf, rf, _, _, by rw [hk], hp.below (h1 ▸ hb), by omega, fun k hk' => ?_⟩)
  · refine ((k.below (((Below.refl _ _).alloc (Nat.le_refl _) o).alloc (by simp) o')).grown hg fun j hj => ?_)
    cases hj
    rcases ha with e | e
    · exact .inl e
    · exact .inr (by simp; omega)
  · cases hk'
    exact .inr (by omega)

theorem rows_plain2 {own : Option Nat} {B : Nat} {w : World} {xs : List Value} {ps : List Pc} (h : RowsAre own B w xs ps) {o o' : Obj} {w2 : World} {g : Nat} (hg : ((w.alloc o).alloc o').grownBy w2 own) (ha : own = some g ∨ g = w.heap.size + 1 + 1) {s : ByteArray} {c : UInt8} (hs : s = ⟨#[c]⟩) :
    RowsAre (some g) B w2 (xs ++ [.int .u8 0, .string s, .nilFunc, .nilFunc]) (ps ++ [.plain c]) := by
  refine (h.imp fun cs p k => ?_).append (.one (by rw [hs]; rfl))
  refine ((k.below (((Below.refl _ _).alloc (Nat.le_refl _) o).alloc (by simp) o')).grown hg fun j hj => ?_)
  cases hj
  rcases ha with e | e
  · exact .inl e
  · exact .inr (by simp; omega)

theorem rows_inner {own own2 : Option Nat} {B b1 : Nat} {w w3 : World} {xs ys : List Value} {ps qs : List Pc} (h : RowsAre own B w xs ps) (hlt : ∀ k, own = some k → k < w.heap.size) {o : Obj} (hb : Below (w.alloc o).heap.size (w.alloc o) w3)
    (k : RowsAre own2 (w.alloc o).heap.size w3 ys qs) {w4 : World} {g : Nat} (hg : w3.grownBy w4 own) (ha : own = some g ∨ g = w3.heap.size) (hBb : B ≤ b1) (hbw : b1 ≤ w.heap.size) :
    RowsAre (some g) B w4 (xs ++ ys) (ps ++ qs) := by
  have hs : (w.alloc o).heap.size = w.heap.size + 1 := by simp
  refine (h.imp fun cs p q => ?_).append (k.imp fun cs p q => ?_)
  · refine (((q.below ((Below.refl _ _).alloc (Nat.le_refl _) o)).below hb).grown hg fun j hj => ?_)
    cases hj
    rcases ha with e | e
    · exact .inl e
    · exact .inr (by omega)
  · cases p with
    | plain c => exact q
    | part x =>
      obtain ⟨hx, wf, rf, lo, hi, e, hp, hB, hk⟩ := q
      refine ⟨hx, wf, rf, lo, hi, e, hp.kept (fun j h1 h2 _ => hg.block j (Nat.lt_of_lt_of_le h2 hp.le) (fun e => ?_)) hg.size, by omega, fun j hj => ?_⟩
      · have := hlt j e.symm
        omega
      · cases hj
        rcases ha with e | e
        · exact .inl (by have := hlt _ e; omega)
        · exact .inr (by have := hp.le; omega)

def dForm : ByteArray := ⟨#[37, 109, 47, 37, 100, 47, 37, 89]⟩

theorem map_none {α β : Type} {f : α → β} {r0 : Option β} {x : Option α} (h : r0 = x.map f) (hx : x = none) : r0 = none := by rw [h, hx]; rfl
theorem map_cons_app {nest : Bool} {r0 : Option (List Pc)} {l : List UInt8} {x : Option (List Pc)} (done new : List Pc) (h : r0 = x.map (done ++ ·)) (hx : x = (piecesOf nest l).map (new ++ ·)) : r0 = (piecesOf nest l).map ((done ++ new) ++ ·) := by
  rw [h, hx, Option.map_map]
  congr 1
  funext y
  simp

set_option maxRecDepth 100000 in
set_option maxHeartbeats 8000000 in
theorem pieces_gen (nest : Bool) (HT : nest = true → PiecesSay dForm (some dPcs) ∧ PiecesSay tForm (some tPcs)) (form : ByteArray) (hlen : form.size ≤ 200) (hn : nest = true ∨ piecesOf nest form.data.toList ≠ none) : PiecesSay form (piecesOf nest form.data.toList) := by
  intro w
  obtain ⟨i0, hi, hz0, hz1, hz2⟩ := info_parts Tryz.infoPc
  obtain ⟨r0, hr0⟩ : ∃ r0, piecesOf nest form.data.toList = r0 := ⟨_, rfl⟩
  rw [hr0] at hn ⊢
  have HR0 := Lib.hid hr0
  have HTT := Lib.hid HT
  have HN := Lib.hid hn
  clear hr0 HT hn
  go_enter Tryz.func64, Tryz.ntmps64
  go_wp2_with fail
  refine (letters_any _).mono ?_
  rintro e w1 ⟨M, es, ck, rfl, hM, hb1, hP, hq, hBM⟩
  obtain ⟨b1, hb1s⟩ : ∃ b, w1.heap.size = b := ⟨_, rfl⟩
  obtain ⟨B, hBs⟩ : ∃ b, w.heap.size = b := ⟨_, rfl⟩
  have hBb : B ≤ b1 := by have := hb1.size; omega
  have hMl : M < b1 := hb1s ▸ hM.lt
  have HM := Lib.hid (And.intro hM (And.intro hP (And.intro hq (And.intro hb1s (And.intro hBs (And.intro hb1 hBM))))))
  clear hM hP hq hb1s hBs hb1
  go_wp2_with fail
  go_loopg [5, 6] form.size (fun g v5 v6 wx => ∃ (k : Nat) (done : List Pc) (xs : List Value), v6 = .int .i64 k ∧ k ≤ form.size ∧ form.size - k ≤ g ∧ r0 = (piecesOf nest (form.data.toList.drop k)).map (done ++ ·) ∧ wx.ownsRow b1 73 4 v5 done.length xs ∧ RowsAre v5.ownBlock B wx xs done ∧ Below b1 w1 wx ∧ done.length ≤ 5 * k)
  case atStart =>
    exact ⟨0, [], [], rfl, Nat.zero_le _, by omega, by rw [List.drop_zero, HR0.out]; simp, World.ownsRow_nil _ _ _ _, .nil, Below.refl _ _, Nat.le_refl _⟩
  case round =>
    obtain ⟨k, done, xs, rfl, hk, hkg, hrest, hown, hrows, hbx, hdl5⟩ := hrel
    by_cases hlt : k < form.size
    · have hdrop : form.data.toList.drop k = form[k] :: form.data.toList.drop (k + 1) := by
        rw [List.drop_eq_getElem_cons (by simpa using hlt)]
        simp
        rfl
      obtain ⟨c, hc⟩ : ∃ c, form[k] = c := ⟨_, rfl⟩
      rw [hc] at hdrop
      have hs := hbx.size
      have hbz : b1 ≤ wr.heap.size := by rw [← HM.out.2.2.2.1]; exact hs
      have hdl : done.length ≤ 1000 := by omega
      have HB := Lib.hid hbx
      have HW := Lib.hid hrows
      have hwB : Below B w wr := HM.out.2.2.2.2.1 ▸ (HM.out.2.2.2.2.2.1.trans (hbx.mono (by rw [HM.out.2.2.2.2.1]; exact hBb)))
      have HWB := Lib.hid hwB
      by_cases h37 : c = 37
      · subst h37
        have hb0 : ((form[k].toNat : Int) != 37) = false := by rw [hc]; rfl
        by_cases hend1 : k + 1 = form.size
        · have hnil : form.data.toList.drop (k + 1) = [] := List.drop_of_length_le (by simp; omega)
          have HNO := Lib.hid (map_none hrest (by rw [hdrop, hnil]; rfl))
          have hend : ((k : Int) + 1 == (form.size : Int)) = true := by simp; omega
          clear hrest hdrop hnil hc hbx hrows hs hwB
          go_wp2
          go_ret2
          exact .inr ⟨HNO.out, rfl, by rw [HM.out.2.2.2.2.1]; exact HWB.out⟩
        have hk2 : k + 1 < form.size := by omega
        have hend : ((k : Int) + 1 == (form.size : Int)) = false := by simp; omega
        have hMx : HasM wr M es ck := (hbx.block M hMl).trans HM.out.1
        have hdrop2 : form.data.toList.drop (k + 1) = form[k + 1] :: form.data.toList.drop (k + 2) := by
          rw [List.drop_eq_getElem_cons (by simpa using hk2)]
          simp
          rfl
        obtain ⟨d, hd⟩ : ∃ d, form[k + 1] = d := ⟨_, rfl⟩
        rw [hdrop, hdrop2, hd] at hrest
        have hk3 : (k : Int) + 1 < (form.size : Int) := by omega
        have hk4 : (0 : Int) ≤ (k : Int) + 1 := by omega
        clear hdrop hdrop2 hc hs
        cases hpd : isLet d with
        | true =>
          have HR := Lib.hid (map_cons_app (nest := nest) done [.part d] hrest (by simp [piecesOf, hpd]; rfl))
          obtain ⟨x, hxp, hxk⟩ := isLet_yes hpd
          obtain ⟨v, ⟨iv, hfind⟩, hpv⟩ := HM.out.2.1 x hxp
          rw [hxk] at hpv
          obtain ⟨gg, cap, rf, rfl, ⟨rg, cap2, rfl⟩, hEn, hcall⟩ := hpv.is
          rw [hxk, ← hd] at hfind
          have hlook := map_look (P := Tryz.prog) (xT := 85) Tryz.underlying85 Tryz.underlying5 (key := .int .u8 form[k + 1].toNat) rfl hMx hfind true
          have HX := Lib.hid (And.intro hpd (And.intro hd hpv))
          clear hrest hpd hd hpv hfind hMx hbx hrows hwB hxp hxk hEn hcall
          go_wp2_with fail
          go_region_held3 (fun w' => w'.cell? ⟨wr.heap.size, 0, none⟩ = some (.func (.func gg) #[] cap) ∧ w'.cell? ⟨wr.heap.size, 1, none⟩ = some (.func (.func rg) #[] cap2))
            (first | go_keep | (go_split_ands; exact ⟨(World.cell?_of_block (hgrow.block wr.heap.size (by simp; omega) (fun e => by have := (hown.lt _ e.symm).2; omega))).trans (by assumption), (World.cell?_of_block (hgrow.block wr.heap.size (by simp; omega) (fun e => by have := (hown.lt _ e.symm).2; omega))).trans (by assumption)⟩))
            ((refine step_append_lies _ (by rfl) _ _ 61 (by rfl) b1 73 i0 _ 4 40 Tryz.underlying61 hi hz0 hz1 hz2 (by rfl) (by decide) u5 done.length xs (by rfl) ((hown.alloc _).alloc _) ⟨wr.heap.size + 1, 0, none⟩ 1 1 [.int .u8 form[k + 1].toNat, .string ⟨#[]⟩, .func (.func gg) #[] cap, .func (.func rg) #[] cap2] (by rfl) (by rfl) (World.news_of_block (alloc_second wr _ _)) (by intro u hu; simp at hu; rcases hu with rfl | rfl | rfl | rfl <;> rfl) (by decide) (by unfold maxLen; omega) (by omega) (by simp; omega) (wr.heap.size + 1 + 1) (by simp) ?_; intro gq cq w2 hown2 hgrow hat hlt2))
          go_wp2
          obtain ⟨hpd, hd, hpv⟩ := HX.out
          have hgrow := undrew hgrow
          have hbel := (((HB.out.alloc hbz (.cells #[.func (.func gg) #[] cap, .func (.func rg) #[] cap2] 71)).alloc (by simp; omega) (.cells #[.int .u8 form[k + 1].toNat, .string ⟨#[]⟩, .func (.func gg) #[] cap, .func (.func rg) #[] cap2] 73)).grown hgrow (by simp; omega) (fun j hj => (hown.lt j hj).1))
          have hrow := rows_part HW.out hgrow hat hpd (by rw [hd] : (d.toNat : Int) = (form[k + 1].toNat : Int)) hpv HM.out.2.2.2.1 HM.out.2.2.2.2.1 hbel (hown2.lt _ rfl).1
          clear hpd hd hpv hlook
          go_roundg (gk - 1)
          case measure => omega
          case rel => exact ⟨k + 2, done ++ [Pc.part d], xs ++ [Value.int .u8 form[k + 1].toNat, Value.string ⟨#[]⟩, Value.func (.func gg) #[] cap, Value.func (.func rg) #[] cap2], by go_num, by omega, by omega, HR.out, by simpa using hown2, hrow, hbel, by simp; omega⟩
        | false =>
          have hlack : Lacks es (form[k + 1].toNat : Int) := by
            rw [hd]
            exact HM.out.2.2.1 _ (isLet_no hpd)
          have hmiss := map_miss (P := Tryz.prog) (xT := 85) Tryz.underlying85 Tryz.underlying5 (key := .int .u8 form[k + 1].toNat) rfl hMx hlack (z := .agg #[.nilFunc, .nilFunc]) (by kernel_rfl) true
          by_cases h1 : d = 37
          · subst h1
            have t1 : ((form[k + 1].toNat : Int) == 37) = true := by rw [hd]; rfl
            have HR := Lib.hid (map_cons_app (nest := nest) done [.plain 37] hrest (by simp [piecesOf, hpd]; rfl))
            clear hrest hpd hd hMx hbx hrows hwB hlack
            go_wp2_with (at_builtin; refine wpList_append_lies _ rfl _ _ 61 rfl b1 73 i0 _ 4 40 Tryz.underlying61 hi hz0 hz1 hz2 rfl (by decide) u5 done.length xs rfl ((hown.alloc _).alloc _) ⟨wr.heap.size + 1, 0, none⟩ 1 1 [.int .u8 0, .string ⟨#[37]⟩, .nilFunc, .nilFunc] rfl rfl (World.news_of_block (alloc_second wr _ _)) (by intro u hu; simp at hu; rcases hu with rfl | rfl | rfl | rfl <;> rfl) (by decide) (by unfold maxLen; omega) (by omega) (by simp; omega) (wr.heap.size + 1 + 1) (by simp) ?_; intro g cap w2 hown2 hgrow hat hlt2)
            have hrow := rows_plain2 (c := 37) HW.out hgrow hat rfl
            have hbel := ((HB.out.alloc hbz _).alloc (by simp; omega) _).grown hgrow (by simp; omega) (fun j hj => (hown.lt j hj).1)
            go_roundg (gk - 1)
            case measure => omega
            case rel => exact ⟨k + 2, done ++ [Pc.plain 37], xs ++ [Value.int .u8 0, Value.string ⟨#[37]⟩, Value.nilFunc, Value.nilFunc], by go_num, by omega, by omega, HR.out, by simpa using hown2, hrow, hbel, by simp; omega⟩
          have t1 : ((form[k + 1].toNat : Int) == 37) = false := by
            rw [hd]
            have : d.toNat ≠ 37 := fun e => h1 (UInt8.toNat_inj.1 e)
            simp; omega
          by_cases h68 : d = 68
          · subst h68
            have hne : nest = true := by
              rcases HN.out with h | h
              · exact h
              · cases nest with
                | true => rfl
                | false => exact absurd (map_none hrest (by simp [piecesOf, hpd])) h
            subst hne
            have t2 : ((form[k + 1].toNat : Int) == 68) = true := by rw [hd]; rfl
            have HR := Lib.hid (map_cons_app (nest := true) done dPcs hrest (by simp [piecesOf, hpd]; rfl))
            have HQ := Lib.hid (HTT.out rfl).1
            clear hrest hpd hd hMx hbx hrows hwB hlack h1
            go_wp2_with fail
            refine (HQ.out _).mono ?_
            rintro e w3 hres
            rcases hres with ⟨qs, v2, ys, hqs, rfl, hb3, hown3, hrows3⟩ | ⟨h, _⟩
            case inr => cases h
            obtain rfl : dPcs = qs := Option.some.inj hqs
            clear hqs
            obtain ⟨g2, c2, hv2⟩ : ∃ g2 c2, v2 = .slice (some ⟨g2, 0, none⟩) (dPcs).length c2 := by
              rcases hown3.2 with ⟨_, e⟩ | ⟨g2, c2, cur, e, _⟩
              · exact absurd e (by decide)
              · exact ⟨g2, c2, e⟩
            subst hv2
            have hys := hrows3.length
            have hone := hrows3.one_cell
            have hcells := hown3.cells (g := g2) rfl
            have hownM : w3.ownsRow b1 73 4 u5 done.length xs := (Kept.of_below (S := fun _ => False) hb3).owns (hown.alloc _) (fun _ _ h => h)
            have hz3 := hb3.size
            have hz4 : (wr.alloc (.cells #[.nilFunc, .nilFunc] 71)).heap.size = wr.heap.size + 1 := by simp
            rw [hz4] at hz3
            clear hz4
            have HB3 := Lib.hid (And.intro hb3 (And.intro hown3 (And.intro hrows3 hone)))
            obtain ⟨z3, hz3'⟩ : ∃ z, w3.heap.size = z := ⟨_, rfl⟩
            rw [hz3'] at hz3
            have HZ3 := Lib.hid hz3'
            have HY := Lib.hid (And.intro hys hcells)
            clear hb3 hown3 hrows3 hz3' hys hcells hone
            go_wp2_with (at_builtin; refine wpList_append_lies _ rfl _ _ 61 rfl b1 73 i0 _ 4 40 Tryz.underlying61 hi hz0 hz1 hz2 rfl (by decide) u5 done.length xs rfl hownM ⟨g2, 0, none⟩ 5 c2 ys rfl HY.out.1 HY.out.2 HB3.out.2.2.2 (by decide) (by unfold maxLen; omega) (by omega) (by rw [HZ3.out]; omega) z3 HZ3.out ?_; intro g cap w2 hown2 hgrow hat hlt2)
            obtain ⟨hb3, hown3, hrows3, hone⟩ := HB3.out
            have hbel := (((HB.out.alloc hbz _).trans (hb3.mono (by simp; omega))).grown hgrow (by rw [HZ3.out]; omega) (fun j hj => (hown.lt j hj).1))
            have hrow := rows_inner HW.out (fun j hj => (hown.lt j hj).2) hb3 hrows3 hgrow (HZ3.out ▸ hat) hBb hbz
            clear hb3 hown3 hrows3 hone
            go_roundg (gk - 1)
            case measure => omega
            case rel => exact ⟨k + 2, done ++ dPcs, xs ++ ys, by go_num, by omega, by omega, HR.out, by simpa [dPcs] using hown2, hrow, hbel, by simp [dPcs]; omega⟩
          have t2 : ((form[k + 1].toNat : Int) == 68) = false := by
            rw [hd]
            have : d.toNat ≠ 68 := fun e => h68 (UInt8.toNat_inj.1 e)
            simp; omega
          by_cases h84 : d = 84
          · subst h84
            have hne : nest = true := by
              rcases HN.out with h | h
              · exact h
              · cases nest with
                | true => rfl
                | false => exact absurd (map_none hrest (by simp [piecesOf, hpd])) h
            subst hne
            have t3 : ((form[k + 1].toNat : Int) == 84) = true := by rw [hd]; rfl
            have HR := Lib.hid (map_cons_app (nest := true) done tPcs hrest (by simp [piecesOf, hpd]; rfl))
            have HQ := Lib.hid (HTT.out rfl).2
            clear hrest hpd hd hMx hbx hrows hwB hlack h1 h68
            go_wp2_with fail
            refine (HQ.out _).mono ?_
            rintro e w3 hres
            rcases hres with ⟨qs, v2, ys, hqs, rfl, hb3, hown3, hrows3⟩ | ⟨h, _⟩
            case inr => cases h
            obtain rfl : tPcs = qs := Option.some.inj hqs
            clear hqs
            obtain ⟨g2, c2, hv2⟩ : ∃ g2 c2, v2 = .slice (some ⟨g2, 0, none⟩) (tPcs).length c2 := by
              rcases hown3.2 with ⟨_, e⟩ | ⟨g2, c2, cur, e, _⟩
              · exact absurd e (by decide)
              · exact ⟨g2, c2, e⟩
            subst hv2
            have hys := hrows3.length
            have hone := hrows3.one_cell
            have hcells := hown3.cells (g := g2) rfl
            have hownM : w3.ownsRow b1 73 4 u5 done.length xs := (Kept.of_below (S := fun _ => False) hb3).owns (hown.alloc _) (fun _ _ h => h)
            have hz3 := hb3.size
            have hz4 : (wr.alloc (.cells #[.nilFunc, .nilFunc] 71)).heap.size = wr.heap.size + 1 := by simp
            rw [hz4] at hz3
            clear hz4
            have HB3 := Lib.hid (And.intro hb3 (And.intro hown3 (And.intro hrows3 hone)))
            obtain ⟨z3, hz3'⟩ : ∃ z, w3.heap.size = z := ⟨_, rfl⟩
            rw [hz3'] at hz3
            have HZ3 := Lib.hid hz3'
            have HY := Lib.hid (And.intro hys hcells)
            clear hb3 hown3 hrows3 hz3' hys hcells hone
            go_wp2_with (at_builtin; refine wpList_append_lies _ rfl _ _ 61 rfl b1 73 i0 _ 4 40 Tryz.underlying61 hi hz0 hz1 hz2 rfl (by decide) u5 done.length xs rfl hownM ⟨g2, 0, none⟩ 5 c2 ys rfl HY.out.1 HY.out.2 HB3.out.2.2.2 (by decide) (by unfold maxLen; omega) (by omega) (by rw [HZ3.out]; omega) z3 HZ3.out ?_; intro g cap w2 hown2 hgrow hat hlt2)
            obtain ⟨hb3, hown3, hrows3, hone⟩ := HB3.out
            have hbel := (((HB.out.alloc hbz _).trans (hb3.mono (by simp; omega))).grown hgrow (by rw [HZ3.out]; omega) (fun j hj => (hown.lt j hj).1))
            have hrow := rows_inner HW.out (fun j hj => (hown.lt j hj).2) hb3 hrows3 hgrow (HZ3.out ▸ hat) hBb hbz
            clear hb3 hown3 hrows3 hone
            go_roundg (gk - 1)
            case measure => omega
            case rel => exact ⟨k + 2, done ++ tPcs, xs ++ ys, by go_num, by omega, by omega, HR.out, by simpa [tPcs] using hown2, hrow, hbel, by simp [tPcs]; omega⟩
          have t3 : ((form[k + 1].toNat : Int) == 84) = false := by
            rw [hd]
            have : d.toNat ≠ 84 := fun e => h84 (UInt8.toNat_inj.1 e)
            simp; omega
          have HNO := Lib.hid (map_none hrest (by simp [piecesOf, hpd, h1, h68, h84]))
          clear hrest hpd hd hMx hbx hrows hwB hlack h1 h68 h84
          go_wp2
          go_ret2
          exact .inr ⟨HNO.out, rfl, by rw [HM.out.2.2.2.2.1]; exact HWB.out.alloc (by have := HWB.out.size; omega) _⟩
      · rw [hdrop, piecesOf_plain nest h37] at hrest
        have HR := Lib.hid (map_cons_app (nest := nest) done [.plain c] hrest rfl)
        have hne : ((form[k].toNat : Int) != 37) = true := by
          rw [hc]
          have : c.toNat ≠ 37 := fun e => h37 (UInt8.toNat_inj.1 e)
          simp; omega
        have HC := Lib.hid hc
        clear hrest hc hdrop h37 hbx hrows hs hwB
        go_wp2_with (at_builtin; refine wpList_append_lies _ rfl _ _ 61 rfl b1 73 i0 _ 4 40 Tryz.underlying61 hi hz0 hz1 hz2 rfl (by decide) u5 done.length xs rfl (hown.alloc _) ⟨wr.heap.size, 0, none⟩ 1 1 [.int .u8 0, .string (form.extract k (k + 1)), .nilFunc, .nilFunc] rfl rfl (World.news_of_block (heap_alloc_new wr _)) (by intro u hu; simp at hu; rcases hu with rfl | rfl | rfl | rfl <;> rfl) (by decide) (by unfold maxLen; omega) (by omega) (by simp; omega) (wr.heap.size + 1) (by simp) ?_; intro g cap w2 hown2 hgrow hat hlt2)
        have hrow := rows_plain HW.out hgrow hat (extract_one form k hlt HC.out)
        have hbel := (HB.out.alloc hbz _).grown hgrow (by simp; omega) (fun j hj => (hown.lt j hj).1)
        go_roundg (gk - 1)
        case measure => omega
        case rel => exact ⟨k + 1, done ++ [Pc.plain c], xs ++ [Value.int .u8 0, Value.string (form.extract k (k + 1)), Value.nilFunc, Value.nilFunc], by go_num, by omega, by omega, HR.out, by simpa using hown2, hrow, hbel, by simp; omega⟩
    · obtain rfl : k = form.size := by omega
      have he : r0 = some done := by
        rw [hrest, List.drop_of_length_le (by simp)]
        simp [piecesOf]
      have HE := Lib.hid he
      have HB := Lib.hid hbx
      have HW := Lib.hid hrows
      clear hrest hbx hrows hlt he
      go_wp2_with fail
      go_ret2
      refine .inl ⟨done, u5, xs, HE.out, rfl, ?_, ?_, ?_⟩
      · exact HM.out.2.2.2.2.2.1.trans (HB.out.mono (by rw [HM.out.2.2.2.2.1]; exact hBb))
      · exact hown.mono (by rw [HM.out.2.2.2.2.1]; exact hBb)
      · rw [HM.out.2.2.2.2.1]; exact HW.out
end Go.Proofs.YtcgabonoddloiaaGreatDoor.Wr
