/- pieces of the program: a form whose letters are parts of the date, or T. -/
import Derived.Test.YtcgabonoddloiaaGreatDoorLetters
import Derived.Test.YtcgabonoddloiaaGreatDoorPc
import Derived.Test.YtcgabonoddloiaaGreatDoorHas
import Derived.Deep.AppendLies
import Derived.Deep.RegionLaw
import Derived.Deep.RegionHeld3
import Derived.Deep.LoopGhost
import Derived.Deep.Onto
import Derived.Deep.CutBlock
import Derived.Deep.DeepCutAuto
namespace Go.Proofs.YtcgabonoddloiaaGreatDoor
open Go.RowKit Clk Go.ChangeMaps

theorem Tryz.infoPc : (Tryz.prog.info? 73).map (fun i => (i.zero, i.size, i.bytes)) = some (some (.agg #[.int .u8 0, .string ⟨#[]⟩, .nilFunc, .nilFunc]), 4, 40) := by kernel_rfl

/-- What pieces answers. -/
def PiecesSay (form : ByteArray) (ps : List Pc) : Prop := ∀ w : World, Calls Tryz.prog 64 #[.string form] w fun e w' => ∃ v xs, e = .returned (.tuple #[v, .int .i64 0]) ∧ Below w.heap.size w w' ∧ w'.ownsRow w.heap.size 73 4 v ps.length xs ∧ RowsAre v.ownBlock w.heap.size w' xs ps

theorem piecesOf_plain (tt : Option (List Pc)) {c : UInt8} (hc : c ≠ 37) (r : List UInt8) : piecesOf tt (c :: r) = (piecesOf tt r).map (.plain c :: ·) := by
  cases r with
  | nil => simp [piecesOf, hc]
  | cons d r => simp [piecesOf, hc]

theorem rows_plain {own : Option Nat} {B : Nat} {w : World} {xs : List Value} {ps : List Pc} (h : RowsAre own B w xs ps) {o : Obj} {w2 : World} {g : Nat} (hg : (w.alloc o).grownBy w2 own) (ha : own = some g ∨ g = w.heap.size + 1) {s : ByteArray} {c : UInt8} (hs : s = ⟨#[c]⟩) :
    RowsAre (some g) B w2 (xs ++ [.int .u8 0, .string s, .nilFunc, .nilFunc]) (ps ++ [.plain c]) := by
  refine (h.imp fun cs p k => ?_).append (.one (by rw [hs]; rfl))
  refine ((k.below ((Below.refl _ _).alloc (Nat.le_refl _) o)).grown hg fun j hj => ?_)
  cases hj
  rcases ha with e | e
  · exact .inl e
  · exact .inr (by simp; omega)

theorem rows_part {own : Option Nat} {B b1 : Nat} {w w0 w1 : World} {xs : List Value} {ps : List Pc} (h : RowsAre own B w xs ps) {o o' : Obj} {w2 : World} {g : Nat} (hg : ((w.alloc o).alloc o').grownBy w2 own) (ha : own = some g ∨ g = w.heap.size + 1 + 1) {x : Part} (hx : x ∈ parts) {key : Int} (hk : x.2.2.2.2 = key) {wf rf : Value}
    (hp : PartIs w0.heap.size w1.heap.size (.agg #[wf, rf]) w1 x.2.2.1 x.2.2.2.1) (h1 : w1.heap.size = b1) (h0 : w0.heap.size = B) (hb : Below b1 w1 w2) (hgb : b1 ≤ g) :
    RowsAre (some g) B w2 (xs ++ [.int .u8 key, .string ⟨#[]⟩, wf, rf]) (ps ++ [.part x]) := by
  refine (h.imp fun cs p k => ?_).append (.one ⟨hx, wf, rf, _, _, by rw [hk], hp.below (h1 ▸ hb), by omega, fun k hk' => ?_⟩)
  · refine ((k.below (((Below.refl _ _).alloc (Nat.le_refl _) o).alloc (by simp) o')).grown hg fun j hj => ?_)
    cases hj
    rcases ha with e | e
    · exact .inl e
    · exact .inr (by simp; omega)
  · cases hk'
    exact .inr (by omega)

theorem rows_inner {own own2 : Option Nat} {B b1 : Nat} {w w3 : World} {xs ys : List Value} {ps qs : List Pc} (h : RowsAre own B w xs ps) (hlt : ∀ k, own = some k → k < w.heap.size) {o : Obj} (hb : Below (w.alloc o).heap.size (w.alloc o) w3)
    (k : RowsAre own2 (w.alloc o).heap.size w3 ys qs) {w4 : World} {g : Nat} (hg : w3.grownBy w4 own) (ha : own = some g ∨ g = w3.heap.size) (hBb : B ≤ b1) (hbw : b1 ≤ w.heap.size) :
    RowsAre (some g) B w4 (xs ++ ys) (ps ++ qs) := by
  have hs : (w.alloc o).heap.size = w.heap.size + 1 := by simp
  refine (h.imp fun cs p q => ?_).append (k.imp fun cs p q => ?_)
  · refine (((q.below ((Below.refl _ _).alloc (Nat.le_refl _) o)).below hb).grown hg fun j hj => ?_)
    cases hj
    rcases ha with e | e
    · exact .inl e
    · exact .inr (by omega)
  · cases p with
    | plain c => exact q
    | part x =>
      obtain ⟨hx, wf, rf, lo, hi, e, hp, hB, hk⟩ := q
      refine ⟨hx, wf, rf, lo, hi, e, hp.kept (fun j h1 h2 => hg.block j (Nat.lt_of_lt_of_le h2 hp.le) (fun e => ?_)) hg.size, by omega, fun j hj => ?_⟩
      · have := hlt j e.symm
        omega
      · cases hj
        rcases ha with e | e
        · exact .inl (by have := hlt _ e; omega)
        · exact .inr (by have := hp.le; omega)

theorem undrew {w w' : World} {own : Option Nat} (h : w.drew.grownBy w' own) : w.grownBy w' own := ⟨h.os, h.tape, h.output, h.size, h.block⟩

theorem alloc_second (w : World) (o p : Obj) : ((w.alloc o).alloc p).heap[w.heap.size + 1]? = some p := by
  have := heap_alloc_new (w.alloc o) p
  have e : (w.alloc o).heap.size = w.heap.size + 1 := by simp
  rwa [e] at this

theorem extract_one (form : ByteArray) (k : Nat) (hk : k < form.size) {c : UInt8} (hc : form[k] = c) : form.extract k (k + 1) = ⟨#[c]⟩ := by
  apply ByteArray.ext
  apply Array.ext
  · simp; omega
  · intro i h1 h2
    have : i = 0 := by simp at h2; omega
    subst this
    simp
    exact hc

def tForm : ByteArray := ⟨#[37, 72, 58, 37, 77, 58, 37, 83]⟩

set_option maxRecDepth 100000 in
set_option maxHeartbeats 4000000 in
theorem pieces_gen (tt : Option (List Pc)) (HT : ∀ qs, tt = some qs → PiecesSay tForm qs ∧ 0 < qs.length ∧ qs.length ≤ 100) (form : ByteArray) (hlen : form.size ≤ 100) (ps : List Pc) (hps : piecesOf tt form.data.toList = some ps) (hpl : ps.length ≤ 1000) : PiecesSay form ps := by
  intro w
  obtain ⟨i0, hi, hz0, hz1, hz2⟩ := info_parts Tryz.infoPc
  have HPS := Lib.hid hps
  have HTT := Lib.hid HT
  clear hps HT
  go_enter Tryz.func64, Tryz.ntmps64
  go_wp2_with fail
  refine (letters_any _).mono ?_
  rintro e w1 ⟨M, es, ck, rfl, hM, hb1, hP, hq, hBM⟩
  obtain ⟨b1, hb1s⟩ : ∃ b, w1.heap.size = b := ⟨_, rfl⟩
  obtain ⟨B, hBs⟩ : ∃ b, w.heap.size = b := ⟨_, rfl⟩
  have hBb : B ≤ b1 := by have := hb1.size; omega
  have hMl : M < b1 := hb1s ▸ hM.lt
  have HM := Lib.hid (And.intro hM (And.intro hP (And.intro hq (And.intro hb1s (And.intro hBs (And.intro hb1 hBM))))))
  clear hM hP hq hb1s hBs hb1
  go_wp2_with fail
  go_loopg [5, 6] form.size (fun g v5 v6 wx => ∃ (k : Nat) (rest done : List Pc) (xs : List Value), v6 = .int .i64 k ∧ k ≤ form.size ∧ form.size - k ≤ g ∧ piecesOf tt (form.data.toList.drop k) = some rest ∧ ps = done ++ rest ∧ wx.ownsRow b1 73 4 v5 done.length xs ∧ RowsAre v5.ownBlock B wx xs done ∧ Below b1 w1 wx)
  case atStart =>
    exact ⟨0, ps, [], [], rfl, Nat.zero_le _, by omega, by rw [List.drop_zero]; exact HPS.out, rfl, World.ownsRow_nil _ _ _ _, .nil, Below.refl _ _⟩
  case round =>
    obtain ⟨k, rest, done, xs, rfl, hk, hkg, hrest, hsp, hown, hrows, hbx⟩ := hrel
    by_cases hlt : k < form.size
    · have hdrop : form.data.toList.drop k = form[k] :: form.data.toList.drop (k + 1) := by
        rw [List.drop_eq_getElem_cons (by simpa using hlt)]
        simp
        rfl
      obtain ⟨c, hc⟩ : ∃ c, form[k] = c := ⟨_, rfl⟩
      rw [hc] at hdrop
      have hs := hbx.size
      have hs1 : b1 ≤ wr.heap.size := by rw [← HM.out.2.2.2.1]; exact hs
      by_cases h37 : c = 37
      · subst h37
        obtain ⟨d, r, hdr, hk2⟩ : ∃ d r, form.data.toList.drop (k + 1) = d :: r ∧ k + 1 < form.size := by
          cases hd : form.data.toList.drop (k + 1) with
          | nil =>
            rw [hdrop, hd] at hrest
            simp [piecesOf] at hrest
          | cons d r =>
            refine ⟨d, r, rfl, ?_⟩
            have := congrArg List.length hd
            simp at this
            omega
        have hdrop2 : form.data.toList.drop (k + 1) = form[k + 1] :: form.data.toList.drop (k + 2) := by
          rw [List.drop_eq_getElem_cons (by simpa using hk2)]
          simp
          rfl
        rw [hdr] at hdrop2
        obtain ⟨hd, hr⟩ := List.cons.inj hdrop2
        rw [hdrop, hdr, hr] at hrest
        have hdl : done.length ≤ 1000 := by rw [hsp] at hpl; simp at hpl; omega
        have hbz : b1 ≤ wr.heap.size := hs1
        have hb0 : ((form[k].toNat : Int) != 37) = false := by rw [hc]; rfl
        have hend : ((k : Int) + 1 == (form.size : Int)) = false := by simp; omega
        have hMx : HasM wr M es ck := (hbx.block M hMl).trans HM.out.1
        have HB := Lib.hid hbx
        have HW := Lib.hid hrows
        cases hpd : partOf d with
        | some x =>
          have hrest2 : (piecesOf tt (form.data.toList.drop (k + 2))).map (Pc.part x :: ·) = some rest := by simpa [piecesOf, hpd] using hrest
          obtain ⟨rest', hr', rfl⟩ := Option.map_eq_some_iff.1 hrest2
          obtain ⟨hxp, hxk⟩ := partOf_spec hpd
          obtain ⟨v, ⟨iv, hfind⟩, hpv⟩ := HM.out.2.1 x hxp
          obtain ⟨pa, pb, pc, rfl, hpart⟩ := hpv.is
          rw [hxk, hd] at hfind
          have hlook := map_look (P := Tryz.prog) (xT := 85) Tryz.underlying85 Tryz.underlying5 (key := .int .u8 form[k + 1].toNat) rfl hMx hfind true
          have HR := Lib.hid hr'
          have HS := Lib.hid hsp
          have HX := Lib.hid (And.intro hxp (And.intro hxk (And.intro hd (And.intro hpv hfind))))
          have hk3 : (k : Int) + 1 < (form.size : Int) := by omega
          have hk4 : (0 : Int) ≤ (k : Int) + 1 := by omega
          clear hr' hrest hrest2 hc hsp hdrop hdrop2 hbx hrows hs hr hdr hd hpd hxp hxk hpv hpart hfind hMx
          go_wp2_with fail
          go_region_held3 (fun w' => w'.cell? ⟨wr.heap.size, 0, none⟩ = some (.func (.func 104) #[] #[.pointer (some ⟨pb, 0, none⟩), .pointer (some ⟨pc, 0, none⟩)]) ∧ w'.cell? ⟨wr.heap.size, 1, none⟩ = some (.func (.func 106) #[] #[.pointer (some ⟨pc, 0, none⟩)]))
            (first | go_keep | (go_split_ands; exact ⟨(World.cell?_of_block (hgrow.block wr.heap.size (by simp; omega) (fun e => by have := (hown.lt _ e.symm).2; omega))).trans (by assumption), (World.cell?_of_block (hgrow.block wr.heap.size (by simp; omega) (fun e => by have := (hown.lt _ e.symm).2; omega))).trans (by assumption)⟩))
            ((refine step_append_lies _ (by rfl) _ _ 61 (by rfl) b1 73 i0 _ 4 40 Tryz.underlying61 hi hz0 hz1 hz2 (by rfl) (by decide) u5 done.length xs (by rfl) ((hown.alloc _).alloc _) ⟨wr.heap.size + 1, 0, none⟩ 1 1 [.int .u8 form[k + 1].toNat, .string ⟨#[]⟩, .func (.func 104) #[] #[.pointer (some ⟨pb, 0, none⟩), .pointer (some ⟨pc, 0, none⟩)], .func (.func 106) #[] #[.pointer (some ⟨pc, 0, none⟩)]] (by rfl) (by rfl) (World.news_of_block (alloc_second wr _ _)) (by intro u hu; simp at hu; rcases hu with rfl | rfl | rfl | rfl <;> rfl) (by decide) (by unfold maxLen; omega) (by omega) (by simp; omega) (wr.heap.size + 1 + 1) (by simp) ?_; intro g cap w2 hown2 hgrow hat hlt2))
          go_wp2
          obtain ⟨hxp, hxk, hd, hpv, hfind⟩ := HX.out
          have hgrow := undrew hgrow
          have hbel := (((HB.out.alloc hbz (.cells #[.func (.func 104) #[] #[.pointer (some ⟨pb, 0, none⟩), .pointer (some ⟨pc, 0, none⟩)], .func (.func 106) #[] #[.pointer (some ⟨pc, 0, none⟩)]] 71)).alloc (by simp; omega) (.cells #[.int .u8 form[k + 1].toNat, .string ⟨#[]⟩, .func (.func 104) #[] #[.pointer (some ⟨pb, 0, none⟩), .pointer (some ⟨pc, 0, none⟩)], .func (.func 106) #[] #[.pointer (some ⟨pc, 0, none⟩)]] 73)).grown hgrow (by simp; omega) (fun j hj => (hown.lt j hj).1))
          have hrow := rows_part HW.out hgrow hat hxp (by rw [hxk, hd] : x.2.2.2.2 = (form[k + 1].toNat : Int)) hpv HM.out.2.2.2.1 HM.out.2.2.2.2.1 hbel (hown2.lt g rfl).1
          clear hxp hxk hd hpv hfind hlook
          go_roundg (gk - 1)
          case measure => omega
          case rel => exact ⟨k + 2, rest', done ++ [Pc.part x], xs ++ [Value.int .u8 form[k + 1].toNat, Value.string ⟨#[]⟩, Value.func (.func 104) #[] #[.pointer (some ⟨pb, 0, none⟩), .pointer (some ⟨pc, 0, none⟩)], Value.func (.func 106) #[] #[.pointer (some ⟨pc, 0, none⟩)]], by go_num, by omega, by omega, HR.out, by rw [HS.out]; simp, by simpa using hown2, hrow, hbel⟩
        | none =>
          have h84 : d = 84 := by
            by_cases h : d = 84
            · exact h
            · simp [piecesOf, hpd, h] at hrest
          subst h84
          obtain ⟨qs, rest', htt, hr', rfl⟩ : ∃ qs rest', tt = some qs ∧ piecesOf tt (form.data.toList.drop (k + 2)) = some rest' ∧ rest = qs ++ rest' := by
            cases htt : tt with
            | none => rw [htt] at hrest; simp [piecesOf, hpd] at hrest
            | some qs =>
              cases hr2 : piecesOf tt (form.data.toList.drop (k + 2)) with
              | none => rw [htt] at hrest hr2; simp [piecesOf, hpd, hr2] at hrest
              | some rest' =>
                rw [htt] at hrest hr2
                exact ⟨qs, rest', rfl, hr2, by simpa [piecesOf, hpd, hr2] using hrest.symm⟩
          obtain ⟨hsay, hq0, hql⟩ := HTT.out qs htt
          have hlack : Lacks es (form[k + 1].toNat : Int) := by
            rw [← hd]
            exact HM.out.2.2.1 84 (by decide)
          have hmiss := map_miss (P := Tryz.prog) (xT := 85) Tryz.underlying85 Tryz.underlying5 (key := .int .u8 form[k + 1].toNat) rfl hMx hlack (z := .agg #[.nilFunc, .nilFunc]) (by kernel_rfl) true
          have t1 : ((form[k + 1].toNat : Int) == 37) = false := by rw [← hd]; rfl
          have t2 : ((form[k + 1].toNat : Int) == 68) = false := by rw [← hd]; rfl
          have t3 : ((form[k + 1].toNat : Int) == 84) = true := by rw [← hd]; rfl
          have HR := Lib.hid hr'
          have HS := Lib.hid hsp
          have HQ := Lib.hid hsay
          have hk3 : (k : Int) + 1 < (form.size : Int) := by omega
          have hk4 : (0 : Int) ≤ (k : Int) + 1 := by omega
          clear hr' hrest hc hsp hdrop hdrop2 hbx hrows hs hr hdr hd hpd hsay htt hlack hMx
          go_wp2_with fail
          refine (HQ.out _).mono ?_
          rintro e w3 ⟨v2, ys, rfl, hb3, hown3, hrows3⟩
          obtain ⟨g2, c2, hv2⟩ : ∃ g2 c2, v2 = .slice (some ⟨g2, 0, none⟩) qs.length c2 := by
            rcases hown3.2 with ⟨_, e⟩ | ⟨g2, c2, cur, e, _⟩
            · omega
            · exact ⟨g2, c2, e⟩
          subst hv2
          have hys := hrows3.length
          have hone := hrows3.one_cell
          have hcells := hown3.cells (g := g2) rfl
          have hownM : w3.ownsRow b1 73 4 u5 done.length xs := (Kept.of_below (S := fun _ => False) hb3).owns (hown.alloc _) (fun _ _ h => h)
          have hz3 := hb3.size
          have hz4 : (wr.alloc (.cells #[.nilFunc, .nilFunc] 71)).heap.size = wr.heap.size + 1 := by simp
          rw [hz4] at hz3
          clear hz4
          have HB3 := Lib.hid (And.intro hb3 (And.intro hown3 (And.intro hrows3 hone)))
          obtain ⟨z3, hz3'⟩ : ∃ z, w3.heap.size = z := ⟨_, rfl⟩
          rw [hz3'] at hz3
          have HZ3 := Lib.hid hz3'
          have HY := Lib.hid (And.intro hys hcells)
          clear hb3 hown3 hrows3 hz3' hys hcells hone
          go_wp2_with (at_builtin; refine wpList_append_lies _ rfl _ _ 61 rfl b1 73 i0 _ 4 40 Tryz.underlying61 hi hz0 hz1 hz2 rfl (by decide) u5 done.length xs rfl hownM ⟨g2, 0, none⟩ qs.length c2 ys rfl HY.out.1 HY.out.2 HB3.out.2.2.2 hq0 (by unfold maxLen; omega) (by omega) (by rw [HZ3.out]; omega) z3 HZ3.out ?_; intro g cap w2 hown2 hgrow hat hlt2)
          obtain ⟨hb3, hown3, hrows3, hone⟩ := HB3.out
          have hbel := (((HB.out.alloc hbz _).trans (hb3.mono (by simp; omega))).grown hgrow (by rw [HZ3.out]; omega) (fun j hj => (hown.lt j hj).1))
          have hrow := rows_inner HW.out (fun j hj => (hown.lt j hj).2) hb3 hrows3 hgrow (HZ3.out ▸ hat) hBb hbz
          clear hb3 hown3 hrows3 hone
          go_roundg (gk - 1)
          case measure => omega
          case rel => exact ⟨k + 2, rest', done ++ qs, xs ++ ys, by go_num, by omega, by omega, HR.out, by rw [HS.out]; simp, by simpa using hown2, hrow, hbel⟩
      · rw [hdrop, piecesOf_plain tt h37] at hrest
        obtain ⟨rest', hr', rfl⟩ := Option.map_eq_some_iff.1 hrest
        have hne : ((form[k].toNat : Int) != 37) = true := by
          rw [hc]
          have : c.toNat ≠ 37 := fun e => h37 (UInt8.toNat_inj.1 e)
          simp; omega
        have HR := Lib.hid hr'
        have HC := Lib.hid hc
        have HS := Lib.hid hsp
        have hdl : done.length ≤ 1000 := by rw [hsp] at hpl; simp at hpl; omega
        have hbz : b1 ≤ wr.heap.size := hs1
        have HB := Lib.hid hbx
        have HW := Lib.hid hrows
        clear hr' hrest hc hsp hdrop h37 hbx hrows hs
        go_wp2_with (at_builtin; refine wpList_append_lies _ rfl _ _ 61 rfl b1 73 i0 _ 4 40 Tryz.underlying61 hi hz0 hz1 hz2 rfl (by decide) u5 done.length xs rfl (hown.alloc _) ⟨wr.heap.size, 0, none⟩ 1 1 [.int .u8 0, .string (form.extract k (k + 1)), .nilFunc, .nilFunc] rfl rfl (World.news_of_block (heap_alloc_new wr _)) (by intro u hu; simp at hu; rcases hu with rfl | rfl | rfl | rfl <;> rfl) (by decide) (by unfold maxLen; omega) (by omega) (by simp; omega) (wr.heap.size + 1) (by simp) ?_; intro g cap w2 hown2 hgrow hat hlt2)
        have hrow := rows_plain HW.out hgrow hat (extract_one form k hlt HC.out)
        have hbel := (HB.out.alloc hbz _).grown hgrow (by simp; omega) (fun j hj => (hown.lt j hj).1)
        go_roundg (gk - 1)
        case measure => omega
        case rel => exact ⟨k + 1, rest', done ++ [Pc.plain c], xs ++ [Value.int .u8 0, Value.string (form.extract k (k + 1)), Value.nilFunc, Value.nilFunc], by go_num, by omega, by omega, HR.out, by rw [HS.out]; simp, by simpa using hown2, hrow, hbel⟩
    · obtain rfl : k = form.size := by omega
      have he : rest = [] := by
        rw [List.drop_of_length_le (by simp)] at hrest
        simpa [piecesOf] using hrest.symm
      subst he
      rw [List.append_nil] at hsp
      subst hsp
      have HB := Lib.hid hbx
      have HW := Lib.hid hrows
      clear hrest hbx hrows hlt
      go_wp2_with fail
      go_ret2
      refine ⟨u5, xs, rfl, ?_, ?_, ?_⟩
      · exact HM.out.2.2.2.2.2.1.trans (HB.out.mono (by rw [HM.out.2.2.2.2.1]; exact hBb))
      · exact hown.mono (by rw [HM.out.2.2.2.2.1]; exact hBb)
      · rw [HM.out.2.2.2.2.1]; exact HW.out
end Go.Proofs.YtcgabonoddloiaaGreatDoor
