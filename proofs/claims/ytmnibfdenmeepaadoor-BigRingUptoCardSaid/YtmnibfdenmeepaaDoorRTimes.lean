/- times of the reference. -/
import Derived.Test.YtmnibfdenmeepaaDoorRPlus
import Derived.Deep.QuietTactic
import Derived.BigQuiet
namespace Go.Proofs.YtmnibfdenmeepaaDoor
open Go.RowKit Go.Shelf Big

/-- Words of inoughts. -/
def inoughts (n : Nat) : Array Value := madeCells #[.int .i64 0] n
theorem inoughts_size (n : Nat) : (inoughts n).size = n := size_madeCells _ _
theorem inoughts_list (n : Nat) : (inoughts n).toList = (List.replicate n 0).map i64v := by
  rw [inoughts, toList_madeCells_one, List.map_replicate]; rfl
theorem imake_any (l c : Int) (a n : Nat) (hl : l = a) (hc : c = n) (ha : a ≤ n) (hn : n ≤ 1000000000) (W : World) :
    (Instr.makeSlice 49 (.int .i64 l) (.int .i64 c)).run Tryd.prog W = .ok (.slice (some ⟨W.heap.size, 0, none⟩) a n) (W.alloc (.cells (inoughts n) 3)) := by
  obtain ⟨i0, hi, hz0, hz1, hz2⟩ := info_parts Tryd.info3
  subst hl hc
  have := run_make (P := Tryd.prog) W 49 3 i0 (.int .i64 0) Tryd.underlying49 hi hz0 .i64 .i64 (a : Int) (n : Int) (by omega) (by omega) (by rw [hz2]; omega) (by omega)
  rw [hz1] at this
  simpa [inoughts, Value.cells] using this

def IRow (w : World) (B g cap : Nat) (ds : List Nat) : Prop := w.ownsRow B 3 1 (.slice (some ⟨g, 0, none⟩) ds.length cap) ds.length (ds.map i64v)
theorem IRow.put {w : World} {B g cap : Nat} {ds : List Nat} (h : IRow w B g cap ds) (j q : Nat) : IRow (w.setCell ⟨g, j, none⟩ (.int .i64 (q : Int))) B g cap (ds.set j q) := by
  have := (World.ownsRow.stored h j (.int .i64 (q : Int))).1
  unfold IRow
  rw [List.length_set, List.map_set]
  exact this
theorem IRow.cell {w : World} {B g cap : Nat} {ds : List Nat} (h : IRow w B g cap ds) (j : Nat) (hj : j < ds.length) : w.cell? ⟨g, j, none⟩ = some (.int .i64 (ds[j] : Int)) := by
  rw [World.ownsRow.cellAt h j (by omega), List.getElem?_map, List.getElem?_eq_getElem hj]; rfl
theorem IRow.free {w : World} {B g cap : Nat} {ds : List Nat} (h : IRow w B g cap ds) (j : Nat) : w.frozen? ⟨g, j, none⟩ = false := World.ownsRow.frozenAt h j
theorem IRow.made (w : World) (B n : Nat) (hB : B ≤ w.heap.size) (hn : n ≤ 1000000000) : IRow (w.alloc (.cells (inoughts n) 3)) B w.heap.size n (List.replicate n 0) := by
  unfold IRow
  have := World.ownsRow_lit (base := B) (e := 3) (size := 1) w (inoughts n) n hB (by unfold maxLen; omega) (by rw [inoughts_size]; omega)
  rw [inoughts_list] at this
  rw [List.length_replicate]
  exact this
theorem IRow.row {w : World} {B g cap : Nat} {ds : List Nat} (h : IRow w B g cap ds) : w.ownsRow B 3 1 (.slice (some ⟨g, 0, none⟩) ds.length cap) ds.length (ds.map i64v) := h
theorem IRow.drew {w : World} {B g cap : Nat} {ds : List Nat} (h : IRow w B g cap ds) : IRow w.drew B g cap ds := h

theorem rtm_step (od db : List Nat) (i j x y o c X _k0 : Nat) (hp : i + j < od.length) (hy : db.getD j 0 = y) (ho : od.getD (i + j) 0 = o)
    (he : ev 10 od + 10 ^ (i + j) * c = X + x * ev 10 (db.take j) * 10 ^ i) :
    ev 10 (od.set (i + j) ((x * y + o + c) % 10)) + 10 ^ (i + (j + 1)) * ((x * y + o + c) / 10) = X + x * ev 10 (db.take (j + 1)) * 10 ^ i := by
  have h1 := ev_set 10 od (i + j) ((x * y + o + c) % 10) hp
  rw [ho] at h1
  have h2 := Nat.mod_add_div (x * y + o + c) 10
  have h3 : 10 ^ (i + j) * ((x * y + o + c) % 10) + 10 ^ (i + (j + 1)) * ((x * y + o + c) / 10) = 10 ^ (i + j) * (x * y) + 10 ^ (i + j) * o + 10 ^ (i + j) * c := by
    rw [← Nat.add_assoc i j 1, Nat.pow_succ, Nat.mul_assoc, ← Nat.mul_add, h2, Nat.mul_add, Nat.mul_add]
  have h4 : x * ev 10 (db.take (j + 1)) * 10 ^ i = x * ev 10 (db.take j) * 10 ^ i + 10 ^ (i + j) * (x * y) := by
    rw [ev_take_succ, hy, Nat.mul_add, Nat.add_mul]
    congr 1
    rw [Nat.pow_add, Nat.mul_left_comm x, Nat.mul_comm _ (10 ^ i), Nat.mul_assoc]
  rw [h4]
  omega
theorem rtm_end (od : List Nat) (da : List Nat) (i lb x c k : Nat) (hp : i + lb < od.length) (h0 : od.getD (i + lb) 0 = 0) (hx : da.getD i 0 = x)
    (he : ev 10 od + 10 ^ (i + lb) * c = ev 10 (da.take i) * k + x * k * 10 ^ i) :
    ev 10 (od.set (i + lb) c) = ev 10 (da.take (i + 1)) * k := by
  have h1 := ev_set 10 od (i + lb) c hp
  rw [h0, Nat.mul_zero, Nat.add_zero] at h1
  rw [h1, he, ev_take_succ, hx, Nat.add_mul]
  congr 1
  rw [Nat.mul_comm (10 ^ i) x, Nat.mul_right_comm]

theorem belowN {B : Nat} {w w' : World} (h : Below B w w') (n : Nat) : Below B w (w'.drewN n) := h.trans ⟨rfl, rfl, rfl, Nat.le_refl _, fun _ _ => rfl⟩
theorem IRow.drewN {w : World} {B g cap : Nat} {ds : List Nat} (h : IRow w B g cap ds) (n : Nat) : IRow (w.drewN n) B g cap ds := h
theorem ten_set {ds : List Nat} (h : Ten ds) (j q : Nat) (hq : q < 10) : Ten (ds.set j q) := by
  intro d hd
  rcases List.mem_or_eq_of_mem_set hd with h' | rfl
  · exact h d h'
  · exact hq
theorem ten_zeros (n : Nat) : Ten (List.replicate n 0) := by
  intro d hd
  rw [List.mem_replicate] at hd
  omega
theorem DecIs.of_row {w : World} {B n : Nat} {v : Value} {ds : List Nat} (h : w.ownsRow B 3 1 v ds.length (ds.map i64v)) (hd : lims 10 n = ds) : DecIs w B v n := by
  unfold DecIs
  rw [hd]
  exact h

set_option maxRecDepth 100000 in
set_option maxHeartbeats 4000000 in
theorem rtimes_any (B1 B2 m k : Nat) (va vb : Value) (w : World) (ha : DecIs w B1 va m) (hb : DecIs w B2 vb k) (hla : (lims 10 m).length ≤ 1000000) (hlb : (lims 10 k).length ≤ 1000000) :
    Calls Tryd.prog 88 #[va, vb] w fun e w' => (∃ v, e = .returned v ∧ DecIs w' w.heap.size v (m * k)) ∧ Below w.heap.size w w' := by
  obtain ⟨ao, ca, rfl⟩ := ha.slice
  obtain ⟨bo, cb, rfl⟩ := hb.slice
  have HCa := Lib.hid (fun W (h : Below w.heap.size w W) i (hi : i < (lims 10 m).length) => show ∃ ga, ao = some ⟨ga, 0, none⟩ ∧ W.cell? ⟨ga, i, none⟩ = some (.int .i64 ((m / 10 ^ i % 10 : Nat) : Int)) from by
    have hrow := ha.kept h
    unfold DecIs at hrow
    rcases hrow.2 with ⟨e, hz⟩ | ⟨g, cap, cur, e, hg1, hg2, -⟩
    · omega
    · cases e
      refine ⟨g, rfl, ?_⟩
      rw [World.ownsRow.cellAt hrow i (by omega), List.getElem?_map, List.getElem?_eq_getElem hi, ← lims_getD ten_ge m i, List.getD_eq_getElem?_getD, List.getElem?_eq_getElem hi]
      rfl)
  have HDg := Lib.hid (fun W (h : Below w.heap.size w W) j (hj : j ≤ 100000000000000) => rdig_any B2 k _ j W (hb.kept h) hj)
  have HDA := Lib.hid (And.intro (ev_lims ten_ge m) (fun j => lims_getD ten_ge m j))
  have HDB := Lib.hid (And.intro (ev_lims ten_ge k) (fun j => lims_getD ten_ge k j))
  revert HCa HDg HDA HDB hla hlb
  generalize lims 10 m = da
  generalize lims 10 k = db
  intro hla hlb HCa HDg HDA HDB
  clear ha hb
  obtain ⟨la, hl⟩ : ∃ la, da.length = la := ⟨_, rfl⟩
  obtain ⟨lb, hl2⟩ : ∃ lb, db.length = lb := ⟨_, rfl⟩
  rw [hl] at hla HCa ⊢
  rw [hl2] at hlb HDg ⊢
  have Hl := Lib.hid (And.intro hl hl2)
  clear hl hl2
  obtain ⟨C, hC1, hC2⟩ : ∃ C, C ≤ la + lb ∧ la + lb ≤ C := ⟨la + lb, by omega, by omega⟩
  have hmk : ∀ W, (Instr.makeSlice 49 (.int .i64 ((la : Int) + (lb : Int))) (.int .i64 ((la : Int) + (lb : Int)))).run Tryd.prog W = .ok (.slice (some ⟨W.heap.size, 0, none⟩) C C) (W.alloc (.cells (inoughts C) 3)) := imake_any _ _ C C (by omega) (by omega) (by omega) (by omega)
  have hrow := IRow.made w w.heap.size C (Nat.le_refl _) (by omega)
  have hb0 : Below w.heap.size w (w.alloc (.cells (inoughts C) 3)) := (Below.refl _ w).alloc (Nat.le_refl _) _
  go_enter Tryd.func88, Tryd.ntmps88
  go_wp2
  clear hmk
  go_loopg [18] la (fun gh v20 wx => ∃ (i : Nat) (od : List Nat), v20 = .int .i64 (i : Int) ∧ i + gh = la ∧ od.length = C ∧ Ten od ∧ IRow wx w.heap.size w.heap.size C od ∧ (∀ j, i + lb ≤ j → od.getD j 0 = 0) ∧ ev 10 od = ev 10 (da.take i) * k ∧ Below w.heap.size w wx)
  case atStart =>
    refine ⟨0, _, rfl, by omega, by simp, ten_zeros _, hrow, fun j _ => ?_, by rw [ev_replicate]; simp [ev], hb0⟩
    rw [List.getD_eq_getElem?_getD, List.getElem?_replicate]
    split <;> rfl
  case round =>
    obtain ⟨G, rfl⟩ : ∃ G, G = gk := ⟨_, rfl⟩
    obtain ⟨i, od, rfl, hig, hod, hsm, hR, hz0, he, hB⟩ := hrel
    have Hod := Lib.hid hod
    have HSm := Lib.hid hsm
    have HZ := Lib.hid hz0
    have He := Lib.hid he
    clear hod hsm hz0 he
    by_cases hi : i < la
    · have hiI : (i : Int) < (la : Int) := by omega
      obtain ⟨ga, rfl, -⟩ := HCa.out wr hB i hi
      obtain ⟨x, hx⟩ : ∃ x, m / 10 ^ i % 10 = x := ⟨_, rfl⟩
      have hx2 : x < 10 := by rw [← hx]; exact Nat.mod_lt _ (by decide)
      have HX := Lib.hid ((HDA.out.2 i).trans hx)
      have HCx := Lib.hid (fun W (h : Below w.heap.size w W) => show W.cell? ⟨ga, i, none⟩ = some (.int .i64 (x : Int)) from by
        obtain ⟨g2, e, hc⟩ := HCa.out W h i hi
        cases e
        rw [hx] at hc
        exact hc)
      clear hx
      go_wp2_with fail
      go_loopg [7, 8] (lb + 1) (fun gh v7 v8 wx => ∃ (j c : Nat) (od : List Nat), v7 = .int .i64 (c : Int) ∧ v8 = .int .i64 (j : Int) ∧ j + gh = lb + 1 ∧ c ≤ 9 ∧ (j = lb + 1 → c = 0) ∧ od.length = C ∧ Ten od ∧ IRow wx w.heap.size w.heap.size C od ∧ (∀ p, i + lb < p ∨ (i + lb ≤ p ∧ j ≤ lb) → od.getD p 0 = 0) ∧ ev 10 od + 10 ^ (i + j) * c = ev 10 (da.take i) * k + x * ev 10 (db.take j) * 10 ^ i ∧ Below w.heap.size w wx)
      case atStart => exact ⟨0, 0, od, rfl, rfl, by omega, by omega, fun _ => rfl, Hod.out, HSm.out, hR, fun p h => HZ.out p (by omega), by rw [He.out]; simp [ev], hB⟩
      case round =>
        obtain ⟨j, c, od1, rfl, rfl, hjg, hc, hj0, hod1, hsm1, hR1, hz1, he1, hB1⟩ := hrel
        have Hod1 := Lib.hid hod1
        have HSm1 := Lib.hid hsm1
        have HZ1 := Lib.hid hz1
        have He1 := Lib.hid he1
        clear hod1 hsm1 hz1 he1
        by_cases hgo : j < lb ∨ (j = lb ∧ 0 < c)
        · have hpl : i + j < od1.length := by rw [Hod1.out]; omega
          obtain ⟨y, hy⟩ : ∃ y, k / 10 ^ j % 10 = y := ⟨_, rfl⟩
          have hy2 : y < 10 := by rw [← hy]; exact Nat.mod_lt _ (by decide)
          have hyd := (HDB.out.2 j).trans hy
          have hy0 : j = lb → y = 0 := fun e => by
            rw [← hyd, List.getD_eq_getElem?_getD, List.getElem?_eq_none (by rw [Hl.out.2]; omega)]; rfl
          obtain ⟨o, ho⟩ : ∃ o, od1[i + j] = o := ⟨_, rfl⟩
          have hog : od1.getD (i + j) 0 = o := by rw [getD_of hpl, ho]
          have ho2 : o < 10 := by rw [← ho]; exact HSm1.out _ (List.getElem_mem hpl)
          have ho0 : j = lb → o = 0 := fun e => by rw [← hog]; exact HZ1.out _ (by omega)
          have hco := hR1.cell (i + j) hpl
          rw [ho] at hco
          have hfo := hR1.free (i + j)
          have hstep := rtm_step od1 db i j x y o c _ k hpl hyd hog He1.out
          have hdg := fun n => HDg.out (wr.drewN n) (belowN hB1 n) j (by omega)
          rw [hy] at hdg
          have HDG := Lib.hid (fun n => (hdg n).mono fun e w' h => And.intro h.1 h.2.symm)
          have hcx := HCx.out wr (by assumption)
          have hP9 : x * y ≤ 9 * 9 := Nat.mul_le_mul (by omega) (by omega)
          have hPz : y = 0 → x * y = 0 := fun e => by rw [e, Nat.mul_zero]
          have hmul : (x : Int) * (y : Int) = ((x * y : Nat) : Int) := (Int.natCast_mul _ _).symm
          obtain ⟨P, hP⟩ : ∃ P, x * y = P := ⟨_, rfl⟩
          rw [hP] at hP9 hPz hmul hstep
          obtain ⟨T, hTe⟩ : ∃ T, P + o + c = T := ⟨_, rfl⟩
          have hadd : (o : Int) + (P : Int) + (c : Int) = (T : Int) := by omega
          rw [hTe] at hstep
          have hT99 : T ≤ 99 := by omega
          have hdi : (T : Int) / 10 = ((T / 10 : Nat) : Int) := by omega
          have hmi : (T : Int) % 10 = ((T % 10 : Nat) : Int) := by omega
          have hr := Nat.mod_lt T (show 0 < 10 by decide)
          have hq9 : T / 10 ≤ 9 := by omega
          have hqz : j + 1 = lb + 1 → T / 10 = 0 := fun e => by
            have e1 := hy0 (by omega)
            have e2 := hPz e1
            have e3 := ho0 (by omega)
            omega
          obtain ⟨q, hqe⟩ : ∃ q, T / 10 = q := ⟨_, rfl⟩
          obtain ⟨r, hre⟩ : ∃ r, T % 10 = r := ⟨_, rfl⟩
          rw [hqe] at hdi hq9 hqz hstep
          rw [hre] at hmi hr hstep
          have HT := Lib.hid hstep
          have HQZ := Lib.hid hqz
          have HPt := Lib.hid (fun n => (hR1.drewN n).put (i + j) r)
          have HBt := Lib.hid (fun n => (belowN hB1 n).setCell (p := ⟨w.heap.size, i + j, none⟩) (Nat.le_refl _) (.int .i64 (r : Int)))
          have HZt := Lib.hid (show ∀ p, i + lb < p ∨ (i + lb ≤ p ∧ j + 1 ≤ lb) → (od1.set (i + j) r).getD p 0 = 0 from fun p h => (getD_set_ne (by omega)).trans (HZ1.out p (by omega)))
          have hsum : (i : Int) + (j : Int) = ((i + j : Nat) : Int) := by omega
          have hpC : i + j < C := by omega
          obtain ⟨p, hpe⟩ : ∃ p, i + j = p := ⟨_, rfl⟩
          rw [hpe] at hco hfo HPt HBt HZt hsum hpC HT
          have hpI : (p : Int) < (C : Int) := by omega
          have hPE := Lib.hid hpe
          have w1 : IntKind.i64.wrap ((i : Int) + (j : Int)) = (p : Int) := by rw [IntWalk.i64_in _ (by omega)]; exact hsum
          have w2 : IntKind.i64.wrap ((x : Int) * (y : Int)) = (P : Int) := by rw [hmul]; exact IntWalk.i64_in _ (by omega)
          have w3 : IntKind.i64.wrap ((o : Int) + (P : Int)) = (o : Int) + (P : Int) := IntWalk.i64_in _ (by omega)
          have w4 : IntKind.i64.wrap ((o : Int) + (P : Int) + (c : Int)) = (T : Int) := by rw [hadd]; exact IntWalk.i64_in _ (by omega)
          obtain ⟨gh, rfl⟩ : ∃ gh, gk = gh + 1 := ⟨gk - 1, by omega⟩
          have hjn : j + 1 + gh = lb + 1 := by omega
          clear hy hyd ho hog hP hTe hqe hre hstep hpl hpe hdg hqz hy0 ho0 hPz hR1
          rcases (show j < lb ∨ (¬ j < lb ∧ 0 < c) by omega) with h1 | ⟨h1, h2⟩
          · have k1 : (j : Int) < (lb : Int) := by omega
            clear hgo
            go_wp2_with fail
            go_quiet ((go_at_call 94; exact Calls.quiet_of_same (HDG.out _)))
            go_wp2
            go_roundg gh
            case measure => omega
            case rel => exact ⟨j + 1, q, od1.set p r, by go_num, by go_num, by omega, hq9, HQZ.out, by rw [List.length_set]; exact Hod1.out, ten_set HSm1.out p r hr, HPt.out _, HZt.out, HT.out, HBt.out _⟩
          · have k1 : ¬ (j : Int) < (lb : Int) := by omega
            have k2 : (c : Int) > 0 := by omega
            clear hgo
            go_wp2_with fail
            go_quiet ((go_at_call 94; exact Calls.quiet_of_same (HDG.out _)))
            go_wp2
            go_roundg gh
            case measure => omega
            case rel => exact ⟨j + 1, q, od1.set p r, by go_num, by go_num, by omega, hq9, HQZ.out, by rw [List.length_set]; exact Hod1.out, ten_set HSm1.out p r hr, HPt.out _, HZt.out, HT.out, HBt.out _⟩
        · have hc0 : c = 0 := by omega
          subst hc0
          have hjl : lb ≤ j := by omega
          have hend : ev 10 od1 = ev 10 (da.take (i + 1)) * k := by
            have h := He1.out
            have e : db.take j = db := List.take_of_length_le (by rw [Hl.out.2]; exact hjl)
            rw [Nat.mul_zero, Nat.add_zero, e, HDB.out.1] at h
            rw [h, ev_take_succ, HX.out, Nat.add_mul, Nat.mul_comm (10 ^ i) x, Nat.mul_right_comm]
          have HE := Lib.hid hend
          have k1 : ¬ (j : Int) < (lb : Int) := by omega
          have HZN := Lib.hid (show ∀ p, i + 1 + lb ≤ p → od1.getD p 0 = 0 from fun p h => HZ1.out p (by omega))
          obtain ⟨G2, rfl⟩ : ∃ G2, G = G2 + 1 := ⟨G - 1, by omega⟩
          clear hend hgo hj0
          go_wp2
          go_roundg G2
          case measure => omega
          case rel => exact ⟨i + 1, od1, by go_num, by omega, Hod1.out, HSm1.out, hR1, HZN.out, HE.out, hB1⟩
    · have he := He.out
      rw [List.take_of_length_le (by rw [Hl.out.1]; omega), HDA.out.1] at he
      have hrow2 := hR.row
      have hcut := trimmed_any w.heap.size _ od wr hrow2 HSm.out (by rw [Hod.out]; omega)
      rw [Hod.out, he] at hcut
      clear he
      go_wp2_with (go_at_call 89; refine hcut.mono ?_; rintro e w2 ⟨⟨v', rfl, hnat⟩, rfl⟩; obtain ⟨ao', c1, rfl⟩ := hnat.slice)
      go_ret
      exact ⟨⟨_, rfl, hnat⟩, hB⟩
end Go.Proofs.YtmnibfdenmeepaaDoor
