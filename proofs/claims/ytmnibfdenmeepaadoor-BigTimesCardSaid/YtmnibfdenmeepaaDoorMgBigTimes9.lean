/- The texts RTimes RDigs RLong RText RNumb RTold Right Ring RingLaw ROrder RMinus, one behind the other. -/
import Derived.Test.YtmnibfdenmeepaaDoorMgBigTimes8
import Derived.Deep.QuietTactic
import Derived.BigQuiet
/- times of the reference. -/
namespace Go.Proofs.YtmnibfdenmeepaaDoor
open Go.RowKit Go.Shelf Big

/-- Words of inoughts. -/
def inoughts (n : Nat) : Array Value := madeCells #[.int .i64 0] n
theorem inoughts_size (n : Nat) : (inoughts n).size = n := size_madeCells _ _
theorem inoughts_list (n : Nat) : (inoughts n).toList = (List.replicate n 0).map i64v := by
  rw [inoughts, toList_madeCells_one, List.map_replicate]; rfl
theorem imake_any (l c : Int) (a n : Nat) (hl : l = a) (hc : c = n) (ha : a ≤ n) (hn : n ≤ 1000000000) (W : World) :
    (Instr.makeSlice 49 (.int .i64 l) (.int .i64 c)).run Tryd.prog W = .ok (.slice (some ⟨W.heap.size, 0, none⟩) a n) (W.alloc (.cells (inoughts n) 3)) := by
  obtain ⟨i0, hi, hz0, hz1, hz2⟩ := info_parts Tryd.info3
  subst hl hc
  have := run_make (P := Tryd.prog) W 49 3 i0 (.int .i64 0) Tryd.underlying49 hi hz0 .i64 .i64 (a : Int) (n : Int) (by omega) (by omega) (by rw [hz2]; omega) (by omega)
  rw [hz1] at this
  simpa [inoughts, Value.cells] using this

def IRow (w : World) (B g cap : Nat) (ds : List Nat) : Prop := w.ownsRow B 3 1 (.slice (some ⟨g, 0, none⟩) ds.length cap) ds.length (ds.map i64v)
theorem IRow.put {w : World} {B g cap : Nat} {ds : List Nat} (h : IRow w B g cap ds) (j q : Nat) : IRow (w.setCell ⟨g, j, none⟩ (.int .i64 (q : Int))) B g cap (ds.set j q) := by
  have := (World.ownsRow.stored h j (.int .i64 (q : Int))).1
  unfold IRow
  rw [List.length_set, List.map_set]
  exact this
theorem IRow.cell {w : World} {B g cap : Nat} {ds : List Nat} (h : IRow w B g cap ds) (j : Nat) (hj : j < ds.length) : w.cell? ⟨g, j, none⟩ = some (.int .i64 (ds[j] : Int)) := by
  rw [World.ownsRow.cellAt h j (by omega), List.getElem?_map, List.getElem?_eq_getElem hj]; rfl
theorem IRow.free {w : World} {B g cap : Nat} {ds : List Nat} (h : IRow w B g cap ds) (j : Nat) : w.frozen? ⟨g, j, none⟩ = false := World.ownsRow.frozenAt h j
theorem IRow.made (w : World) (B n : Nat) (hB : B ≤ w.heap.size) (hn : n ≤ 1000000000) : IRow (w.alloc (.cells (inoughts n) 3)) B w.heap.size n (List.replicate n 0) := by
  unfold IRow
  have := World.ownsRow_lit (base := B) (e := 3) (size := 1) w (inoughts n) n hB (by unfold maxLen; omega) (by rw [inoughts_size]; omega)
  rw [inoughts_list] at this
  rw [List.length_replicate]
  exact this
theorem IRow.row {w : World} {B g cap : Nat} {ds : List Nat} (h : IRow w B g cap ds) : w.ownsRow B 3 1 (.slice (some ⟨g, 0, none⟩) ds.length cap) ds.length (ds.map i64v) := h
theorem IRow.drew {w : World} {B g cap : Nat} {ds : List Nat} (h : IRow w B g cap ds) : IRow w.drew B g cap ds := h

theorem rtm_step (od db : List Nat) (i j x y o c X _k0 : Nat) (hp : i + j < od.length) (hy : db.getD j 0 = y) (ho : od.getD (i + j) 0 = o)
    (he : ev 10 od + 10 ^ (i + j) * c = X + x * ev 10 (db.take j) * 10 ^ i) :
    ev 10 (od.set (i + j) ((x * y + o + c) % 10)) + 10 ^ (i + (j + 1)) * ((x * y + o + c) / 10) = X + x * ev 10 (db.take (j + 1)) * 10 ^ i := by
  have h1 := ev_set 10 od (i + j) ((x * y + o + c) % 10) hp
  rw [ho] at h1
  have h2 := Nat.mod_add_div (x * y + o + c) 10
  have h3 : 10 ^ (i + j) * ((x * y + o + c) % 10) + 10 ^ (i + (j + 1)) * ((x * y + o + c) / 10) = 10 ^ (i + j) * (x * y) + 10 ^ (i + j) * o + 10 ^ (i + j) * c := by
    rw [← Nat.add_assoc i j 1, Nat.pow_succ, Nat.mul_assoc, ← Nat.mul_add, h2, Nat.mul_add, Nat.mul_add]
  have h4 : x * ev 10 (db.take (j + 1)) * 10 ^ i = x * ev 10 (db.take j) * 10 ^ i + 10 ^ (i + j) * (x * y) := by
    rw [ev_take_succ, hy, Nat.mul_add, Nat.add_mul]
    congr 1
    rw [Nat.pow_add, Nat.mul_left_comm x, Nat.mul_comm _ (10 ^ i), Nat.mul_assoc]
  rw [h4]
  omega
theorem rtm_end (od : List Nat) (da : List Nat) (i lb x c k : Nat) (hp : i + lb < od.length) (h0 : od.getD (i + lb) 0 = 0) (hx : da.getD i 0 = x)
    (he : ev 10 od + 10 ^ (i + lb) * c = ev 10 (da.take i) * k + x * k * 10 ^ i) :
    ev 10 (od.set (i + lb) c) = ev 10 (da.take (i + 1)) * k := by
  have h1 := ev_set 10 od (i + lb) c hp
  rw [h0, Nat.mul_zero, Nat.add_zero] at h1
  rw [h1, he, ev_take_succ, hx, Nat.add_mul]
  congr 1
  rw [Nat.mul_comm (10 ^ i) x, Nat.mul_right_comm]

theorem belowN {B : Nat} {w w' : World} (h : Below B w w') (n : Nat) : Below B w (w'.drewN n) := h.trans ⟨rfl, rfl, rfl, Nat.le_refl _, fun _ _ => rfl⟩
theorem IRow.drewN {w : World} {B g cap : Nat} {ds : List Nat} (h : IRow w B g cap ds) (n : Nat) : IRow (w.drewN n) B g cap ds := h
theorem ten_set {ds : List Nat} (h : Ten ds) (j q : Nat) (hq : q < 10) : Ten (ds.set j q) := by
  intro d hd
  rcases List.mem_or_eq_of_mem_set hd with h' | rfl
  · exact h d h'
  · exact hq
theorem ten_zeros (n : Nat) : Ten (List.replicate n 0) := by
  intro d hd
  rw [List.mem_replicate] at hd
  omega
theorem DecIs.of_row {w : World} {B n : Nat} {v : Value} {ds : List Nat} (h : w.ownsRow B 3 1 v ds.length (ds.map i64v)) (hd : lims 10 n = ds) : DecIs w B v n := by
  unfold DecIs
  rw [hd]
  exact h

set_option maxRecDepth 100000 in
set_option maxHeartbeats 4000000 in
theorem rtimes_any (B1 B2 m k : Nat) (va vb : Value) (w : World) (ha : DecIs w B1 va m) (hb : DecIs w B2 vb k) (hla : (lims 10 m).length ≤ 1000000) (hlb : (lims 10 k).length ≤ 1000000) :
    Calls Tryd.prog 88 #[va, vb] w fun e w' => (∃ v, e = .returned v ∧ DecIs w' w.heap.size v (m * k)) ∧ Below w.heap.size w w' := by
  obtain ⟨ao, ca, rfl⟩ := ha.slice
  obtain ⟨bo, cb, rfl⟩ := hb.slice
  have HCa := Lib.hid (fun W (h : Below w.heap.size w W) i (hi : i < (lims 10 m).length) => show ∃ ga, ao = some ⟨ga, 0, none⟩ ∧ W.cell? ⟨ga, i, none⟩ = some (.int .i64 ((m / 10 ^ i % 10 : Nat) : Int)) from by
    have hrow := ha.kept h
    unfold DecIs at hrow
    rcases hrow.2 with ⟨e, hz⟩ | ⟨g, cap, cur, e, hg1, hg2, -⟩
    · omega
    · cases e
      refine ⟨g, rfl, ?_⟩
      rw [World.ownsRow.cellAt hrow i (by omega), List.getElem?_map, List.getElem?_eq_getElem hi, ← lims_getD ten_ge m i, List.getD_eq_getElem?_getD, List.getElem?_eq_getElem hi]
      rfl)
  have HDg := Lib.hid (fun W (h : Below w.heap.size w W) j (hj : j ≤ 100000000000000) => rdig_any B2 k _ j W (hb.kept h) hj)
  have HDA := Lib.hid (And.intro (ev_lims ten_ge m) (fun j => lims_getD ten_ge m j))
  have HDB := Lib.hid (And.intro (ev_lims ten_ge k) (fun j => lims_getD ten_ge k j))
  revert HCa HDg HDA HDB hla hlb
  generalize lims 10 m = da
  generalize lims 10 k = db
  intro hla hlb HCa HDg HDA HDB
  clear ha hb
  obtain ⟨la, hl⟩ : ∃ la, da.length = la := ⟨_, rfl⟩
  obtain ⟨lb, hl2⟩ : ∃ lb, db.length = lb := ⟨_, rfl⟩
  rw [hl] at hla HCa ⊢
  rw [hl2] at hlb HDg ⊢
  have Hl := Lib.hid (And.intro hl hl2)
  clear hl hl2
  obtain ⟨C, hC1, hC2⟩ : ∃ C, C ≤ la + lb ∧ la + lb ≤ C := ⟨la + lb, by omega, by omega⟩
  have hmk : ∀ W, (Instr.makeSlice 49 (.int .i64 ((la : Int) + (lb : Int))) (.int .i64 ((la : Int) + (lb : Int)))).run Tryd.prog W = .ok (.slice (some ⟨W.heap.size, 0, none⟩) C C) (W.alloc (.cells (inoughts C) 3)) := imake_any _ _ C C (by omega) (by omega) (by omega) (by omega)
  have hrow := IRow.made w w.heap.size C (Nat.le_refl _) (by omega)
  have hb0 : Below w.heap.size w (w.alloc (.cells (inoughts C) 3)) := (Below.refl _ w).alloc (Nat.le_refl _) _
  go_enter Tryd.func88, Tryd.ntmps88
  go_wp2
  clear hmk
  go_loopg [18] la (fun gh v20 wx => ∃ (i : Nat) (od : List Nat), v20 = .int .i64 (i : Int) ∧ i + gh = la ∧ od.length = C ∧ Ten od ∧ IRow wx w.heap.size w.heap.size C od ∧ (∀ j, i + lb ≤ j → od.getD j 0 = 0) ∧ ev 10 od = ev 10 (da.take i) * k ∧ Below w.heap.size w wx)
  case atStart =>
    refine ⟨0, _, rfl, by omega, by simp, ten_zeros _, hrow, fun j _ => ?_, by rw [ev_replicate]; simp [ev], hb0⟩
    rw [List.getD_eq_getElem?_getD, List.getElem?_replicate]
    split <;> rfl
  case round =>
    obtain ⟨G, rfl⟩ : ∃ G, G = gk := ⟨_, rfl⟩
    obtain ⟨i, od, rfl, hig, hod, hsm, hR, hz0, he, hB⟩ := hrel
    have Hod := Lib.hid hod
    have HSm := Lib.hid hsm
    have HZ := Lib.hid hz0
    have He := Lib.hid he
    clear hod hsm hz0 he
    by_cases hi : i < la
    · have hiI : (i : Int) < (la : Int) := by omega
      obtain ⟨ga, rfl, -⟩ := HCa.out wr hB i hi
      obtain ⟨x, hx⟩ : ∃ x, m / 10 ^ i % 10 = x := ⟨_, rfl⟩
      have hx2 : x < 10 := by rw [← hx]; exact Nat.mod_lt _ (by decide)
      have HX := Lib.hid ((HDA.out.2 i).trans hx)
      have HCx := Lib.hid (fun W (h : Below w.heap.size w W) => show W.cell? ⟨ga, i, none⟩ = some (.int .i64 (x : Int)) from by
        obtain ⟨g2, e, hc⟩ := HCa.out W h i hi
        cases e
        rw [hx] at hc
        exact hc)
      clear hx
      go_wp2_with fail
      go_loopg [7, 8] (lb + 1) (fun gh v7 v8 wx => ∃ (j c : Nat) (od : List Nat), v7 = .int .i64 (c : Int) ∧ v8 = .int .i64 (j : Int) ∧ j + gh = lb + 1 ∧ c ≤ 9 ∧ (j = lb + 1 → c = 0) ∧ od.length = C ∧ Ten od ∧ IRow wx w.heap.size w.heap.size C od ∧ (∀ p, i + lb < p ∨ (i + lb ≤ p ∧ j ≤ lb) → od.getD p 0 = 0) ∧ ev 10 od + 10 ^ (i + j) * c = ev 10 (da.take i) * k + x * ev 10 (db.take j) * 10 ^ i ∧ Below w.heap.size w wx)
      case atStart => exact ⟨0, 0, od, rfl, rfl, by omega, by omega, fun _ => rfl, Hod.out, HSm.out, hR, fun p h => HZ.out p (by omega), by rw [He.out]; simp [ev], hB⟩
      case round =>
        obtain ⟨j, c, od1, rfl, rfl, hjg, hc, hj0, hod1, hsm1, hR1, hz1, he1, hB1⟩ := hrel
        have Hod1 := Lib.hid hod1
        have HSm1 := Lib.hid hsm1
        have HZ1 := Lib.hid hz1
        have He1 := Lib.hid he1
        clear hod1 hsm1 hz1 he1
        by_cases hgo : j < lb ∨ (j = lb ∧ 0 < c)
        · have hpl : i + j < od1.length := by rw [Hod1.out]; omega
          obtain ⟨y, hy⟩ : ∃ y, k / 10 ^ j % 10 = y := ⟨_, rfl⟩
          have hy2 : y < 10 := by rw [← hy]; exact Nat.mod_lt _ (by decide)
          have hyd := (HDB.out.2 j).trans hy
          have hy0 : j = lb → y = 0 := fun e => by
            rw [← hyd, List.getD_eq_getElem?_getD, List.getElem?_eq_none (by rw [Hl.out.2]; omega)]; rfl
          obtain ⟨o, ho⟩ : ∃ o, od1[i + j] = o := ⟨_, rfl⟩
          have hog : od1.getD (i + j) 0 = o := by rw [getD_of hpl, ho]
          have ho2 : o < 10 := by rw [← ho]; exact HSm1.out _ (List.getElem_mem hpl)
          have ho0 : j = lb → o = 0 := fun e => by rw [← hog]; exact HZ1.out _ (by omega)
          have hco := hR1.cell (i + j) hpl
          rw [ho] at hco
          have hfo := hR1.free (i + j)
          have hstep := rtm_step od1 db i j x y o c _ k hpl hyd hog He1.out
          have hdg := fun n => HDg.out (wr.drewN n) (belowN hB1 n) j (by omega)
          rw [hy] at hdg
          have HDG := Lib.hid (fun n => (hdg n).mono fun e w' h => And.intro h.1 h.2.symm)
          have hcx := HCx.out wr (by assumption)
          have hP9 : x * y ≤ 9 * 9 := Nat.mul_le_mul (by omega) (by omega)
          have hPz : y = 0 → x * y = 0 := fun e => by rw [e, Nat.mul_zero]
          have hmul : (x : Int) * (y : Int) = ((x * y : Nat) : Int) := (Int.natCast_mul _ _).symm
          obtain ⟨P, hP⟩ : ∃ P, x * y = P := ⟨_, rfl⟩
          rw [hP] at hP9 hPz hmul hstep
          obtain ⟨T, hTe⟩ : ∃ T, P + o + c = T := ⟨_, rfl⟩
          have hadd : (o : Int) + (P : Int) + (c : Int) = (T : Int) := by omega
          rw [hTe] at hstep
          have hT99 : T ≤ 99 := by omega
          have hdi : (T : Int) / 10 = ((T / 10 : Nat) : Int) := by omega
          have hmi : (T : Int) % 10 = ((T % 10 : Nat) : Int) := by omega
          have hr := Nat.mod_lt T (show 0 < 10 by decide)
          have hq9 : T / 10 ≤ 9 := by omega
          have hqz : j + 1 = lb + 1 → T / 10 = 0 := fun e => by
            have e1 := hy0 (by omega)
            have e2 := hPz e1
            have e3 := ho0 (by omega)
            omega
          obtain ⟨q, hqe⟩ : ∃ q, T / 10 = q := ⟨_, rfl⟩
          obtain ⟨r, hre⟩ : ∃ r, T % 10 = r := ⟨_, rfl⟩
          rw [hqe] at hdi hq9 hqz hstep
          rw [hre] at hmi hr hstep
          have HT := Lib.hid hstep
          have HQZ := Lib.hid hqz
          have HPt := Lib.hid (fun n => (hR1.drewN n).put (i + j) r)
          have HBt := Lib.hid (fun n => (belowN hB1 n).setCell (p := ⟨w.heap.size, i + j, none⟩) (Nat.le_refl _) (.int .i64 (r : Int)))
          have HZt := Lib.hid (show ∀ p, i + lb < p ∨ (i + lb ≤ p ∧ j + 1 ≤ lb) → (od1.set (i + j) r).getD p 0 = 0 from fun p h => (getD_set_ne (by omega)).trans (HZ1.out p (by omega)))
          have hsum : (i : Int) + (j : Int) = ((i + j : Nat) : Int) := by omega
          have hpC : i + j < C := by omega
          obtain ⟨p, hpe⟩ : ∃ p, i + j = p := ⟨_, rfl⟩
          rw [hpe] at hco hfo HPt HBt HZt hsum hpC HT
          have hpI : (p : Int) < (C : Int) := by omega
          have hPE := Lib.hid hpe
          have w1 : IntKind.i64.wrap ((i : Int) + (j : Int)) = (p : Int) := by rw [IntWalk.i64_in _ (by omega)]; exact hsum
          have w2 : IntKind.i64.wrap ((x : Int) * (y : Int)) = (P : Int) := by rw [hmul]; exact IntWalk.i64_in _ (by omega)
          have w3 : IntKind.i64.wrap ((o : Int) + (P : Int)) = (o : Int) + (P : Int) := IntWalk.i64_in _ (by omega)
          have w4 : IntKind.i64.wrap ((o : Int) + (P : Int) + (c : Int)) = (T : Int) := by rw [hadd]; exact IntWalk.i64_in _ (by omega)
          obtain ⟨gh, rfl⟩ : ∃ gh, gk = gh + 1 := ⟨gk - 1, by omega⟩
          have hjn : j + 1 + gh = lb + 1 := by omega
          clear hy hyd ho hog hP hTe hqe hre hstep hpl hpe hdg hqz hy0 ho0 hPz hR1
          rcases (show j < lb ∨ (¬ j < lb ∧ 0 < c) by omega) with h1 | ⟨h1, h2⟩
          · have k1 : (j : Int) < (lb : Int) := by omega
            clear hgo
            go_wp2_with fail
            go_quiet ((go_at_call 94; exact Calls.quiet_of_same (HDG.out _)))
            go_wp2
            go_roundg gh
            case measure => omega
            case rel => exact ⟨j + 1, q, od1.set p r, by go_num, by go_num, by omega, hq9, HQZ.out, by rw [List.length_set]; exact Hod1.out, ten_set HSm1.out p r hr, HPt.out _, HZt.out, HT.out, HBt.out _⟩
          · have k1 : ¬ (j : Int) < (lb : Int) := by omega
            have k2 : (c : Int) > 0 := by omega
            clear hgo
            go_wp2_with fail
            go_quiet ((go_at_call 94; exact Calls.quiet_of_same (HDG.out _)))
            go_wp2
            go_roundg gh
            case measure => omega
            case rel => exact ⟨j + 1, q, od1.set p r, by go_num, by go_num, by omega, hq9, HQZ.out, by rw [List.length_set]; exact Hod1.out, ten_set HSm1.out p r hr, HPt.out _, HZt.out, HT.out, HBt.out _⟩
        · have hc0 : c = 0 := by omega
          subst hc0
          have hjl : lb ≤ j := by omega
          have hend : ev 10 od1 = ev 10 (da.take (i + 1)) * k := by
            have h := He1.out
            have e : db.take j = db := List.take_of_length_le (by rw [Hl.out.2]; exact hjl)
            rw [Nat.mul_zero, Nat.add_zero, e, HDB.out.1] at h
            rw [h, ev_take_succ, HX.out, Nat.add_mul, Nat.mul_comm (10 ^ i) x, Nat.mul_right_comm]
          have HE := Lib.hid hend
          have k1 : ¬ (j : Int) < (lb : Int) := by omega
          have HZN := Lib.hid (show ∀ p, i + 1 + lb ≤ p → od1.getD p 0 = 0 from fun p h => HZ1.out p (by omega))
          obtain ⟨G2, rfl⟩ : ∃ G2, G = G2 + 1 := ⟨G - 1, by omega⟩
          clear hend hgo hj0
          go_wp2
          go_roundg G2
          case measure => omega
          case rel => exact ⟨i + 1, od1, by go_num, by omega, Hod1.out, HSm1.out, hR1, HZN.out, HE.out, hB1⟩
    · have he := He.out
      rw [List.take_of_length_le (by rw [Hl.out.1]; omega), HDA.out.1] at he
      have hrow2 := hR.row
      have hcut := trimmed_any w.heap.size _ od wr hrow2 HSm.out (by rw [Hod.out]; omega)
      rw [Hod.out, he] at hcut
      clear he
      go_wp2_with (go_at_call 89; refine hcut.mono ?_; rintro e w2 ⟨⟨v', rfl, hnat⟩, rfl⟩; obtain ⟨ao', c1, rfl⟩ := hnat.slice)
      go_ret
      exact ⟨⟨_, rfl, hnat⟩, hB⟩
end Go.Proofs.YtmnibfdenmeepaaDoor
/- digits of the reference. -/
namespace Go.Proofs.YtmnibfdenmeepaaDoor
open Go.RowKit Go.Shelf Big

def k1200 : Nat := 1200
/-- What reading digits of a base answers: exact, or far too long. -/
def DigRes (B b : Nat) (l : List UInt8) (w' : World) (e : Ending) : Prop :=
  ∃ v n, e = .returned (.tuple #[v, .bool (okn b l)]) ∧ DecIs w' B v n ∧ (okn b l = true → n = rdn b l ∨ (10 ^ k1200 ≤ n ∧ n ≤ rdn b l))
theorem take_snoc' (s : ByteArray) (i : Nat) (h : i < s.size) : s.data.toList.take (i + 1) = s.data.toList.take i ++ [s[i]] := by
  rw [List.take_succ_eq_append_getElem (by rw [← Lib.size_eq]; exact h)]
  rfl
theorem dec_far {n : Nat} (h : 1200 < (lims 10 n).length) : 10 ^ k1200 ≤ n := by
  rcases Nat.lt_or_ge n (10 ^ k1200) with h1 | h1
  · have := (lims_len_le ten_ge n k1200).2 h1
    have e : k1200 = 1200 := rfl
    omega
  · exact h1

set_option maxRecDepth 100000 in
set_option maxHeartbeats 4000000 in
theorem rdigits_any (s : ByteArray) (b : Nat) (w : World) (hs : s.size ≤ 1000000000000) (hb2 : 2 ≤ b) (hb : b ≤ 36) :
    Calls Tryd.prog 97 #[.string s, .int .i64 (b : Int)] w fun e w' => DigRes w.heap.size b s.data.toList w' e ∧ Below w.heap.size w w' := by
  have HDg := Lib.hid (fun c W => rDigit_any c b hb W)
  have hlen : s.data.toList.length = s.size := (Lib.size_eq s).symm
  have HLEN := Lib.hid hlen
  clear hlen
  go_enter Tryd.func97, Tryd.ntmps97
  go_wp2_with fail
  go_loopg [6, 7, 12] s.size (fun g v6 v7 v12 wx => ∃ (i N : Nat) (z : Bool), v12 = .int .i64 (i : Int) ∧ v7 = .bool z ∧ i + g = s.size ∧ (∀ c ∈ s.data.toList.take i, dg c < b) ∧ DecIs wx w.heap.size v6 N ∧ (lims 10 N).length ≤ 2000 ∧ (z = true → rdn b (s.data.toList.take i) = 0 ∧ N = 0) ∧ (N = rdn b (s.data.toList.take i) ∨ (1200 < (lims 10 N).length ∧ N ≤ rdn b (s.data.toList.take i))) ∧ Below w.heap.size w wx)
  case atStart =>
    refine ⟨0, 0, true, rfl, rfl, by omega, by simp, ?_, by rw [lims_zero]; simp, fun _ => ⟨by simp [rdn], rfl⟩, .inl (by simp [rdn]), Below.refl _ _⟩
    unfold DecIs
    rw [lims_zero]
    exact World.ownsRow_nil _ _ _ _
  case round =>
    obtain ⟨i, N, z, rfl, rfl, hig, hok, hd, hNl, hz, hN, hbx⟩ := hrel
    obtain ⟨ao, cc, rfl⟩ := hd.slice
    have HD := Lib.hid hd
    have HB := Lib.hid hbx
    have HOK := Lib.hid hok
    have HZ := Lib.hid hz
    have HN := Lib.hid hN
    have hzx := hbx.size
    clear hd hbx hok hz hN
    by_cases hi : i < s.size
    · have hi1 : (i : Int) < (s.size : Int) := by omega
      have hi0 : (0 : Int) ≤ (i : Int) := by omega
      obtain ⟨c, hc⟩ : ∃ c, s[i] = c := ⟨_, rfl⟩
      have htk := take_snoc' s i hi
      rw [hc] at htk
      have HC := Lib.hid hc
      have HTK := Lib.hid htk
      by_cases hr : rdg c b < 0
      · have HBAD := Lib.hid (okn_bad b s i hi (by rw [hc]; exact dg_ge hr))
        clear htk hc
        go_wp2_with (go_at_call 122; rw [HC.out]; refine (HDg.out _ _).mono ?_; rintro e w' ⟨rfl, rfl⟩)
        go_ret2
        refine ⟨⟨.slice none 0 0, 0, by rw [HBAD.out]; rfl, ?_, fun h => by rw [HBAD.out] at h; cases h⟩, HB.out⟩
        unfold DecIs
        rw [lims_zero]
        exact World.ownsRow_nil _ _ _ _
      · obtain ⟨hd1, hd2⟩ := dg_lt hr
        obtain ⟨d, hdd⟩ : ∃ d, dg c = d := ⟨_, rfl⟩
        have HOKN := Lib.hid (show ∀ c' ∈ s.data.toList.take (i + 1), dg c' < b from fun c' h => by
          rw [htk] at h
          rcases List.mem_append.1 h with h | h
          · exact HOK.out c' h
          · rw [List.mem_singleton] at h
            rw [h]; exact hd1)
        have hrd : rdn b (s.data.toList.take (i + 1)) = rdn b (s.data.toList.take i) * b + d := by rw [htk, rdn_snoc, hdd]
        have HRD := Lib.hid hrd
        rw [hdd] at hd1 hd2
        have HD2 := Lib.hid hd2
        have hd3 : ¬ (d : Int) < 0 := by omega
        have hNle : N ≤ rdn b (s.data.toList.take i) := by rcases HN.out with h | h <;> omega
        have hmul : rdn b (s.data.toList.take i) * 1 ≤ rdn b (s.data.toList.take i) * b := Nat.mul_le_mul_left _ (by omega)
        have HFAR := Lib.hid (fun h : 1200 < (lims 10 N).length => And.intro h (show N ≤ rdn b (s.data.toList.take (i + 1)) by rw [hrd]; omega))
        have HNEXT := Lib.hid (fun h : ¬ 1200 < (lims 10 N).length => show N * b + d = rdn b (s.data.toList.take (i + 1)) ∧ (lims 10 (N * b + d)).length ≤ 2000 from by
          have e : N = rdn b (s.data.toList.take i) := by
            rcases HN.out with h' | h'
            · exact h'
            · exact absurd h'.1 h
          refine ⟨by rw [hrd, ← e], ?_⟩
          have h1 := (lims_len_le ten_ge N k1200).1 (by have e : k1200 = 1200 := rfl; omega)
          have h2 : N * b ≤ 10 ^ k1200 * 36 := Nat.mul_le_mul (Nat.le_of_lt h1) hb
          have h3 := (lims_len_le ten_ge (N * b + d) (k1200 + 2)).2 (by rw [Nat.pow_add]; have := Nat.pow_pos (n := k1200) (show 0 < 10 by omega); omega)
          have e : k1200 = 1200 := rfl
          omega)
        obtain ⟨g, rfl⟩ : ∃ g, gk = g + 1 := ⟨gk - 1, by omega⟩
        obtain ⟨L, hL⟩ : ∃ L, (lims 10 N).length = L := ⟨_, rfl⟩
        rw [hL] at HD hNl ⊢
        have HL := Lib.hid hL
        clear htk hc hrd hdd hr hNle hmul hL
        by_cases hzd : z = true ∧ d = 0
        · obtain ⟨rfl, rfl⟩ := hzd
          obtain ⟨hz1, rfl⟩ := HZ.out rfl
          have HR0 := Lib.hid (show rdn b (s.data.toList.take (i + 1)) = 0 by rw [HRD.out, hz1]; simp)
          clear hz1
          go_wp2_with (go_at_call 122; rw [HC.out]; refine (HDg.out _ _).mono ?_; rintro e w' ⟨rfl, rfl⟩; rw [HD2.out])
          go_roundg g
          case measure => omega
          case rel => exact ⟨i + 1, 0, true, by go_num, rfl, by omega, HOKN.out, HD.out, by rw [HL.out]; omega, fun _ => ⟨HR0.out, rfl⟩, .inl HR0.out.symm, HB.out⟩
        · cases z with
          | false =>
            clear hzd
            by_cases hfar : 1200 < L
            · have hf : (L : Int) > 1200 := by omega
              have HFR := Lib.hid (HFAR.out (by rw [HL.out]; exact hfar))
              go_wp2_with (go_at_call 122; rw [HC.out]; refine (HDg.out _ _).mono ?_; rintro e w' ⟨rfl, rfl⟩; rw [HD2.out])
              go_roundg g
              case measure => omega
              case rel => exact ⟨i + 1, N, false, by go_num, rfl, by omega, HOKN.out, HD.out, by rw [HL.out]; omega, fun h => (by cases h), .inr HFR.out, HB.out⟩
            · have hf : ¬ (L : Int) > 1200 := by omega
              have HNX := Lib.hid (HNEXT.out (by rw [HL.out]; exact hfar))
              go_wp2_with (go_at_call 122; rw [HC.out]; refine (HDg.out _ _).mono ?_; rintro e w' ⟨rfl, rfl⟩; rw [HD2.out])
              refine (natOf_any b wr (by omega)).mono ?_
              rintro e w2 ⟨⟨v2, rfl, hn2⟩, hb2⟩
              have hD2 := HD.out.kept hb2
              have hB2 := Below.behind HB.out hb2
              obtain ⟨a2, c2, rfl⟩ := hn2.slice
              generalize hl2 : (lims 10 b).length = l2 at hn2 ⊢
              have HN2 := Lib.hid hn2
              have HD2' := Lib.hid hD2
              have HL2 := Lib.hid hl2
              clear hb2 hD2 hn2 hl2
              go_wp2_with fail
              refine (rtimes_any _ _ N b _ _ w2 HD2'.out HN2.out (by rw [HL.out]; omega) (by have := (lims_len_le ten_ge b 2).2 (by omega); omega)).mono ?_
              rintro e w3 ⟨⟨v3, rfl, hn3⟩, hb3⟩
              have hB3 := Below.behind hB2 hb3
              obtain ⟨a3, c3, rfl⟩ := hn3.slice
              generalize hl3 : (lims 10 (N * b)).length = l3 at hn3 ⊢
              have HN3 := Lib.hid hn3
              have HL3 := Lib.hid hl3
              clear hb3 hn3 hl3 hB2
              go_wp2_with fail
              refine (natOf_any d w3 (by omega)).mono ?_
              rintro e w4 ⟨⟨v4, rfl, hn4⟩, hb4⟩
              have hB4 := Below.behind hB3 hb4
              have hD4 := HN3.out.kept hb4
              obtain ⟨a4, c4, rfl⟩ := hn4.slice
              generalize hl4 : (lims 10 d).length = l4 at hn4 ⊢
              have HN4 := Lib.hid hn4
              have HD4 := Lib.hid hD4
              clear hb4 hn4 hl4 hD4 hB3
              go_wp2_with fail
              refine (rplus_any _ _ (N * b) d _ _ w4 HD4.out HN4.out ?_ ?_).mono ?_
              · have h1 := HNX.out.2
                have h2 : (lims 10 (N * b)).length ≤ (lims 10 (N * b + d)).length := (lims_len_le ten_ge _ _).2 (Nat.lt_of_le_of_lt (Nat.le_add_right _ _) ((lims_len_le ten_ge _ _).1 (Nat.le_refl _)))
                omega
              · have := (lims_len_le ten_ge d 2).2 (by omega)
                omega
              rintro e w5 ⟨⟨v5, rfl, hn5⟩, hb5⟩
              have hB5 := Below.behind hB4 hb5
              have HN5 := Lib.hid (DecIs.mono hn5 (show w.heap.size ≤ w4.heap.size by have := hB4.size; omega))
              clear hb5 hn5 hB4
              have HB5 := Lib.hid hB5
              clear hB5
              go_wp2
              go_roundg g
              case measure => omega
              case rel => exact ⟨i + 1, N * b + d, false, by go_num, rfl, by omega, HOKN.out, HN5.out, HNX.out.2, fun h => (by cases h), .inl HNX.out.1, HB5.out⟩

          | true =>
            have hdz : ((d : Int) == 0) = false := by
              rw [beq_eq_false_iff_ne]
              intro h
              exact hzd ⟨rfl, by omega⟩
            clear hzd
            by_cases hfar : 1200 < L
            · have hf : (L : Int) > 1200 := by omega
              have HFR := Lib.hid (HFAR.out (by rw [HL.out]; exact hfar))
              go_wp2_with (go_at_call 122; rw [HC.out]; refine (HDg.out _ _).mono ?_; rintro e w' ⟨rfl, rfl⟩; rw [HD2.out])
              go_roundg g
              case measure => omega
              case rel => exact ⟨i + 1, N, false, by go_num, rfl, by omega, HOKN.out, HD.out, by rw [HL.out]; omega, fun h => (by cases h), .inr HFR.out, HB.out⟩
            · have hf : ¬ (L : Int) > 1200 := by omega
              have HNX := Lib.hid (HNEXT.out (by rw [HL.out]; exact hfar))
              go_wp2_with (go_at_call 122; rw [HC.out]; refine (HDg.out _ _).mono ?_; rintro e w' ⟨rfl, rfl⟩; rw [HD2.out])
              refine (natOf_any b wr (by omega)).mono ?_
              rintro e w2 ⟨⟨v2, rfl, hn2⟩, hb2⟩
              have hD2 := HD.out.kept hb2
              have hB2 := Below.behind HB.out hb2
              obtain ⟨a2, c2, rfl⟩ := hn2.slice
              generalize hl2 : (lims 10 b).length = l2 at hn2 ⊢
              have HN2 := Lib.hid hn2
              have HD2' := Lib.hid hD2
              have HL2 := Lib.hid hl2
              clear hb2 hD2 hn2 hl2
              go_wp2_with fail
              refine (rtimes_any _ _ N b _ _ w2 HD2'.out HN2.out (by rw [HL.out]; omega) (by have := (lims_len_le ten_ge b 2).2 (by omega); omega)).mono ?_
              rintro e w3 ⟨⟨v3, rfl, hn3⟩, hb3⟩
              have hB3 := Below.behind hB2 hb3
              obtain ⟨a3, c3, rfl⟩ := hn3.slice
              generalize hl3 : (lims 10 (N * b)).length = l3 at hn3 ⊢
              have HN3 := Lib.hid hn3
              have HL3 := Lib.hid hl3
              clear hb3 hn3 hl3 hB2
              go_wp2_with fail
              refine (natOf_any d w3 (by omega)).mono ?_
              rintro e w4 ⟨⟨v4, rfl, hn4⟩, hb4⟩
              have hB4 := Below.behind hB3 hb4
              have hD4 := HN3.out.kept hb4
              obtain ⟨a4, c4, rfl⟩ := hn4.slice
              generalize hl4 : (lims 10 d).length = l4 at hn4 ⊢
              have HN4 := Lib.hid hn4
              have HD4 := Lib.hid hD4
              clear hb4 hn4 hl4 hD4 hB3
              go_wp2_with fail
              refine (rplus_any _ _ (N * b) d _ _ w4 HD4.out HN4.out ?_ ?_).mono ?_
              · have h1 := HNX.out.2
                have h2 : (lims 10 (N * b)).length ≤ (lims 10 (N * b + d)).length := (lims_len_le ten_ge _ _).2 (Nat.lt_of_le_of_lt (Nat.le_add_right _ _) ((lims_len_le ten_ge _ _).1 (Nat.le_refl _)))
                omega
              · have := (lims_len_le ten_ge d 2).2 (by omega)
                omega
              rintro e w5 ⟨⟨v5, rfl, hn5⟩, hb5⟩
              have hB5 := Below.behind hB4 hb5
              have HN5 := Lib.hid (DecIs.mono hn5 (show w.heap.size ≤ w4.heap.size by have := hB4.size; omega))
              clear hb5 hn5 hB4
              have HB5 := Lib.hid hB5
              clear hB5
              go_wp2
              go_roundg g
              case measure => omega
              case rel => exact ⟨i + 1, N * b + d, false, by go_num, rfl, by omega, HOKN.out, HN5.out, HNX.out.2, fun h => (by cases h), .inl HNX.out.1, HB5.out⟩
    · obtain rfl : i = s.size := by omega
      have hall : s.data.toList.take s.size = s.data.toList := List.take_of_length_le (by rw [HLEN.out]; exact Nat.le_refl _)
      have hok2 := HOK.out
      rw [hall] at hok2
      have hN2 := HN.out
      rw [hall] at hN2
      have HOK2 := Lib.hid (show okn b s.data.toList = !s.data.toList.isEmpty by
        unfold okn
        rw [List.all_eq_true.2 (fun c hc => decide_eq_true (hok2 c hc)), Bool.and_true])
      have HRES := Lib.hid (show N = rdn b s.data.toList ∨ (10 ^ k1200 ≤ N ∧ N ≤ rdn b s.data.toList) from by
        rcases hN2 with h | h
        · exact .inl h
        · exact .inr ⟨dec_far h.1, h.2⟩)
      have hi1 : ¬ (s.size : Int) < (s.size : Int) := by omega
      clear hok2 hN2 hall
      by_cases hE : s.toList.isEmpty = true
      · have HE := Lib.hid ((empty_iff s).1 hE)
        go_wp2
        go_ret2
        exact ⟨⟨_, N, by rw [HOK2.out, HE.out]; rfl, HD.out, fun _ => HRES.out⟩, HB.out⟩
      · have HE := Lib.hid (show s.data.toList.isEmpty = false by
          cases h : s.data.toList.isEmpty with
          | false => rfl
          | true => exact absurd ((empty_iff s).2 (List.isEmpty_iff.1 h)) hE)
        have hE' : s.toList.isEmpty = false := by simpa using hE
        clear hE
        go_wp2
        go_ret2
        exact ⟨⟨_, N, by rw [HOK2.out, HE.out]; rfl, HD.out, fun _ => HRES.out⟩, HB.out⟩
end Go.Proofs.YtmnibfdenmeepaaDoor
/- Long of the reference. -/
namespace Go.Proofs.YtmnibfdenmeepaaDoor
open Go.RowKit Go.Shelf Big

theorem tool_len (n : Nat) : tooL n = decide (600 < (lims 10 n).length) := by
  have h2 := lims_len_le (B := 10) (by omega) n k600
  have h3 : (10 : Nat) ^ k600 = lim600 := rfl
  have h4 : k600 = 600 := rfl
  unfold tooL
  rw [h3] at h2
  by_cases h : lim600 ≤ n
  · rw [decide_eq_true h, decide_eq_true (by omega)]
  · rw [decide_eq_false h, decide_eq_false (by omega)]
theorem rLong_any (B n : Nat) (s : Bool) (v : Value) (w : World) (h : DecIs w B v n) :
    Calls Tryd.prog 80 #[.agg #[.bool s, v]] w fun e w' => e = .returned (.bool (tooL n)) ∧ Below w.heap.size w w' := by
  have HT := Lib.hid (tool_len n)
  obtain ⟨av, c, rfl⟩ := h.slice
  revert HT
  generalize (lims 10 n).length = l
  intro HT
  clear h
  by_cases h1 : 600 < l
  · have k1 : (l : Int) > 600 := by omega
    have HR := Lib.hid (show tooL n = true by rw [HT.out, decide_eq_true h1])
    clear h1
    go_enter Tryd.func80, Tryd.ntmps80
    go_wp2
    go_ret
    exact ⟨by rw [HR.out]; simp, (Below.refl _ w).alloc (Nat.le_refl _) _⟩
  · have k1 : ¬ (l : Int) > 600 := by omega
    have HR := Lib.hid (show tooL n = false by rw [HT.out, decide_eq_false h1])
    clear h1
    go_enter Tryd.func80, Tryd.ntmps80
    go_wp2
    go_ret
    exact ⟨by rw [HR.out]; simp, (Below.refl _ w).alloc (Nat.le_refl _) _⟩
end Go.Proofs.YtmnibfdenmeepaaDoor
/- Text of the reference. -/
namespace Go.Proofs.YtmnibfdenmeepaaDoor
open Go.RowKit Go.Shelf Big

theorem dec_chr (d : Nat) (h : d < 10) : Lib.decDigits d = [chr d] := by
  rcases (show d = 0 ∨ d = 1 ∨ d = 2 ∨ d = 3 ∨ d = 4 ∨ d = 5 ∨ d = 6 ∨ d = 7 ∨ d = 8 ∨ d = 9 by omega) with rfl | rfl | rfl | rfl | rfl | rfl | rfl | rfl | rfl | rfl <;> (unfold Lib.decDigits; decide)
set_option maxRecDepth 100000 in
set_option maxHeartbeats 2000000 in
theorem rText_any (B n : Nat) (s : Bool) (v : Value) (w : World) (h : DecIs w B v n) (hl : (lims 10 n).length ≤ 10000) :
    Calls Tryd.prog 73 #[.agg #[.bool s, v]] w fun e w' => e = .returned (.string ⟨(txtS s n).toArray⟩) ∧ Below w.heap.size w w' := by
  obtain ⟨av, c, rfl⟩ := h.slice
  have HI := Lib.hid (fun d (hd : d < 10) W => Tryd.strconv_Itoa_small d (by omega) W)
  have HCell := Lib.hid (fun W (hb : Below w.heap.size w W) i (hi : i < (lims 10 n).length) => show ∃ g, av = some ⟨g, 0, none⟩ ∧ W.cell? ⟨g, i, none⟩ = some (.int .i64 (((lims 10 n).getD i 0 : Nat) : Int)) from by
    have hrow := h.kept hb
    unfold DecIs at hrow
    rcases hrow.2 with ⟨e, hz⟩ | ⟨g, cap, cur, e, hg1, hg2, -⟩
    · omega
    · cases e
      refine ⟨g, rfl, ?_⟩
      rw [World.ownsRow.cellAt hrow i (by omega), List.getElem?_map, List.getD_eq_getElem?_getD, List.getElem?_eq_getElem hi]
      rfl)
  have HTen := Lib.hid (lims_lt ten_ge n)
  have hz := dec_len (n := n)
  have HTX := Lib.hid (show 0 < n → txtS s n = if s then 45 :: ((lims 10 n).map chr).reverse else ((lims 10 n).map chr).reverse from fun hn => by
    have hn0 : n ≠ 0 := by omega
    unfold txtS digs
    cases s <;> simp [hn, hn0])
  have HT0 := Lib.hid (show n = 0 → txtS s n = [48] from fun hn => by
    subst hn
    unfold txtS digs
    cases s <;> rfl)
  revert hl HCell HTen hz HTX
  generalize lims 10 n = da
  intro hl HCell HTen hz HTX
  obtain ⟨L, hL⟩ : ∃ L, da.length = L := ⟨_, rfl⟩
  rw [hL] at hl HCell hz ⊢
  have HL := Lib.hid hL
  have HZ := Lib.hid hz
  clear h hL hz
  go_enter Tryd.func73, Tryd.ntmps73
  go_wp2_with fail
  go_loopg [3, 9] L (fun g v3 v9 wx => wx = w.alloc (.cells #[.bool s, .slice av L c] 51) ∧ ∃ (i : Nat) (S : ByteArray), v9 = .int .i64 (i : Int) ∧ v3 = .string S ∧ i + g = L ∧ S.size = i ∧ S.data.toList = ((da.take i).map chr).reverse)
  case atStart => exact ⟨rfl, 0, ⟨#[]⟩, rfl, rfl, by omega, rfl, by simp⟩
  case round =>
    obtain ⟨rfl, i, S, rfl, rfl, hig, hS, hSd⟩ := hrel
    have HSd := Lib.hid hSd
    clear hSd
    have hB : Below w.heap.size w (w.alloc (.cells #[.bool s, .slice av L c] 51)) := (Below.refl _ w).alloc (Nat.le_refl _) _
    by_cases hi : i < L
    · have hi1 : (i : Int) < (L : Int) := by omega
      have hid : i < da.length := by rw [HL.out]; exact hi
      obtain ⟨g, rfl, hc⟩ := HCell.out _ hB i hi
      rw [getD_of hid] at hc
      obtain ⟨d, hd⟩ : ∃ d, da[i] = d := ⟨_, rfl⟩
      have hd10 : d < 10 := by rw [← hd]; exact HTen.out _ (List.getElem_mem hid)
      rw [hd] at hc
      have HN := Lib.hid (show ((da.take (i + 1)).map chr).reverse = [chr d] ++ ((da.take i).map chr).reverse by
        rw [List.take_succ_eq_append_getElem hid, List.map_append, List.reverse_append, hd]; rfl)
      have HDC := Lib.hid (dec_chr d hd10)
      obtain ⟨G, rfl⟩ : ∃ G, gk = G + 1 := ⟨gk - 1, by omega⟩
      clear hd hid
      go_wp2_with (go_at_call 92; refine (HI.out d hd10 _).mono ?_; rintro e w' ⟨rfl, rfl⟩; rw [HDC.out])
      go_roundg G
      case measure => omega
      case rel =>
        refine ⟨rfl, i + 1, _, by go_num, rfl, by omega, ?_, ?_⟩
        · rw [ByteArray.size_append, hS]
          exact Nat.add_comm 1 i
        · rw [HN.out, ← HSd.out]
          simp
    · obtain rfl : i = L := by omega
      have hi1 : ¬ (i : Int) < (i : Int) := by omega
      rw [List.take_of_length_le (by rw [HL.out]; exact Nat.le_refl _)] at HSd
      rcases HZ.out with ⟨rfl, hn⟩ | ⟨hl0, hn⟩
      · have hE : S.toList.isEmpty = true := (empty_iff S).2 (List.eq_nil_of_length_eq_zero (by rw [← Lib.size_eq]; exact hS))
        have HR := Lib.hid (HT0.out hn)
        clear hn hB
        go_wp2
        go_ret
        exact ⟨by rw [HR.out]; rfl, (Below.refl _ w).alloc (Nat.le_refl _) _⟩
      · have hE : S.toList.isEmpty = false := by
          cases h : S.toList.isEmpty with
          | false => rfl
          | true =>
            have := congrArg List.length ((empty_iff S).1 h)
            rw [← Lib.size_eq] at this
            have h2 : S.size = 0 := this
            omega
        have HR := Lib.hid (HTX.out hn)
        rw [← HSd.out] at HR
        clear hn hB
        cases s with
        | false =>
          go_wp2
          go_ret
          exact ⟨by rw [HR.out]; rfl, (Below.refl _ w).alloc (Nat.le_refl _) _⟩
        | true =>
          go_wp2
          go_ret
          exact ⟨by rw [HR.out]; rfl, (Below.refl _ w).alloc (Nat.le_refl _) _⟩
end Go.Proofs.YtmnibfdenmeepaaDoor
/- Number of the reference. -/
namespace Go.Proofs.YtmnibfdenmeepaaDoor
open Go.RowKit Go.Shelf Big

/-- n tells z: exact, or far too long. -/
def Tells (n : Nat) (z : Int) : Prop := n = z.natAbs ∨ (10 ^ k1200 ≤ n ∧ n ≤ z.natAbs)
/-- What Number answers. -/
def NumRes (B : Nat) (l : List UInt8) (w' : World) (e : Ending) : Prop :=
  ∃ v n sg, e = .returned (.tuple #[.agg #[.bool sg, v], .bool (numOf l).isSome]) ∧ DecIs w' B v n ∧ (∀ z, numOf l = some z → Tells n z ∧ sg = decide (z < 0))
theorem far_pos : 0 < 10 ^ k1200 := Nat.pow_pos (by decide)
theorem Tells.pos {n : Nat} {z : Int} (h : Tells n z) : decide (0 < n) = decide (0 < z.natAbs) := by
  have := far_pos
  rcases h with rfl | ⟨h1, h2⟩
  · rfl
  · rw [decide_eq_true (by omega), decide_eq_true (by omega)]
theorem numOf_is {l r : List UInt8} {b : Nat} {sg : Bool} (hs : (sgnOf (strip l)).1 = sg) (hb : basOf (sgnOf (strip l)).2 = (b, r)) : numOf l = if okn b r then some (sgI sg (rdn b r)) else none := by
  unfold numOf
  rw [hb, hs]
theorem tells_of {l r : List UInt8} {b n : Nat} {sg g : Bool} (hs : (sgnOf (strip l)).1 = sg) (hb : basOf (sgnOf (strip l)).2 = (b, r)) (hn : okn b r = true → n = rdn b r ∨ (10 ^ k1200 ≤ n ∧ n ≤ rdn b r)) (hg : okn b r = true → g = (sg && decide (0 < n))) :
    (numOf l).isSome = okn b r ∧ ∀ z, numOf l = some z → Tells n z ∧ g = decide (z < 0) := by
  rw [numOf_is hs hb]
  cases h : okn b r with
  | false => exact ⟨rfl, fun z hz => by simp at hz⟩
  | true =>
    refine ⟨rfl, fun z hz => ?_⟩
    simp only [if_true, Option.some.injEq] at hz
    subst hz
    have e2 : (sgI sg (rdn b r)).natAbs = rdn b r := by
      unfold sgI
      cases sg <;> simp
    have ht : Tells n (sgI sg (rdn b r)) := by
      unfold Tells
      rw [e2]
      exact hn h
    refine ⟨ht, ?_⟩
    have hp := ht.pos
    rw [e2] at hp
    rw [hg h, hp]
    unfold sgI
    cases sg <;> simp
theorem cells_two {w : World} {g : Nat} {t : TypeId} {a b : Value} (h : Has w g t #[a, b]) : w.cell? ⟨g, 0, none⟩ = some a ∧ w.cell? ⟨g, 1, none⟩ = some b ∧ w.frozen? ⟨g, 0, none⟩ = false ∧ w.frozen? ⟨g, 1, none⟩ = false :=
  ⟨h.cell 0, h.cell 1, h.free 0, h.free 1⟩
/-- decimal's answer, read for Number. -/
theorem dec_num {B : Nat} {l r : List UInt8} {sg : Bool} {w' : World} {e : Ending} (hs : (sgnOf (strip l)).1 = sg) (hb : basOf (sgnOf (strip l)).2 = (10, r)) (h : DecRes B 10 sg r w' e) : NumRes B l w' e := by
  obtain ⟨v, n, g, rfl, hd, hk⟩ := h
  obtain ⟨h1, h2⟩ := tells_of (n := n) (g := g) hs hb (fun h => .inl (hk h).1) (fun h => (hk h).2)
  exact ⟨v, n, g, by rw [h1], hd, h2⟩
theorem NumRes.form {B : Nat} {l : List UInt8} {w' : World} {e : Ending} (h : NumRes B l w' e) :
    ∃ (s : Bool) (av : Option Addr) (n c : Nat) (t : Bool), e = .returned (.tuple #[.agg #[.bool s, .slice av n c], .bool t]) ∧
      ∀ (k : Nat) (x y : Value), k < B → NumRes B l ((w'.setCell ⟨k, 0, none⟩ x).setCell ⟨k, 1, none⟩ y) e := by
  obtain ⟨v, n, g, rfl, hd, hk⟩ := h
  obtain ⟨av, c, rfl⟩ := hd.slice
  exact ⟨g, av, _, c, _, rfl, fun k x y hlt => ⟨_, n, g, rfl, (hd.apart (hd.new hlt) 0 x).apart (hd.new hlt) 1 y, hk⟩⟩
theorem NumRes.mono {B B' : Nat} {l : List UInt8} {w' : World} {e : Ending} (h : NumRes B l w' e) (hB : B' ≤ B) : NumRes B' l w' e := by
  obtain ⟨v, n, g, rfl, hd, hk⟩ := h
  exact ⟨v, n, g, rfl, DecIs.mono hd hB, hk⟩

set_option maxRecDepth 100000 in
set_option maxHeartbeats 8000000 in
theorem rNumber_any (s : ByteArray) (w : World) (hs : s.size ≤ 1000000000000) :
    Calls Tryd.prog 55 #[.string s] w fun e w' => NumRes w.heap.size s.data.toList w' e ∧ Below w.heap.size w w' := by
  have HSt := Lib.hid (fun W => Strip_any s W (by omega))
  go_enter Tryd.func55, Tryd.ntmps55
  go_wp2_with fail
  refine (HSt.out _).mono ?_
  rintro e w1 ⟨⟨S, rfl, hS0, hT⟩, rfl⟩
  have hS : S.size ≤ 1000000000000 := by omega
  have HT := Lib.hid hT
  clear hT hS0
  go_upto_region 3 with fail
  go_cut [21] from 10 to 21 (fun v21 wx => wx = w.alloc (.cells #[.bool false, .slice none 0 0] 51) ∧ ∃ t : Bool, v21 = .bool t ∧ ((t = false ∧ sgnOf S.data.toList = (false, S.data.toList)) ∨ (t = true ∧ ∃ (_h : 0 < S.size) (sg : Bool), (S[0].toNat = if sg then 45 else 43) ∧ sgnOf S.data.toList = (sg, (S.extract 1 S.size).data.toList))))
  case first =>
    rcases sgn_cases S with ⟨he, hsg⟩ | ⟨hp, h45, hsg⟩ | ⟨hp, h45, h43, hsg⟩ | ⟨hp, h45, h43, hsg⟩
    · have HS := Lib.hid hsg
      clear hsg
      go_wp2
      go_meet
      exact ⟨rfl, false, rfl, .inl ⟨rfl, HS.out⟩⟩
    all_goals
      have hE' : S.toList.isEmpty = false := by
        cases h : S.toList.isEmpty with
        | false => rfl
        | true => have h1 := (empty_iff S).1 h; have h2 := Lib.size_eq S; rw [h1] at h2; have h3 : S.size = 0 := h2; omega
      have hpI : (0 : Int) < (S.size : Int) := by omega
      have HS := Lib.hid hsg
      have HP := Lib.hid hp
      clear hsg
    · have g1 : (S[0].toNat : Int) = 45 := by omega
      have H45 := Lib.hid h45
      clear h45
      go_wp2
      go_meet
      exact ⟨rfl, true, rfl, .inr ⟨rfl, HP.out, true, H45.out, HS.out⟩⟩
    · have g1 : ((S[0].toNat : Int) == 45) = false := by simp; omega
      have g2 : (S[0].toNat : Int) = 43 := by omega
      have g2' : ((S[0].toNat : Int) == 43) = true := by simp; omega
      have n1 : ¬ (S[0].toNat : Int) = 45 := by omega
      have H43 := Lib.hid h43
      have G := Lib.hid (And.intro g1 g2')
      clear h45 h43
      go_wp2
      go_meet
      exact ⟨rfl, true, by first | rfl | (simp only [Value.bool.injEq, Bool.or_eq_true, beq_iff_eq]; exact .inr g2), .inr ⟨rfl, HP.out, false, H43.out, HS.out⟩⟩
    · have g1 : ((S[0].toNat : Int) == 45) = false := by simp; omega
      have g2 : ((S[0].toNat : Int) == 43) = false := by simp; omega
      have n1 : ¬ (S[0].toNat : Int) = 45 := by omega
      have n2 : ¬ (S[0].toNat : Int) = 43 := by omega
      have G := Lib.hid (And.intro g1 g2)
      clear h45 h43
      go_wp2
      go_meet
      exact ⟨rfl, false, by first | rfl | (simp only [Value.bool.injEq, Bool.or_eq_false_iff, beq_eq_false_iff_ne]; exact ⟨n1, n2⟩), .inl ⟨rfl, HS.out⟩⟩
  case rest =>
    obtain ⟨rfl, t, rfl, hor⟩ := hcut
    have HOR := Lib.hid hor
    clear hor
    go_upto_if 21 with fail
    go_cut [0, 4] from 22 to 26 (fun v0 v4 wx => wx = w.alloc (.cells #[.bool false, .slice none 0 0] 51) ∧ ∃ (X : ByteArray) (sg : Bool), v0 = .string X ∧ v4 = .bool sg ∧ X.size ≤ 1000000000000 ∧ sgnOf S.data.toList = (sg, X.data.toList))
    case first =>
      cases t with
      | false =>
        have HS := Lib.hid (show sgnOf S.data.toList = (false, S.data.toList) by
          rcases HOR.out with ⟨_, h⟩ | ⟨h, _⟩
          · exact h
          · cases h)
        go_wp2
        go_meet
        exact ⟨rfl, S, false, rfl, rfl, hS, HS.out⟩
      | true =>
        obtain ⟨hp, sg, hc, hsg⟩ : ∃ (_h : 0 < S.size) (sg : Bool), (S[0].toNat = if sg then 45 else 43) ∧ sgnOf S.data.toList = (sg, (S.extract 1 S.size).data.toList) := by
          rcases HOR.out with ⟨h, _⟩ | ⟨_, h⟩
          · cases h
          · exact h
        have HS := Lib.hid hsg
        have hpI : (0 : Int) < (S.size : Int) := by omega
        have hpI1 : (1 : Int) ≤ (S.size : Int) := by omega
        clear hsg
        cases sg with
        | true =>
          have g1 : (S[0].toNat : Int) = 45 := by simp at hc; omega
          clear hc
          go_wp2
          go_meet
          exact ⟨rfl, S.extract 1 S.size, true, rfl, by first | rfl | simp [g1], by simp; omega, HS.out⟩
        | false =>
          have g1 : (S[0].toNat : Int) = 43 := by simp at hc; omega
          clear hc
          go_wp2
          go_meet
          exact ⟨rfl, S.extract 1 S.size, false, rfl, by first | rfl | simp [g1], by simp; omega, HS.out⟩
    case rest =>
      obtain ⟨rfl, X, sg, rfl, rfl, hX, hsg⟩ := hcut
      have HSG := Lib.hid (show (sgnOf (strip s.data.toList)).1 = sg ∧ (sgnOf (strip s.data.toList)).2 = X.data.toList by rw [← HT.out, hsg]; exact ⟨rfl, rfl⟩)
      clear hsg
      have HDEC := Lib.hid (fun W => decimal_any X sg W hX)
      rcases bas_cases X with ⟨hp, hb⟩ | ⟨hp, h0, hb⟩ | ⟨hp, h0, h1, hb⟩ | ⟨hp, h0, h1, hb⟩ | ⟨hp, h0, h1, hb⟩ | ⟨hp, h0, h1, h2, h3, hb⟩
      · have HB := Lib.hid hb
        have hpI : ¬ (1 : Int) < (X.size : Int) := by omega
        have hpN : ¬ 1 < X.size := by omega
        clear hb
        go_wp2_with (go_at_call 105; refine (HDEC.out _).mono ?_; rintro e w3 ⟨hres, hb3⟩; have hnr := dec_num HSG.out.1 (by rw [HSG.out.2]; exact HB.out) hres; obtain ⟨sb, av, nv, cv, tt, rfl, hfar⟩ := hnr.form; have hz3 := hb3.size; obtain ⟨q0, q1, q2, q3⟩ := cells_two ((Has.new w 51 #[.bool false, .slice none 0 0]).below hb3))
        refine bodyPost_ret (v := .tuple #[.agg #[.bool sb, .slice av nv cv], .bool tt]) (by simp [results, Tryd.results55, go_sem, World.cell?_setCell_same', q0, q1]) rfl ⟨(hfar w.heap.size _ _ (by simp)).mono (by simp), ((((Below.refl w.heap.size w).alloc (Nat.le_refl _) _).trans (hb3.mono (by simp))).setCell (p := ⟨w.heap.size, 0, none⟩) (Nat.le_refl _) _).setCell (p := ⟨w.heap.size, 1, none⟩) (Nat.le_refl _) _⟩
      · have HB := Lib.hid hb
        have hpI : (1 : Int) < (X.size : Int) := by omega
        have hpJ : (2 : Int) ≤ (X.size : Int) := by omega
        have g0 : ((X[0].toNat : Int) == 48) = false := by simp; omega
        have g0' : ¬ (X[0].toNat : Int) = 48 := by omega
        clear hb
        go_wp2_with (go_at_call 105; refine (HDEC.out _).mono ?_; rintro e w3 ⟨hres, hb3⟩; have hnr := dec_num HSG.out.1 (by rw [HSG.out.2]; exact HB.out) hres; obtain ⟨sb, av, nv, cv, tt, rfl, hfar⟩ := hnr.form; have hz3 := hb3.size; obtain ⟨q0, q1, q2, q3⟩ := cells_two ((Has.new w 51 #[.bool false, .slice none 0 0]).below hb3))
        refine bodyPost_ret (v := .tuple #[.agg #[.bool sb, .slice av nv cv], .bool tt]) (by simp [results, Tryd.results55, go_sem, World.cell?_setCell_same', q0, q1]) rfl ⟨(hfar w.heap.size _ _ (by simp)).mono (by simp), ((((Below.refl w.heap.size w).alloc (Nat.le_refl _) _).trans (hb3.mono (by simp))).setCell (p := ⟨w.heap.size, 0, none⟩) (Nat.le_refl _) _).setCell (p := ⟨w.heap.size, 1, none⟩) (Nat.le_refl _) _⟩
      · have HB := Lib.hid hb
        have HDG := Lib.hid (fun W => rdigits_any (X.extract 2 X.size) 16 W (by simp; omega) (by omega) (by omega))
        have hpI : (1 : Int) < (X.size : Int) := by omega
        have hpJ : (2 : Int) ≤ (X.size : Int) := by omega
        have g0 : (X[0].toNat : Int) = 48 := by omega
        have g1 : (X[1].toNat : Int) = 120 := by omega
        clear hb
        go_wp2_with fail
        refine (HDG.out _).mono ?_
        rintro e w3 ⟨⟨v, n, rfl, hd, hk⟩, hb3⟩
        obtain ⟨av, cv, rfl⟩ := hd.slice
        have hd' := hd
        obtain ⟨L, hL⟩ : ∃ L, (lims 10 n).length = L := ⟨_, rfl⟩
        rw [hL] at hd' ⊢
        have HL := Lib.hid hL
        have HD := Lib.hid hd'
        have HT2 := Lib.hid (tells_of (n := n) (g := sg && decide (0 < n)) HSG.out.1 (by rw [HSG.out.2]; exact HB.out) hk (fun _ => rfl))
        have hz3 := hb3.size
        have HB3 := Lib.hid (Below.behind ((Below.refl w.heap.size w).alloc (Nat.le_refl _) (.cells #[.bool false, .slice none 0 0] 51)) hb3)
        have HH := Lib.hid ((Has.new w 51 #[.bool false, .slice none 0 0]).below hb3)
        clear hd hd' hk hL hb3
        go_wp2_with fail
        refine (num_any _ n _ sg w3 HD.out).mono ?_
        rintro e w4 ⟨rfl, hb4⟩
        have hz4 := hb4.size
        obtain ⟨q0, q1, q2, q3⟩ := cells_two (HH.out.below hb4)
        have HB4 := Lib.hid (Below.behind HB3.out hb4)
        have HD4 := Lib.hid (HD.out.kept hb4)
        clear hb4
        go_wp2
        refine bodyPost_ret (v := .tuple #[.agg #[.bool (sg && decide (0 < n)), .slice av L cv], .bool (okn 16 (X.extract 2 X.size).data.toList)]) (by simp [results, Tryd.results55, go_sem, World.cell?_setCell_same', q0, q1]) rfl ⟨⟨_, n, _, by rw [HT2.out.1], DecIs.mono ((HD4.out.apart (HD4.out.new (b := w.heap.size) (by simp)) 0 _).apart (HD4.out.new (b := w.heap.size) (by simp)) 1 _) (by simp), HT2.out.2⟩, (HB4.out.setCell (p := ⟨w.heap.size, 0, none⟩) (Nat.le_refl _) _).setCell (p := ⟨w.heap.size, 1, none⟩) (Nat.le_refl _) _⟩
      · have HB := Lib.hid hb
        have HDG := Lib.hid (fun W => rdigits_any (X.extract 2 X.size) 8 W (by simp; omega) (by omega) (by omega))
        have hpI : (1 : Int) < (X.size : Int) := by omega
        have hpJ : (2 : Int) ≤ (X.size : Int) := by omega
        have g0 : (X[0].toNat : Int) = 48 := by omega
        have g1 : (X[1].toNat : Int) = 111 := by omega
        clear hb
        go_wp2_with fail
        refine (HDG.out _).mono ?_
        rintro e w3 ⟨⟨v, n, rfl, hd, hk⟩, hb3⟩
        obtain ⟨av, cv, rfl⟩ := hd.slice
        have hd' := hd
        obtain ⟨L, hL⟩ : ∃ L, (lims 10 n).length = L := ⟨_, rfl⟩
        rw [hL] at hd' ⊢
        have HL := Lib.hid hL
        have HD := Lib.hid hd'
        have HT2 := Lib.hid (tells_of (n := n) (g := sg && decide (0 < n)) HSG.out.1 (by rw [HSG.out.2]; exact HB.out) hk (fun _ => rfl))
        have hz3 := hb3.size
        have HB3 := Lib.hid (Below.behind ((Below.refl w.heap.size w).alloc (Nat.le_refl _) (.cells #[.bool false, .slice none 0 0] 51)) hb3)
        have HH := Lib.hid ((Has.new w 51 #[.bool false, .slice none 0 0]).below hb3)
        clear hd hd' hk hL hb3
        go_wp2_with fail
        refine (num_any _ n _ sg w3 HD.out).mono ?_
        rintro e w4 ⟨rfl, hb4⟩
        have hz4 := hb4.size
        obtain ⟨q0, q1, q2, q3⟩ := cells_two (HH.out.below hb4)
        have HB4 := Lib.hid (Below.behind HB3.out hb4)
        have HD4 := Lib.hid (HD.out.kept hb4)
        clear hb4
        go_wp2
        refine bodyPost_ret (v := .tuple #[.agg #[.bool (sg && decide (0 < n)), .slice av L cv], .bool (okn 8 (X.extract 2 X.size).data.toList)]) (by simp [results, Tryd.results55, go_sem, World.cell?_setCell_same', q0, q1]) rfl ⟨⟨_, n, _, by rw [HT2.out.1], DecIs.mono ((HD4.out.apart (HD4.out.new (b := w.heap.size) (by simp)) 0 _).apart (HD4.out.new (b := w.heap.size) (by simp)) 1 _) (by simp), HT2.out.2⟩, (HB4.out.setCell (p := ⟨w.heap.size, 0, none⟩) (Nat.le_refl _) _).setCell (p := ⟨w.heap.size, 1, none⟩) (Nat.le_refl _) _⟩
      · have HB := Lib.hid hb
        have HDG := Lib.hid (fun W => rdigits_any (X.extract 2 X.size) 2 W (by simp; omega) (by omega) (by omega))
        have hpI : (1 : Int) < (X.size : Int) := by omega
        have hpJ : (2 : Int) ≤ (X.size : Int) := by omega
        have g0 : (X[0].toNat : Int) = 48 := by omega
        have g1 : (X[1].toNat : Int) = 98 := by omega
        clear hb
        go_wp2_with fail
        refine (HDG.out _).mono ?_
        rintro e w3 ⟨⟨v, n, rfl, hd, hk⟩, hb3⟩
        obtain ⟨av, cv, rfl⟩ := hd.slice
        have hd' := hd
        obtain ⟨L, hL⟩ : ∃ L, (lims 10 n).length = L := ⟨_, rfl⟩
        rw [hL] at hd' ⊢
        have HL := Lib.hid hL
        have HD := Lib.hid hd'
        have HT2 := Lib.hid (tells_of (n := n) (g := sg && decide (0 < n)) HSG.out.1 (by rw [HSG.out.2]; exact HB.out) hk (fun _ => rfl))
        have hz3 := hb3.size
        have HB3 := Lib.hid (Below.behind ((Below.refl w.heap.size w).alloc (Nat.le_refl _) (.cells #[.bool false, .slice none 0 0] 51)) hb3)
        have HH := Lib.hid ((Has.new w 51 #[.bool false, .slice none 0 0]).below hb3)
        clear hd hd' hk hL hb3
        go_wp2_with fail
        refine (num_any _ n _ sg w3 HD.out).mono ?_
        rintro e w4 ⟨rfl, hb4⟩
        have hz4 := hb4.size
        obtain ⟨q0, q1, q2, q3⟩ := cells_two (HH.out.below hb4)
        have HB4 := Lib.hid (Below.behind HB3.out hb4)
        have HD4 := Lib.hid (HD.out.kept hb4)
        clear hb4
        go_wp2
        refine bodyPost_ret (v := .tuple #[.agg #[.bool (sg && decide (0 < n)), .slice av L cv], .bool (okn 2 (X.extract 2 X.size).data.toList)]) (by simp [results, Tryd.results55, go_sem, World.cell?_setCell_same', q0, q1]) rfl ⟨⟨_, n, _, by rw [HT2.out.1], DecIs.mono ((HD4.out.apart (HD4.out.new (b := w.heap.size) (by simp)) 0 _).apart (HD4.out.new (b := w.heap.size) (by simp)) 1 _) (by simp), HT2.out.2⟩, (HB4.out.setCell (p := ⟨w.heap.size, 0, none⟩) (Nat.le_refl _) _).setCell (p := ⟨w.heap.size, 1, none⟩) (Nat.le_refl _) _⟩
      · have HB := Lib.hid hb
        have hpI : (1 : Int) < (X.size : Int) := by omega
        have hpJ : (2 : Int) ≤ (X.size : Int) := by omega
        have g0 : (X[0].toNat : Int) = 48 := by omega
        have g1 : ((X[1].toNat : Int) == 120) = false := by simp; omega
        have g1' : ¬ (X[1].toNat : Int) = 120 := by omega
        have g2 : ((X[1].toNat : Int) == 111) = false := by simp; omega
        have g2' : ¬ (X[1].toNat : Int) = 111 := by omega
        have g3 : ((X[1].toNat : Int) == 98) = false := by simp; omega
        have g3' : ¬ (X[1].toNat : Int) = 98 := by omega
        clear hb
        go_wp2_with (go_at_call 105; refine (HDEC.out _).mono ?_; rintro e w3 ⟨hres, hb3⟩; have hnr := dec_num HSG.out.1 (by rw [HSG.out.2]; exact HB.out) hres; obtain ⟨sb, av, nv, cv, tt, rfl, hfar⟩ := hnr.form; have hz3 := hb3.size; obtain ⟨q0, q1, q2, q3⟩ := cells_two ((Has.new w 51 #[.bool false, .slice none 0 0]).below hb3))
        refine bodyPost_ret (v := .tuple #[.agg #[.bool sb, .slice av nv cv], .bool tt]) (by simp [results, Tryd.results55, go_sem, World.cell?_setCell_same', q0, q1]) rfl ⟨(hfar w.heap.size _ _ (by simp)).mono (by simp), ((((Below.refl w.heap.size w).alloc (Nat.le_refl _) _).trans (hb3.mono (by simp))).setCell (p := ⟨w.heap.size, 0, none⟩) (Nat.le_refl _) _).setCell (p := ⟨w.heap.size, 1, none⟩) (Nat.le_refl _) _⟩
end Go.Proofs.YtmnibfdenmeepaaDoor
/- told of the reference, with no others; Canonical, Valid of the reference. -/
namespace Go.Proofs.YtmnibfdenmeepaaDoor
open Go.RowKit Go.Shelf Big

/-- What is told of a number that lies in decimal digits. -/
def toldS (s : Bool) (n : Nat) : List UInt8 × Int := if tooL n then ([], 4) else (txtS s n, 0)
theorem toldS_sg (s : Bool) (n : Nat) : toldS s n = told (sgI s n) := by
  unfold toldS told
  rw [sg_abs, txtS_sg]
theorem dec_short {n : Nat} (h : tooL n = false) : (lims 10 n).length ≤ 10000 := by
  rw [tool_len] at h
  have := of_decide_eq_false h
  omega
set_option maxRecDepth 100000 in
set_option maxHeartbeats 2000000 in
theorem rTold_none (B n : Nat) (s : Bool) (v : Value) (w : World) (h : DecIs w B v n) :
    Calls Tryd.prog 56 #[.agg #[.bool s, v], .slice none 0 0] w fun e w' => e = retS (toldS s n) ∧ Below w.heap.size w w' := by
  obtain ⟨av, c, rfl⟩ := h.slice
  have HL := Lib.hid (fun W (hW : Below w.heap.size w W) => rLong_any B n s _ W (h.kept hW))
  have HX := Lib.hid (fun (ht : tooL n = false) W (hW : Below w.heap.size w W) => rText_any B n s _ W (h.kept hW) (dec_short ht))
  have hRet : retS (toldS s n) = if tooL n then .returned (.tuple #[.string ⟨#[]⟩, .int .i64 4]) else .returned (.tuple #[.string ⟨(txtS s n).toArray⟩, .int .i64 0]) := by
    unfold toldS retS
    cases tooL n <;> rfl
  have HRet := Lib.hid hRet
  clear hRet h
  revert HL HX HRet
  generalize (lims 10 n).length = l
  intro HL HX HRet
  have hB : ∀ o, Below w.heap.size w (w.alloc o) := fun o => (Below.refl _ w).alloc (Nat.le_refl _) o
  have HB := Lib.hid hB
  clear hB
  go_enter Tryd.func56, Tryd.ntmps56
  go_wp2_with fail
  go_loopg [10] 0 (fun g v wx => v = .int .i64 0 ∧ wx = w.alloc (.cells #[.bool s, .slice av l c] 51))
  case atStart => exact ⟨rfl, rfl⟩
  case round =>
    obtain ⟨rfl, rfl⟩ := hrel
    go_wp2_with fail
    refine (HL.out _ (HB.out _)).mono ?_
    rintro e w2 ⟨rfl, hb2⟩
    have hB2 := Below.behind (HB.out (.cells #[.bool s, .slice av l c] 51)) hb2
    have c0 : w2.cell? ⟨w.heap.size, 0, none⟩ = some (.bool s) := Has.cell ((Has.new w 51 #[.bool s, .slice av l c]).below hb2) 0
    have c1 : w2.cell? ⟨w.heap.size, 1, none⟩ = some (.slice av l c) := Has.cell ((Has.new w 51 #[.bool s, .slice av l c]).below hb2) 1
    have HB2 := Lib.hid hB2
    clear hb2 hB2
    cases ht : tooL n with
    | true =>
      have HR := Lib.hid (show retS (toldS s n) = .returned (.tuple #[.string ⟨#[]⟩, .int .i64 4]) by rw [HRet.out, ht]; rfl)
      clear ht
      go_wp2
      go_ret2
      exact ⟨HR.out.symm, HB2.out⟩
    | false =>
      have HR := Lib.hid (show retS (toldS s n) = .returned (.tuple #[.string ⟨(txtS s n).toArray⟩, .int .i64 0]) by rw [HRet.out, ht]; rfl)
      have HX2 := Lib.hid (HX.out ht)
      clear ht
      go_wp2_with fail
      refine (HX2.out _ HB2.out).mono ?_
      rintro e w3 ⟨rfl, hb3⟩
      have HB3 := Lib.hid (Below.behind HB2.out hb3)
      clear hb3
      go_wp2
      go_ret2
      exact ⟨HR.out.symm, HB3.out⟩

theorem le_far {a b : Nat} (h : a ≤ b) : 10 ^ a ≤ 10 ^ b := Nat.pow_le_pow_right (by omega) h
theorem lim_far : lim600 ≤ 10 ^ k1200 := le_far (show k600 ≤ k1200 by decide)
theorem tool_yes {n : Nat} (h : lim600 ≤ n) : tooL n = true := decide_eq_true h
theorem tells_tool {n : Nat} {z : Int} (h : Tells n z) : tooL n = tooL z.natAbs := by
  rcases h with rfl | ⟨h1, h2⟩
  · rfl
  · have e1 : tooL n = true := tool_yes (Nat.le_trans lim_far h1)
    have e2 : tooL z.natAbs = true := tool_yes (Nat.le_trans lim_far (Nat.le_trans h1 h2))
    rw [e1, e2]
theorem tells_is {n : Nat} {z : Int} (h : Tells n z) (ht : tooL z.natAbs = false) : n = z.natAbs := by
  rcases h with rfl | ⟨h1, h2⟩
  · rfl
  · have e2 : tooL z.natAbs = true := tool_yes (Nat.le_trans lim_far (Nat.le_trans h1 h2))
    rw [ht] at e2
    cases e2
theorem tells_told {n : Nat} {z : Int} (h : Tells n z) : toldS (decide (z < 0)) n = if tooL z.natAbs then ([], 4) else told z := by
  cases ht : tooL z.natAbs with
  | true =>
    unfold toldS
    rw [tells_tool h, ht, if_pos rfl, if_pos rfl]
  | false =>
    rw [tells_is h ht, toldS_sg, sg_z, if_neg (by simp)]

set_option maxRecDepth 100000 in
set_option maxHeartbeats 2000000 in
theorem rCanonical_any (a : ByteArray) (w : World) (ha : a.size ≤ 1000000000000) :
    Calls Tryd.prog 13 #[.string a] w fun e w' => e = retS (oneS (fun x => x) a.data.toList) ∧ Below w.heap.size w w' := by
  have HN := Lib.hid (rNumber_any a w ha)
  go_enter Tryd.func13, Tryd.ntmps13
  go_wp2_with fail
  refine HN.out.mono ?_
  rintro e w1 ⟨hn, hb1⟩
  obtain ⟨v, n, sg, rfl, hd, hk⟩ := hn
  obtain ⟨av, c, rfl⟩ := hd.slice
  have HB1 := Lib.hid (fun o => hb1.alloc hb1.size o)
  cases hO : numOf a.data.toList with
  | none =>
    have HR := Lib.hid (show oneS (fun x => x) a.data.toList = ([], 2) by unfold oneS; rw [hO])
    clear hk hb1 hO hd
    generalize (lims 10 n).length = l
    go_wp2
    go_ret2
    exact ⟨by rw [HR.out]; rfl, HB1.out _⟩
  | some z =>
    obtain ⟨ht, rfl⟩ := hk z hO
    have HR := Lib.hid (show oneS (fun x => x) a.data.toList = toldS (decide (z < 0)) n by rw [tells_told ht]; unfold oneS; rw [hO])
    have HT := Lib.hid (fun W (hW : Below w1.heap.size w1 W) => rTold_none w.heap.size n (decide (z < 0)) _ W (hd.kept hW))
    have HBA := Lib.hid (fun o => (Below.refl w1.heap.size w1).alloc (Nat.le_refl _) o)
    clear hk hb1 hO hd ht
    revert HT
    generalize (lims 10 n).length = l
    generalize toldS (decide (z < 0)) n = p at HR
    obtain ⟨pl, pc⟩ := p
    unfold retS
    intro HT
    go_wp2_with fail
    refine (HT.out _ (HBA.out _)).mono ?_
    rintro e w2 ⟨rfl, hb2⟩
    have HB2 := Lib.hid (Below.behind (HB1.out _) hb2)
    clear hb2
    go_wp2
    go_ret2
    exact ⟨by rw [HR.out]; rfl, HB2.out⟩

/-- A text is a number that is not too long. -/
def validB (l : List UInt8) : Bool := match numOf l with | some z => !tooL z.natAbs | none => false
theorem one_valid (l : List UInt8) : ((oneS (fun x => x) l).2 == 0) = validB l := by
  unfold oneS validB told
  cases numOf l with
  | none => rfl
  | some z =>
    show ((if tooL z.natAbs = true then ([], 4) else if tooL z.natAbs = true then ([], 4) else (txt z, 0) : List UInt8 × Int).2 == 0) = !tooL z.natAbs
    cases tooL z.natAbs <;> rfl
theorem rValid_any (a : ByteArray) (w : World) (ha : a.size ≤ 1000000000000) :
    Calls Tryd.prog 15 #[.string a] w fun e w' => e = .returned (.bool (validB a.data.toList)) ∧ Below w.heap.size w w' := by
  have HV := Lib.hid (one_valid a.data.toList)
  have HC := Lib.hid (rCanonical_any a w ha)
  revert HV HC
  generalize oneS (fun x => x) a.data.toList = p
  obtain ⟨l, c⟩ := p
  unfold retS
  intro HV HC
  go_enter Tryd.func15, Tryd.ntmps15
  go_wp2_with fail
  refine HC.out.mono ?_
  rintro e w1 ⟨rfl, hb1⟩
  go_wp2
  go_ret
  exact ⟨by rw [← HV.out]; rfl, hb1⟩
end Go.Proofs.YtmnibfdenmeepaaDoor
/- right: texts are numbers of at most 60 bytes. -/
namespace Go.Proofs.YtmnibfdenmeepaaDoor
open Go.RowKit Go.Shelf Big

def rightB (s : ByteArray) : Bool := validB s.data.toList && decide (s.size ≤ 60)
set_option maxRecDepth 100000 in
set_option maxHeartbeats 2000000 in
theorem right_any (g c : Nat) (L : List ByteArray) (w : World) (hL : L.length ≤ 1000) (hsz : ∀ s ∈ L, s.size ≤ 1000000000000) (hg : g < w.heap.size)
    (hcell : ∀ i s, L[i]? = some s → w.cell? ⟨g, i, none⟩ = some (.string s)) :
    Calls Tryd.prog 48 #[.slice (some ⟨g, 0, none⟩) L.length c] w fun e w' => e = .returned (.bool (L.all rightB)) ∧ Below w.heap.size w w' := by
  have HC := Lib.hid (fun W (hW : Below w.heap.size w W) i s (h : L[i]? = some s) => (hW.cell (p := ⟨g, i, none⟩) hg).trans (hcell i s h))
  have HS := Lib.hid hsz
  obtain ⟨K, hK⟩ : ∃ K, L.length = K := ⟨_, rfl⟩
  have HK := Lib.hid hK
  rw [hK] at hL ⊢
  clear hcell hsz hK
  go_enter Tryd.func48, Tryd.ntmps48
  go_wp2_with fail
  go_loopg [7] K (fun g v wx => ∃ i : Nat, v = .int .i64 (i : Int) ∧ i + g = K ∧ (L.take i).all rightB = true ∧ Below w.heap.size w wx)
  case atStart => exact ⟨0, rfl, by omega, rfl, Below.refl _ _⟩
  case round =>
    obtain ⟨i, rfl, hik, hall, hb⟩ := hrel
    have HA := Lib.hid hall
    have HB := Lib.hid hb
    clear hall hb
    by_cases hi : i < K
    · have hiL : i < L.length := by rw [HK.out]; exact hi
      obtain ⟨s, hs⟩ : ∃ s, L[i] = s := ⟨_, rfl⟩
      have hc := HC.out _ HB.out i s (by rw [List.getElem?_eq_getElem hiL, hs])
      have hsz := HS.out s (by rw [← hs]; exact List.getElem_mem hiL)
      have HSP := Lib.hid (show L.all rightB = ((L.take (i + 1)).all rightB && (L.drop (i + 1)).all rightB) by rw [← List.all_append, List.take_append_drop])
      have HN := Lib.hid (show (L.take (i + 1)).all rightB = rightB s by
        rw [List.take_succ_eq_append_getElem hiL, List.all_append, HA.out, hs]
        simp)
      have HV := Lib.hid (fun W => rValid_any s W hsz)
      have hi1 : (i : Int) < (K : Int) := by omega
      have hi0 : (0 : Int) ≤ (i : Int) := by omega
      have HRB := Lib.hid (show rightB s = (validB s.data.toList && decide (s.size ≤ 60)) from rfl)
      clear hs hiL
      revert HV HRB
      generalize validB s.data.toList = vb
      intro HV HRB
      cases vb with
      | false =>
        go_wp2_with fail
        refine (HV.out _).mono ?_
        rintro e w2 ⟨rfl, hb2⟩
        have HB2 := Lib.hid (Below.behind HB.out hb2)
        clear hb2
        go_wp2
        go_ret
        exact ⟨by rw [HSP.out, HN.out, HRB.out]; rfl, HB2.out⟩
      | true =>
        obtain ⟨G, rfl⟩ : ∃ G, gk = G + 1 := ⟨gk - 1, by omega⟩
        by_cases h60 : s.size ≤ 60
        · have h60I : ¬ (s.size : Int) > 60 := by omega
          have HRT := Lib.hid (show rightB s = true by rw [HRB.out, decide_eq_true h60]; rfl)
          go_wp2_with fail
          refine (HV.out _).mono ?_
          rintro e w2 ⟨rfl, hb2⟩
          have HB2 := Lib.hid (Below.behind HB.out hb2)
          clear hb2
          go_wp2
          go_roundg G
          case measure => omega
          case rel => exact ⟨i + 1, by go_num, by omega, by rw [HN.out, HRT.out], HB2.out⟩
        · have h60I : (s.size : Int) > 60 := by omega
          have HRT := Lib.hid (show rightB s = false by rw [HRB.out, decide_eq_false h60]; rfl)
          go_wp2_with fail
          refine (HV.out _).mono ?_
          rintro e w2 ⟨rfl, hb2⟩
          have HB2 := Lib.hid (Below.behind HB.out hb2)
          clear hb2
          go_wp2
          go_ret
          exact ⟨by rw [HSP.out, HN.out, HRT.out]; rfl, HB2.out⟩
    · obtain rfl : i = K := by omega
      have hi1 : ¬ (i : Int) < (i : Int) := by omega
      have HT := Lib.hid (show L.all rightB = true by
        have := HA.out
        rwa [List.take_of_length_le (by rw [HK.out]; exact Nat.le_refl _)] at this)
      go_wp2
      go_ret
      exact ⟨by rw [HT.out]; rfl, HB.out⟩
end Go.Proofs.YtmnibfdenmeepaaDoor
/- Numbers of at most 60 bytes: how great they are. -/
namespace Go.Proofs.YtmnibfdenmeepaaDoor
open Go.RowKit Go.Shelf Big

theorem strip_len (l : List UInt8) : (strip l).length ≤ l.length := by
  unfold strip
  rw [List.length_reverse]
  refine Nat.le_trans (List.Sublist.length_le (List.dropWhile_sublist _)) ?_
  rw [List.length_reverse]
  exact List.Sublist.length_le (List.dropWhile_sublist _)
theorem sgn_len (l : List UInt8) : (sgnOf l).2.length ≤ l.length := by
  unfold sgnOf
  split <;> simp
theorem bas_len (l : List UInt8) : (basOf l).2.length ≤ l.length ∧ 0 < (basOf l).1 ∧ (basOf l).1 ≤ 16 := by
  unfold basOf
  split <;> simp <;> omega
theorem num_small {l : List UInt8} {z : Int} (h : numOf l = some z) (hl : l.length ≤ 60) : z.natAbs < 16 ^ 60 := by
  unfold numOf at h
  split at h
  · rename_i hok
    obtain ⟨h1, h2, h3⟩ := bas_len (sgnOf (strip l)).2
    have h4 := sgn_len (strip l)
    have h5 := strip_len l
    generalize (basOf (sgnOf (strip l)).2).2 = r at *
    generalize (basOf (sgnOf (strip l)).2).1 = b at *
    have hz := Option.some.inj h
    subst hz
    rw [sg_abs]
    unfold okn at hok
    simp only [Bool.and_eq_true, List.all_eq_true, decide_eq_true_eq] at hok
    have h6 := rdn_lt hok.2
    have h7 : b ^ r.length ≤ 16 ^ r.length := Nat.pow_le_pow_left h3 _
    have h8 : 16 ^ r.length ≤ 16 ^ 60 := Nat.pow_le_pow_right (by decide) (by omega)
    omega
  · cases h
theorem tool_lt {n : Nat} (h : n < 16 ^ 240) : tooL n = false := by
  have h1 : 16 ^ 240 ≤ lim600 := by decide +kernel
  unfold tooL
  rw [decide_eq_false (by omega)]
/-- The text of a number. -/
def txb (z : Int) : ByteArray := ⟨(txt z).toArray⟩
theorem num_txb (z : Int) : numOf (txb z).data.toList = some z := numOf_txt z
theorem txb_len {z : Int} (h : tooL z.natAbs = false) : (txb z).size ≤ 1000 := by
  show (txt z).toArray.size ≤ 1000
  rw [List.size_toArray]
  have h1 : (digs 10 z.natAbs).length ≤ 601 := by
    refine digs_len ?_
    rw [tool_len] at h
    have := of_decide_eq_false h
    omega
  unfold txt
  split
  · rw [List.length_cons]; omega
  · omega
theorem ret_op {f : Int → Int → Int} {a b : List UInt8} {x y : Int} (ha : numOf a = some x) (hb : numOf b = some y) (h1 : tooL x.natAbs = false) (h2 : tooL y.natAbs = false) (h3 : tooL (f x y).natAbs = false) :
    retS (opS f a b) = .returned (.tuple #[.string (txb (f x y)), .int .i64 0]) := by
  unfold opS told
  rw [ha, hb]
  simp only [h1, h2, h3, Bool.or_self]
  rfl
theorem ret_one {f : Int → Int} {a : List UInt8} {x : Int} (ha : numOf a = some x) (h1 : tooL x.natAbs = false) (h3 : tooL (f x).natAbs = false) :
    retS (oneS f a) = .returned (.tuple #[.string (txb (f x)), .int .i64 0]) := by
  unfold oneS told
  rw [ha]
  simp only [h1, h3]
  rfl
theorem right_num {s : ByteArray} (h : rightB s = true) : ∃ z, numOf s.data.toList = some z ∧ z.natAbs < 16 ^ 60 ∧ s.size ≤ 60 := by
  unfold rightB at h
  rw [Bool.and_eq_true] at h
  have h60 := of_decide_eq_true h.2
  have h1 := h.1
  unfold validB at h1
  cases hn : numOf s.data.toList with
  | none => rw [hn] at h1; cases h1
  | some z => exact ⟨z, rfl, num_small hn (by rw [← Lib.size_eq]; exact h60), h60⟩
theorem abs_add (x y : Int) {n m : Nat} (h1 : x.natAbs < n) (h2 : y.natAbs < m) : (x + y).natAbs < n + m := by
  have := Int.natAbs_add_le x y
  omega
theorem abs_sub (x y : Int) {n m : Nat} (h1 : x.natAbs < n) (h2 : y.natAbs < m) : (x - y).natAbs < n + m := by omega
theorem abs_mul (x y : Int) {n m : Nat} (h1 : x.natAbs < n) (h2 : y.natAbs < m) : (x * y).natAbs < n * m := by
  rw [Int.natAbs_mul]
  exact Nat.mul_lt_mul'' h1 h2
end Go.Proofs.YtmnibfdenmeepaaDoor
/- BigRing answers true. -/
namespace Go.Proofs.YtmnibfdenmeepaaDoor
open Go.RowKit Go.Shelf Big

theorem add_is (a b : ByteArray) (x y : Int) (w : World) (ha : a.size ≤ 1000) (hb : b.size ≤ 1000) (hx : numOf a.data.toList = some x) (hy : numOf b.data.toList = some y) (h1 : tooL x.natAbs = false) (h2 : tooL y.natAbs = false) (h3 : tooL (x + y).natAbs = false) :
    Calls Tryd.prog 16 #[.string a, .string b] w fun e w' => e = .returned (.tuple #[.string (txb (x + y)), .int .i64 0]) ∧ Below w.heap.size w w' :=
  (Add_any a b w ha hb).mono fun _e _w' ⟨h, hb⟩ => ⟨h.trans (ret_op (f := fun x y => x + y) hx hy h1 h2 h3), hb⟩
theorem sub_is (a b : ByteArray) (x y : Int) (w : World) (ha : a.size ≤ 1000) (hb : b.size ≤ 1000) (hx : numOf a.data.toList = some x) (hy : numOf b.data.toList = some y) (h1 : tooL x.natAbs = false) (h2 : tooL y.natAbs = false) (h3 : tooL (x - y).natAbs = false) :
    Calls Tryd.prog 18 #[.string a, .string b] w fun e w' => e = .returned (.tuple #[.string (txb (x - y)), .int .i64 0]) ∧ Below w.heap.size w w' :=
  (Sub_any a b w ha hb).mono fun _e _w' ⟨h, hb⟩ => ⟨h.trans (ret_op (f := fun x y => x - y) hx hy h1 h2 h3), hb⟩
theorem mul_is (a b : ByteArray) (x y : Int) (w : World) (ha : a.size ≤ 1000) (hb : b.size ≤ 1000) (hx : numOf a.data.toList = some x) (hy : numOf b.data.toList = some y) (h1 : tooL x.natAbs = false) (h2 : tooL y.natAbs = false) (h3 : tooL (x * y).natAbs = false) :
    Calls Tryd.prog 22 #[.string a, .string b] w fun e w' => e = .returned (.tuple #[.string (txb (x * y)), .int .i64 0]) ∧ Below w.heap.size w w' :=
  (Mul_any a b w ha hb).mono fun _e _w' ⟨h, hb⟩ => ⟨h.trans (ret_op (f := fun x y => x * y) hx hy h1 h2 h3), hb⟩
theorem can_is (a : ByteArray) (x : Int) (w : World) (ha : a.size ≤ 1000) (hx : numOf a.data.toList = some x) (h1 : tooL x.natAbs = false) :
    Calls Tryd.prog 12 #[.string a] w fun e w' => e = .returned (.tuple #[.string (txb x), .int .i64 0]) ∧ Below w.heap.size w w' :=
  (Canonical_any a w ha).mono fun _e _w' ⟨h, hb⟩ => ⟨h.trans (ret_one (f := fun x => x) hx h1 h1), hb⟩

def k60 : Nat := 16 ^ 60
theorem tool_60 {n : Nat} (h : n < k60 * k60 * 4) : tooL n = false := by
  have : k60 * k60 * 4 ≤ 16 ^ 240 := by decide +kernel
  exact tool_lt (Nat.lt_of_lt_of_le h this)
theorem k60_le : k60 * 4 ≤ k60 * k60 * 4 := by decide +kernel

set_option maxRecDepth 100000 in
set_option maxHeartbeats 4000000 in
theorem ringLaw_any (a b c : ByteArray) (w : World) (ha : a.size ≤ 1000000000000) (hb : b.size ≤ 1000000000000) (hc : c.size ≤ 1000000000000) :
    Calls Tryd.prog 7 #[.string a, .string b, .string c] w fun e w' => e = .returned (.bool true) ∧ Below w.heap.size w w' := by
  have HAW := Lib.hid awake_any
  have hcell : ∀ i s, [a, b, c][i]? = some s → (w.alloc (.cells #[.string a, .string b, .string c] 9)).cell? ⟨w.heap.size, i, none⟩ = some (.string s) := by
    intro i s h
    rw [Has.cell (Has.new w _ _)]
    match i, h with
    | 0, h => cases h; rfl
    | 1, h => cases h; rfl
    | 2, h => cases h; rfl
  have HR := Lib.hid (right_any w.heap.size 3 [a, b, c] _ (by simp) (by intro s hs; simp at hs; rcases hs with rfl | rfl | rfl <;> assumption) (by simp) hcell)
  have HB0 := Lib.hid ((Below.refl _ w).alloc (Nat.le_refl _) (.cells #[.string a, .string b, .string c] 9))
  clear hcell
  cases hall : [a, b, c].all rightB with
  | false =>
    rw [hall] at HR
    clear hall
    go_enter Tryd.func7, Tryd.ntmps7
    go_wp2_with fail
    refine HR.out.mono ?_
    rintro e w1 ⟨rfl, hb1⟩
    have HB1 := Lib.hid (Below.behind HB0.out hb1)
    clear hb1
    go_wp2_with fail
    refine (HAW.out _).mono ?_
    rintro e w2 ⟨rfl, hb2⟩
    have HB2 := Lib.hid (Below.behind HB1.out hb2)
    clear hb2
    go_wp2
    go_ret
    exact ⟨rfl, HB2.out⟩
  | true =>
    rw [hall] at HR
    simp only [List.all_cons, List.all_nil, Bool.and_true, Bool.and_eq_true] at hall
    obtain ⟨x, hx, hx60, ha60⟩ := right_num hall.1
    obtain ⟨y, hy, hy60, hb60⟩ := right_num hall.2.1
    obtain ⟨z, hz, hz60, hc60⟩ := right_num hall.2.2
    have e60 : (16 : Nat) ^ 60 = k60 := rfl
    rw [e60] at hx60 hy60 hz60
    have hk := k60_le
    have txy := abs_add x y hx60 hy60
    have tyz := abs_add y z hy60 hz60
    have txyz := abs_add (x + y) z txy hz60
    have tmxy := abs_mul x y hx60 hy60
    have tmxz := abs_mul x z hx60 hz60
    have tmx := abs_mul x (y + z) hx60 tyz
    rw [Nat.mul_add] at tmx
    have t1 : tooL x.natAbs = false := tool_60 (by omega)
    have t2 : tooL y.natAbs = false := tool_60 (by omega)
    have t3 : tooL z.natAbs = false := tool_60 (by omega)
    have t4 : tooL (x + y).natAbs = false := tool_60 (by omega)
    have t5 : tooL (y + z).natAbs = false := tool_60 (by omega)
    have t6 : tooL (x + y + z).natAbs = false := tool_60 (by omega)
    have t7 : tooL (x * y).natAbs = false := tool_60 (by omega)
    have t8 : tooL (x * z).natAbs = false := tool_60 (by omega)
    have t9 : tooL (x * (y + z)).natAbs = false := tool_60 (by omega)
    have ha' : a.size ≤ 1000 := by omega
    have hb' : b.size ≤ 1000 := by omega
    have hc' : c.size ≤ 1000 := by omega
    have C1 := Lib.hid (fun W => add_is a b x y W ha' hb' hx hy t1 t2 t4)
    have C2 := Lib.hid (fun W => add_is b a y x W hb' ha' hy hx t2 t1 (by rw [Int.add_comm]; exact t4))
    rw [Int.add_comm y x] at C2
    have C3 := Lib.hid (fun W => add_is b c y z W hb' hc' hy hz t2 t3 t5)
    have C4 := Lib.hid (fun W => add_is (txb (x + y)) c _ z W (txb_len t4) hc' (num_txb _) hz t4 t3 t6)
    have C5 := Lib.hid (fun W => add_is a (txb (y + z)) x _ W ha' (txb_len t5) hx (num_txb _) t1 t5 (by rw [← Int.add_assoc]; exact t6))
    rw [← Int.add_assoc] at C5
    have e6 : x + y - y = x := by omega
    have C6 := Lib.hid (fun W => sub_is (txb (x + y)) b _ y W (txb_len t4) hb' (num_txb _) hy t4 t2 (by rw [e6]; exact t1))
    rw [e6] at C6
    have C7 := Lib.hid (fun W => can_is a x W ha' hx t1)
    have C8 := Lib.hid (fun W => mul_is a b x y W ha' hb' hx hy t1 t2 t7)
    have C9 := Lib.hid (fun W => mul_is b a y x W hb' ha' hy hx t2 t1 (by rw [Int.mul_comm]; exact t7))
    rw [Int.mul_comm y x] at C9
    have C10 := Lib.hid (fun W => mul_is a c x z W ha' hc' hx hz t1 t3 t8)
    have C11 := Lib.hid (fun W => mul_is a (txb (y + z)) x _ W ha' (txb_len t5) hx (num_txb _) t1 t5 t9)
    have C12 := Lib.hid (fun W => add_is (txb (x * y)) (txb (x * z)) _ _ W (txb_len t7) (txb_len t8) (num_txb _) (num_txb _) t7 t8 (by rw [← Int.mul_add]; exact t9))
    rw [← Int.mul_add] at C12
    clear e6 hx hy hz hx60 hy60 hz60 hk txy tyz txyz tmxy tmxz tmx t1 t2 t3 t4 t5 t6 t7 t8 t9 e60 ha60 hb60 hc60 ha' hb' hc' hall ha hb hc
    revert C1 C2 C3 C4 C5 C6 C7 C8 C9 C10 C11 C12
    generalize txb (x + y + z) = XYZ
    generalize txb (x + y) = XY
    generalize txb (x * (y + z)) = MXYZ
    generalize txb (y + z) = YZ
    generalize txb (x * y) = MXY
    generalize txb (x * z) = MXZ
    generalize txb x = X
    intro C1 C2 C3 C4 C5 C6 C7 C8 C9 C10 C11 C12
    go_enter Tryd.func7, Tryd.ntmps7
    go_wp2_with fail
    refine HR.out.mono ?_
    rintro e w1 ⟨rfl, hb1⟩
    have HB1 := Lib.hid (Below.behind HB0.out hb1)
    clear hb1
    go_wp2_with fail
    refine (C1.out _).mono ?_
    rintro e w2 ⟨rfl, hb2⟩
    have HB2 := Lib.hid (Below.behind HB1.out hb2)
    clear hb2
    go_wp2_with fail
    refine (C2.out _).mono ?_
    rintro e w3 ⟨rfl, hb3⟩
    have HB3 := Lib.hid (Below.behind HB2.out hb3)
    clear hb3
    go_wp2_with fail
    refine (C3.out _).mono ?_
    rintro e w4 ⟨rfl, hb4⟩
    have HB4 := Lib.hid (Below.behind HB3.out hb4)
    clear hb4
    go_wp2_with fail
    refine (C4.out _).mono ?_
    rintro e w5 ⟨rfl, hb5⟩
    have HB5 := Lib.hid (Below.behind HB4.out hb5)
    clear hb5
    go_wp2_with fail
    refine (C5.out _).mono ?_
    rintro e w6 ⟨rfl, hb6⟩
    have HB6 := Lib.hid (Below.behind HB5.out hb6)
    clear hb6
    go_wp2_with fail
    refine (C6.out _).mono ?_
    rintro e w7 ⟨rfl, hb7⟩
    have HB7 := Lib.hid (Below.behind HB6.out hb7)
    clear hb7
    go_wp2_with fail
    refine (C7.out _).mono ?_
    rintro e w8 ⟨rfl, hb8⟩
    have HB8 := Lib.hid (Below.behind HB7.out hb8)
    clear hb8
    go_wp2_with fail
    refine (C8.out _).mono ?_
    rintro e w9 ⟨rfl, hb9⟩
    have HB9 := Lib.hid (Below.behind HB8.out hb9)
    clear hb9
    go_wp2_with fail
    refine (C9.out _).mono ?_
    rintro e w10 ⟨rfl, hb10⟩
    have HB10 := Lib.hid (Below.behind HB9.out hb10)
    clear hb10
    go_wp2_with fail
    refine (C10.out _).mono ?_
    rintro e w11 ⟨rfl, hb11⟩
    have HB11 := Lib.hid (Below.behind HB10.out hb11)
    clear hb11
    go_wp2_with fail
    refine (C11.out _).mono ?_
    rintro e w12 ⟨rfl, hb12⟩
    have HB12 := Lib.hid (Below.behind HB11.out hb12)
    clear hb12
    go_wp2_with fail
    refine (C12.out _).mono ?_
    rintro e w13 ⟨rfl, hb13⟩
    have HB13 := Lib.hid (Below.behind HB12.out hb13)
    clear hb13
    go_wp2_with fail
    refine (HAW.out _).mono ?_
    rintro e w14 ⟨rfl, hb14⟩
    have HB14 := Lib.hid (Below.behind HB13.out hb14)
    clear hb14
    go_wp2
    go_ret
    exact ⟨rfl, HB14.out⟩
end Go.Proofs.YtmnibfdenmeepaaDoor
/- order of the reference. -/
namespace Go.Proofs.YtmnibfdenmeepaaDoor
open Go.RowKit Go.Shelf Big

/-- Which of two numbers is greater. -/
def ordI (m k : Nat) : Int := if m < k then -1 else if k < m then 1 else 0
theorem div_succ (m i : Nat) : m / 10 ^ i = 10 * (m / 10 ^ (i + 1)) + m / 10 ^ i % 10 := by
  rw [Nat.pow_succ, ← Nat.div_div_eq_div_mul]
  omega
theorem ord_at {m k i : Nat} (h : m / 10 ^ (i + 1) = k / 10 ^ (i + 1)) : (m / 10 ^ i % 10 = k / 10 ^ i % 10 → m / 10 ^ i = k / 10 ^ i) ∧ (m / 10 ^ i % 10 < k / 10 ^ i % 10 → ordI m k = -1) ∧ (k / 10 ^ i % 10 < m / 10 ^ i % 10 → ordI m k = 1) := by
  have h1 := div_succ m i
  have h2 := div_succ k i
  refine ⟨fun e => by omega, fun e => ?_, fun e => ?_⟩
  · have h3 : m / 10 ^ i < k / 10 ^ i := by omega
    have h4 : m < k := by
      rcases Nat.lt_or_ge m k with h | h
      · exact h
      · have := Nat.div_le_div_right (c := 10 ^ i) h
        omega
    unfold ordI
    rw [if_pos h4]
  · have h3 : k / 10 ^ i < m / 10 ^ i := by omega
    have h4 : k < m := by
      rcases Nat.lt_or_ge k m with h | h
      · exact h
      · have := Nat.div_le_div_right (c := 10 ^ i) h
        omega
    unfold ordI
    rw [if_neg (by omega), if_pos h4]
theorem dec_top {n i : Nat} (h : (lims 10 n).length ≤ i) : n / 10 ^ i = 0 := Nat.div_eq_of_lt ((lims_len_le ten_ge n i).1 h)

set_option maxRecDepth 100000 in
set_option maxHeartbeats 2000000 in
theorem order_any (B1 B2 m k : Nat) (va vb : Value) (w : World) (ha : DecIs w B1 va m) (hb : DecIs w B2 vb k) (hla : (lims 10 m).length ≤ 100000000) (hlb : (lims 10 k).length ≤ 100000000) :
    Calls Tryd.prog 76 #[va, vb] w fun e w' => e = .returned (.int .i64 (ordI m k)) ∧ w = w' := by
  obtain ⟨av, ca, rfl⟩ := ha.slice
  obtain ⟨bv, cb, rfl⟩ := hb.slice
  have HDA := Lib.hid (fun i (hi : i ≤ 100000000000000) => rdig_any B1 m _ i w ha hi)
  have HDB := Lib.hid (fun i (hi : i ≤ 100000000000000) => rdig_any B2 k _ i w hb hi)
  have HTop := Lib.hid (fun i (h1 : (lims 10 m).length ≤ i) (h2 : (lims 10 k).length ≤ i) => (dec_top h1).trans (dec_top h2).symm)
  revert hla hlb HDA HDB HTop
  generalize (lims 10 m).length = la
  generalize (lims 10 k).length = lb
  intro hla hlb HDA HDB HTop
  clear ha hb
  obtain ⟨n, hn1, hn2, hn3⟩ : ∃ n, la ≤ n ∧ lb ≤ n ∧ (n = la ∨ n = lb) := by
    rcases Nat.lt_or_ge la lb with h | h
    · exact ⟨lb, by omega, by omega, .inr rfl⟩
    · exact ⟨la, by omega, by omega, .inl rfl⟩
  have HT := Lib.hid (HTop.out n hn1 hn2)
  have hmax : max (la : Int) (lb : Int) = (n : Int) := by omega
  clear HTop
  go_enter Tryd.func76, Tryd.ntmps76
  go_upto_region 1 with fail
  go_cut [5] from 8 to 13 (fun v wx => w = wx ∧ v = .int .i64 ((n : Int) - 1))
  case first =>
    have HM := Lib.hid hmax
    clear hmax
    go_wp2
    go_meet
    exact ⟨rfl, by rw [HM.out]⟩
  case rest =>
    obtain ⟨rfl, rfl⟩ := hcut
    clear hmax
    go_wp2_with fail
    go_loopg [5] n (fun g v wx => w = wx ∧ v = .int .i64 ((g : Int) - 1) ∧ g ≤ n ∧ m / 10 ^ g = k / 10 ^ g)
    case atStart => exact ⟨rfl, rfl, Nat.le_refl _, HT.out⟩
    case round =>
      obtain ⟨rfl, rfl, hg, hq⟩ := hrel
      cases gk with
      | zero =>
        have HO := Lib.hid (show ordI m k = 0 by
          have e : m = k := by simpa using hq
          unfold ordI
          rw [e, if_neg (by omega), if_neg (by omega)])
        clear hq
        go_wp2
        go_ret
        exact ⟨by rw [HO.out]; rfl, rfl⟩
      | succ i =>
        have HQ := Lib.hid (ord_at hq)
        have hi1 : ((i + 1 : Nat) : Int) - 1 = (i : Int) := by omega
        have hi2 : (0 : Int) ≤ (i : Int) := by omega
        have hA := HDA.out i (by omega)
        have hB := HDB.out i (by omega)
        clear hq
        revert hA hB HQ
        generalize m / 10 ^ i % 10 = x
        generalize k / 10 ^ i % 10 = y
        intro HQ hA hB
        have HA := Lib.hid hA
        have HB := Lib.hid hB
        clear hA hB
        rcases (show x = y ∨ x < y ∨ y < x by omega) with h | h | h
        · have HN := Lib.hid (HQ.out.1 h)
          have e1 : ((x : Int) == (y : Int)) = true := by rw [beq_iff_eq]; omega
          have HE := Lib.hid h
          clear h
          go_wp2_with fail
          refine HA.out.mono ?_
          rintro e w' ⟨rfl, rfl⟩
          go_wp2_with fail
          refine HB.out.mono ?_
          rintro e w' ⟨rfl, rfl⟩
          go_wp2
          go_roundg i
          case measure => omega
          case rel => exact ⟨rfl, by first | rfl | go_num, by omega, HN.out⟩
        · have HN := Lib.hid (HQ.out.2.1 h)
          have e1 : ((x : Int) == (y : Int)) = false := by rw [beq_eq_false_iff_ne]; omega
          have e2 : (x : Int) < (y : Int) := by omega
          go_wp2_with fail
          refine HA.out.mono ?_
          rintro e w' ⟨rfl, rfl⟩
          go_wp2_with fail
          refine HB.out.mono ?_
          rintro e w' ⟨rfl, rfl⟩
          go_wp2
          go_ret
          exact ⟨by rw [HN.out]; rfl, rfl⟩
        · have HN := Lib.hid (HQ.out.2.2 h)
          have e1 : ((x : Int) == (y : Int)) = false := by rw [beq_eq_false_iff_ne]; omega
          have e2 : ¬ (x : Int) < (y : Int) := by omega
          go_wp2_with fail
          refine HA.out.mono ?_
          rintro e w' ⟨rfl, rfl⟩
          go_wp2_with fail
          refine HB.out.mono ?_
          rintro e w' ⟨rfl, rfl⟩
          go_wp2
          go_ret
          exact ⟨by rw [HN.out]; rfl, rfl⟩
end Go.Proofs.YtmnibfdenmeepaaDoor
/- minus of the reference. -/
namespace Go.Proofs.YtmnibfdenmeepaaDoor
open Go.RowKit Go.Shelf Big

/-- What minus has built after j digits. -/
def MinTo (m k j : Nat) (ds : List Nat) (c : Nat) : Prop :=
  ds.length = j ∧ Ten ds ∧ c ≤ 1 ∧ ev 10 ds + k % 10 ^ j = m % 10 ^ j + 10 ^ j * c
theorem MinTo.start (m k : Nat) : MinTo m k 0 [] 0 := ⟨rfl, (fun _ h => nomatch h), Nat.zero_le _, by simp [ev, Nat.mod_one]⟩
theorem MinTo.step {m k j x y c d c' : Nat} {ds : List Nat} (h : MinTo m k j ds c) (hx : m / 10 ^ j % 10 = x) (hy : k / 10 ^ j % 10 = y) (hd : d < 10) (hc : c' ≤ 1) (he : d + y + c = x + 10 * c') : MinTo m k (j + 1) (ds ++ [d]) c' := by
  obtain ⟨h1, h2, h3, h4⟩ := h
  refine ⟨by rw [List.length_append, h1]; rfl, ?_, hc, ?_⟩
  · intro a ha
    rcases List.mem_append.1 ha with h | h
    · exact h2 a h
    · rw [List.mem_singleton] at h; omega
  · rw [ev_snoc, h1, mod_step, mod_step, hx, hy, Nat.pow_succ, Nat.mul_assoc]
    have e : 10 ^ j * (d + y + c) = 10 ^ j * (x + 10 * c') := by rw [he]
    rw [Nat.mul_add, Nat.mul_add, Nat.mul_add] at e
    omega
theorem MinTo.done {m k j : Nat} {ds : List Nat} {c : Nat} (h : MinTo m k j ds c) (hm : (lims 10 m).length ≤ j) (hk : k ≤ m) : ev 10 ds = m - k := by
  obtain ⟨h1, h2, h3, h4⟩ := h
  have g1 := (lims_len_le ten_ge m j).1 hm
  have g2 : ev 10 ds < 10 ^ j := by rw [← h1]; exact ev_lt h2
  rw [Nat.mod_eq_of_lt g1, Nat.mod_eq_of_lt (Nat.lt_of_le_of_lt hk g1)] at h4
  rcases (show c = 0 ∨ c = 1 by omega) with rfl | rfl
  · omega
  · omega

set_option maxRecDepth 100000 in
set_option maxHeartbeats 4000000 in
theorem rminus_any (B1 B2 m k : Nat) (va vb : Value) (w : World) (ha : DecIs w B1 va m) (hb : DecIs w B2 vb k) (hk : k ≤ m) (hla : (lims 10 m).length ≤ 100000000) :
    Calls Tryd.prog 110 #[va, vb] w fun e w' => (∃ v, e = .returned v ∧ DecIs w' w.heap.size v (m - k)) ∧ Below w.heap.size w w' := by
  obtain ⟨i0, hi', hz0, hz1, hz2⟩ := info_parts Tryd.info3
  obtain ⟨ao, ca, rfl⟩ := ha.slice
  obtain ⟨bo, cb, rfl⟩ := hb.slice
  have HCa := Lib.hid (fun W (h : Below w.heap.size w W) i (hi : i < (lims 10 m).length) => show ∃ ga, ao = some ⟨ga, 0, none⟩ ∧ W.cell? ⟨ga, i, none⟩ = some (.int .i64 ((m / 10 ^ i % 10 : Nat) : Int)) from by
    have hrow := ha.kept h
    unfold DecIs at hrow
    rcases hrow.2 with ⟨e, hz⟩ | ⟨g, cap, cur, e, hg1, hg2, -⟩
    · omega
    · cases e
      refine ⟨g, rfl, ?_⟩
      rw [World.ownsRow.cellAt hrow i (by omega), List.getElem?_map, List.getElem?_eq_getElem hi, ← lims_getD ten_ge m i, List.getD_eq_getElem?_getD, List.getElem?_eq_getElem hi]
      rfl)
  have HDg := Lib.hid (fun W (h : Below w.heap.size w W) j (hj : j ≤ 100000000000000) => rdig_any B2 k _ j W (hb.kept h) hj)
  have HDone := Lib.hid (fun j ds c (h : MinTo m k j ds c) (hm : (lims 10 m).length ≤ j) => h.done hm hk)
  revert hla HCa HDone
  generalize (lims 10 m).length = la
  generalize (lims 10 k).length = lb at HDg ⊢
  intro hla HCa HDone
  clear ha hb hk
  go_enter Tryd.func110, Tryd.ntmps110
  go_wp2_with fail
  go_loopg [5, 6, 11] la (fun g v5 v6 v11 wx => ∃ (i c : Nat) (ds : List Nat), v11 = .int .i64 (i : Int) ∧ v6 = .int .i64 (c : Int) ∧ i + g = la ∧ MinTo m k i ds c ∧ wx.ownsRow w.heap.size 3 1 v5 i (ds.map i64v) ∧ Below w.heap.size w wx)
  case atStart => exact ⟨0, 0, [], rfl, rfl, by omega, MinTo.start m k, World.ownsRow_nil _ _ _ _, Below.refl _ _⟩
  case round =>
    obtain ⟨i, c, ds, rfl, rfl, hig, hpt, hrow, hbx⟩ := hrel
    obtain ⟨oo, cc, rfl⟩ := slice_of_own hrow
    have HB := Lib.hid hbx
    have hzx := hbx.size
    have HP := Lib.hid hpt
    have HLT := Lib.hid (fun g hg => (World.ownsRow.lt hrow g hg).1)
    have hc1 := hpt.2.2.1
    clear hpt
    by_cases hi : i < la
    · have hiI : (i : Int) < (la : Int) := by omega
      obtain ⟨ga, rfl, hca⟩ := HCa.out wr hbx i hi
      obtain ⟨x, hx⟩ : ∃ x, m / 10 ^ i % 10 = x := ⟨_, rfl⟩
      obtain ⟨y, hy⟩ : ∃ y, k / 10 ^ i % 10 = y := ⟨_, rfl⟩
      have hx2 : x < 10 := by rw [← hx]; exact Nat.mod_lt _ (by decide)
      have hy2 : y < 10 := by rw [← hy]; exact Nat.mod_lt _ (by decide)
      rw [hx] at hca
      have hdg := fun n => HDg.out (wr.drewN n) (belowN hbx n) i (by omega)
      rw [hy] at hdg
      have HDG := Lib.hid (fun n => (hdg n).mono fun e w' h => And.intro h.1 h.2.symm)
      have HStep := Lib.hid (fun d c' => HP.out.step (d := d) (c' := c') hx hy)
      obtain ⟨g, rfl⟩ : ∃ g, gk = g + 1 := ⟨gk - 1, by omega⟩
      have w1 : IntKind.i64.wrap ((x : Int) - (y : Int)) = (x : Int) - (y : Int) := IntWalk.i64_in _ (by omega)
      have w2 : IntKind.i64.wrap ((x : Int) - (y : Int) - (c : Int)) = (x : Int) - (y : Int) - (c : Int) := IntWalk.i64_in _ (by omega)
      have hi0 : (0 : Int) ≤ (i : Int) := by omega
      have HRW : ∀ n, (wr.drewN n).ownsRow w.heap.size 3 1 (.slice oo i cc) i (ds.map i64v) := fun _ => hrow
      have HBN := Lib.hid (fun n o => ((belowN hbx n).alloc (by show w.heap.size ≤ wr.heap.size; omega) o))
      clear hdg hx hy hbx
      by_cases hn : x < y + c
      · have k1 : (x : Int) - y - c < 0 := by omega
        have e1 : (x : Int) - y - c + 10 = ((x + 10 - y - c : Nat) : Int) := by omega
        have hd : x + 10 - y - c < 10 := by omega
        have HS2 := Lib.hid (HStep.out (x + 10 - y - c) 1 hd (by omega) (by omega))
        have E1 := Lib.hid e1
        clear e1 hd
        go_wp2_with fail
        go_quiet ((go_at_call 94; exact Calls.quiet_of_same (HDG.out _)))
        go_wp2_with (at_builtin; refine wpList_append_own _ rfl _ _ 49 rfl w.heap.size 3 i0 (.int .i64 0) 1 8 Tryd.underlying49 hi' hz0 hz1 hz2 rfl (by decide) (.slice oo i cc) i _ rfl ((HRW _).alloc _) ⟨wr.heap.size, 0, none⟩ 1 1 [.int .i64 ((x : Int) - y - c + 10)] rfl rfl (cell_one_new _ _ _) (by intro u hu; simp at hu; subst hu; rfl) (by unfold maxLen; omega) (by omega) (by simp; omega) ?_; intro v' w3 hown2 hgrow _)
        go_roundg g
        case measure => omega
        case rel =>
          refine ⟨i + 1, 1, ds ++ [x + 10 - y - c], by go_num, by go_num, by omega, HS2.out, ?_, (HBN.out _ _).grown hgrow (by simp; omega) (fun q hq => HLT.out q hq)⟩
          rw [List.map_append]
          rw [E1.out] at hown2
          exact hown2
      · have k1 : ¬ (x : Int) - y - c < 0 := by omega
        have e1 : (x : Int) - y - c = ((x - y - c : Nat) : Int) := by omega
        have hd : x - y - c < 10 := by omega
        have HS2 := Lib.hid (HStep.out (x - y - c) 0 hd (by omega) (by omega))
        have E1 := Lib.hid e1
        clear e1 hd
        go_wp2_with fail
        go_quiet ((go_at_call 94; exact Calls.quiet_of_same (HDG.out _)))
        go_wp2_with (at_builtin; refine wpList_append_own _ rfl _ _ 49 rfl w.heap.size 3 i0 (.int .i64 0) 1 8 Tryd.underlying49 hi' hz0 hz1 hz2 rfl (by decide) (.slice oo i cc) i _ rfl ((HRW _).alloc _) ⟨wr.heap.size, 0, none⟩ 1 1 [.int .i64 ((x : Int) - y - c)] rfl rfl (cell_one_new _ _ _) (by intro u hu; simp at hu; subst hu; rfl) (by unfold maxLen; omega) (by omega) (by simp; omega) ?_; intro v' w3 hown2 hgrow _)
        go_roundg g
        case measure => omega
        case rel =>
          refine ⟨i + 1, 0, ds ++ [x - y - c], by go_num, by go_num, by omega, HS2.out, ?_, (HBN.out _ _).grown hgrow (by simp; omega) (fun q hq => HLT.out q hq)⟩
          rw [List.map_append]
          rw [E1.out] at hown2
          exact hown2
    · obtain rfl : i = la := by omega
      have hi1 : ¬ (i : Int) < (i : Int) := by omega
      have hcut := trimmed_any w.heap.size _ ds wr (by rw [HP.out.1]; exact hrow) HP.out.2.1 (by rw [HP.out.1]; omega)
      rw [HDone.out _ _ _ HP.out (Nat.le_refl _)] at hcut
      have HCut := Lib.hid hcut
      clear hcut hrow hbx
      go_wp2_with fail
      refine HCut.out.mono ?_
      rintro e w2 ⟨⟨v', rfl, hnat⟩, rfl⟩
      obtain ⟨ao', c1, rfl⟩ := hnat.slice
      go_wp2
      go_ret
      exact ⟨⟨_, rfl, hnat⟩, HB.out⟩
end Go.Proofs.YtmnibfdenmeepaaDoor
