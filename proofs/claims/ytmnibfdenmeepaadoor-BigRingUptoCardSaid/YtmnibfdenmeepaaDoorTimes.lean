/- The product of two numbers in words. -/
import Derived.Test.YtmnibfdenmeepaaDoorNumM
namespace Go.Proofs.YtmnibfdenmeepaaDoor
open Go.RowKit Go.Shelf Big

theorem tm_step (od db : List Nat) (i j x y o c X _k0 : Nat) (hp : i + j < od.length) (hy : db.getD j 0 = y) (ho : od.getD (i + j) 0 = o)
    (he : ev 4294967296 od + 4294967296 ^ (i + j) * c = X + x * ev 4294967296 (db.take j) * 4294967296 ^ i) :
    ev 4294967296 (od.set (i + j) ((x * y + o + c) % 4294967296)) + 4294967296 ^ (i + (j + 1)) * ((x * y + o + c) / 4294967296) = X + x * ev 4294967296 (db.take (j + 1)) * 4294967296 ^ i := by
  have h1 := ev_set 4294967296 od (i + j) ((x * y + o + c) % 4294967296) hp
  rw [ho] at h1
  have h2 := Nat.mod_add_div (x * y + o + c) 4294967296
  have h3 : 4294967296 ^ (i + j) * ((x * y + o + c) % 4294967296) + 4294967296 ^ (i + (j + 1)) * ((x * y + o + c) / 4294967296) = 4294967296 ^ (i + j) * (x * y) + 4294967296 ^ (i + j) * o + 4294967296 ^ (i + j) * c := by
    rw [← Nat.add_assoc i j 1, Nat.pow_succ, Nat.mul_assoc, ← Nat.mul_add, h2, Nat.mul_add, Nat.mul_add]
  have h4 : x * ev 4294967296 (db.take (j + 1)) * 4294967296 ^ i = x * ev 4294967296 (db.take j) * 4294967296 ^ i + 4294967296 ^ (i + j) * (x * y) := by
    rw [ev_take_succ, hy, Nat.mul_add, Nat.add_mul]
    congr 1
    rw [Nat.pow_add, Nat.mul_left_comm x, Nat.mul_comm _ (4294967296 ^ i), Nat.mul_assoc]
  rw [h4]
  omega
theorem tm_end (od : List Nat) (da : List Nat) (i lb x c k : Nat) (hp : i + lb < od.length) (h0 : od.getD (i + lb) 0 = 0) (hx : da.getD i 0 = x)
    (he : ev 4294967296 od + 4294967296 ^ (i + lb) * c = ev 4294967296 (da.take i) * k + x * k * 4294967296 ^ i) :
    ev 4294967296 (od.set (i + lb) c) = ev 4294967296 (da.take (i + 1)) * k := by
  have h1 := ev_set 4294967296 od (i + lb) c hp
  rw [h0, Nat.mul_zero, Nat.add_zero] at h1
  rw [h1, he, ev_take_succ, hx, Nat.add_mul]
  congr 1
  rw [Nat.mul_comm (4294967296 ^ i) x, Nat.mul_right_comm]
theorem word_mul2 (x y o c : Nat) (hx : x < 4294967296) (hy : y < 4294967296) (ho : o < 4294967296) (hc : c < 4294967296) : x * y + o + c < 18446744073709551616 ∧ (x * y + o + c) / 4294967296 < 4294967296 := by
  have h1 : x * y ≤ 4294967295 * 4294967295 := Nat.mul_le_mul (by omega) (by omega)
  omega
theorem getD_small {ds : List Nat} (h : Small ds) (j : Nat) : ds.getD j 0 < 4294967296 := by
  rw [List.getD_eq_getElem?_getD]
  by_cases hj : j < ds.length
  · rw [List.getElem?_eq_getElem hj]; exact h _ (List.getElem_mem hj)
  · rw [List.getElem?_eq_none (by omega)]; decide
theorem getD_of {ds : List Nat} {j : Nat} (h : j < ds.length) : ds.getD j 0 = ds[j] := by
  rw [List.getD_eq_getElem?_getD, List.getElem?_eq_getElem h]; rfl
theorem getD_set_ne {ds : List Nat} {j p v : Nat} (h : p ≠ j) : (ds.set p v).getD j 0 = ds.getD j 0 := by
  rw [List.getD_eq_getElem?_getD, List.getD_eq_getElem?_getD, List.getElem?_set_ne h]

set_option maxRecDepth 100000 in
set_option maxHeartbeats 4000000 in
theorem times_any (B1 B2 m k : Nat) (va vb : Value) (w : World) (ha : NatIs w B1 va m) (hb : NatIs w B2 vb k) (hla : (lims 4294967296 m).length ≤ 100000) (hlb : (lims 4294967296 k).length ≤ 100000) :
    Calls Tryd.prog 111 #[va, vb] w fun e w' => (∃ v, e = .returned v ∧ NatIs w' w.heap.size v (m * k)) ∧ Below w.heap.size w w' := by
  obtain ⟨ao, ca, rfl, ra⟩ := ha.reads hla
  obtain ⟨bo, cb, rfl, rb⟩ := hb.reads hlb
  have HDA := Lib.hid (And.intro (ev_lims w32_ge m) (And.intro (lims_lt w32_ge m) (fun j => lims_getD w32_ge m j)))
  have HDB := Lib.hid (And.intro (ev_lims w32_ge k) (And.intro (lims_lt w32_ge k) (fun j => lims_getD w32_ge k j)))
  revert ra rb HDA HDB hla hlb
  generalize lims 4294967296 m = da
  generalize lims 4294967296 k = db
  intro hla hlb ra rb HDA HDB
  clear ha hb
  obtain ⟨la, hl⟩ : ∃ la, da.length = la := ⟨_, rfl⟩
  obtain ⟨lb, hl2⟩ : ∃ lb, db.length = lb := ⟨_, rfl⟩
  rw [hl] at hla ra ⊢
  rw [hl2] at hlb rb ⊢
  have Hl := Lib.hid (And.intro hl hl2)
  clear hl hl2
  obtain ⟨C, hC1, hC2⟩ : ∃ C, C ≤ la + lb ∧ la + lb ≤ C := ⟨la + lb, by omega, by omega⟩
  have hmk : ∀ W, (Instr.makeSlice 44 (.int .i64 ((la : Int) + (lb : Int))) (.int .i64 ((la : Int) + (lb : Int)))).run Tryd.prog W = .ok (.slice (some ⟨W.heap.size, 0, none⟩) C C) (W.alloc (.cells (noughts C) 75)) := make_any _ _ C C (by omega) (by omega) (by omega) (by omega)
  have hrow := RowIs.made w w.heap.size C (Nat.le_refl _) (by omega)
  have hb0 : Below w.heap.size w (w.alloc (.cells (noughts C) 75)) := (Below.refl _ w).alloc (Nat.le_refl _) _
  go_enter Tryd.func111, Tryd.ntmps111
  go_wp2
  clear hmk
  go_loopg [20] la (fun gh v20 wx => ∃ (i : Nat) (od : List Nat), v20 = .int .i64 (i : Int) ∧ i + gh = la ∧ od.length = C ∧ Small od ∧ RowIs wx w.heap.size w.heap.size C od ∧ (∀ j, i + lb ≤ j → od.getD j 0 = 0) ∧ ev 4294967296 od = ev 4294967296 (da.take i) * k ∧ Below w.heap.size w wx)
  case atStart =>
    refine ⟨0, _, rfl, by omega, by simp, small_zeros _, hrow, fun j _ => ?_, by rw [ev_replicate]; simp [ev], hb0⟩
    rw [List.getD_eq_getElem?_getD, List.getElem?_replicate]
    split <;> rfl
  case round =>
    obtain ⟨G, rfl⟩ : ∃ G, G = gk := ⟨_, rfl⟩
    obtain ⟨i, od, rfl, hig, hod, hsm, hR, hz0, he, hB⟩ := hrel
    have Hod := Lib.hid hod
    have HSm := Lib.hid hsm
    have HZ := Lib.hid hz0
    have He := Lib.hid he
    clear hod hsm hz0 he
    by_cases hi : i < la
    · have hiI : (i : Int) < (la : Int) := by omega
      obtain ⟨ga, rfl, hga, hca⟩ := ra.2.1 i hi
      obtain ⟨x, hx⟩ : ∃ x, m / 4294967296 ^ i % 4294967296 = x := ⟨_, rfl⟩
      rw [hx] at hca
      have hx2 : x < 4294967296 := by rw [← hx]; exact Nat.mod_lt _ (by decide)
      have HX := Lib.hid ((HDA.out.2.2 i).trans hx)
      have hca2 := (hB.cell (p := ⟨ga, i, none⟩) hga).trans hca
      clear hx hca ra
      go_wp2_with fail
      go_loopg [8, 27] lb (fun gh v8 v27 wx => ∃ (j c : Nat) (od : List Nat), v8 = .int .u64 (c : Int) ∧ v27 = .int .i64 (j : Int) ∧ j + gh = lb ∧ c < 4294967296 ∧ od.length = C ∧ Small od ∧ RowIs wx w.heap.size w.heap.size C od ∧ (∀ j, i + lb ≤ j → od.getD j 0 = 0) ∧ ev 4294967296 od + 4294967296 ^ (i + j) * c = ev 4294967296 (da.take i) * k + x * ev 4294967296 (db.take j) * 4294967296 ^ i ∧ Below w.heap.size w wx)
      case atStart => exact ⟨0, 0, od, rfl, rfl, by omega, by omega, Hod.out, HSm.out, hR, HZ.out, by rw [He.out]; simp [ev], hB⟩
      case round =>
        obtain ⟨j, c, od1, rfl, rfl, hjg, hc, hod1, hsm1, hR1, hz1, he1, hB1⟩ := hrel
        have Hod1 := Lib.hid hod1
        have HSm1 := Lib.hid hsm1
        have HZ1 := Lib.hid hz1
        have He1 := Lib.hid he1
        clear hod1 hsm1 hz1 he1
        by_cases hj : j < lb
        · have hjI : (j : Int) < (lb : Int) := by omega
          obtain ⟨gb, rfl, hgb, hcb⟩ := rb.2.1 j hj
          obtain ⟨y, hy⟩ : ∃ y, k / 4294967296 ^ j % 4294967296 = y := ⟨_, rfl⟩
          rw [hy] at hcb
          have hy2 : y < 4294967296 := by rw [← hy]; exact Nat.mod_lt _ (by decide)
          have hyd := (HDB.out.2.2 j).trans hy
          have hcb2 := (hB1.cell (p := ⟨gb, j, none⟩) hgb).trans hcb
          have hpl : i + j < od1.length := by rw [Hod1.out]; omega
          obtain ⟨o, ho⟩ : ∃ o, od1[i + j] = o := ⟨_, rfl⟩
          have ho2 : o < 4294967296 := by rw [← ho]; exact HSm1.out _ (List.getElem_mem hpl)
          have hco := hR1.cell (i + j) hpl
          rw [ho] at hco
          have hfo := hR1.free (i + j)
          have hstep := tm_step od1 db i j x y o c _ k hpl hyd (by rw [getD_of hpl, ho]) He1.out
          obtain ⟨hT, hq⟩ := word_mul2 x y o c hx2 hy2 ho2 hc
          have hmul : (x : Int) * (y : Int) = ((x * y : Nat) : Int) := (Int.natCast_mul _ _).symm
          obtain ⟨P, hP⟩ : ∃ P, x * y = P := ⟨_, rfl⟩
          rw [hP] at hT hq hmul hstep
          obtain ⟨T, hTe⟩ : ∃ T, P + o + c = T := ⟨_, rfl⟩
          have hPle : P ≤ T := by omega
          have hadd : (P : Int) + (o : Int) + (c : Int) = (T : Int) := by omega
          have hPo : (P : Int) + (o : Int) ≤ (T : Int) := by omega
          rw [hTe] at hT hq hstep
          have hdi : (T : Int) / 4294967296 = ((T / 4294967296 : Nat) : Int) := by omega
          have hmi : (T : Int) % 4294967296 = ((T % 4294967296 : Nat) : Int) := by omega
          have hr := Nat.mod_lt T (show 0 < 4294967296 by decide)
          obtain ⟨q, hqe⟩ : ∃ q, T / 4294967296 = q := ⟨_, rfl⟩
          obtain ⟨r, hre⟩ : ∃ r, T % 4294967296 = r := ⟨_, rfl⟩
          rw [hqe] at hdi hq hstep
          rw [hre] at hmi hr hstep
          have HT := Lib.hid hstep
          have HPt := Lib.hid (hR1.put (i + j) r)
          have HBt := Lib.hid (hB1.setCell (p := ⟨w.heap.size, i + j, none⟩) (Nat.le_refl _) (.int .u32 (r : Int)))
          have HZt := Lib.hid (show ∀ j', i + lb ≤ j' → (od1.set (i + j) r).getD j' 0 = 0 from fun j' h => (getD_set_ne (by omega)).trans (HZ1.out j' h))
          have hsum : (i : Int) + (j : Int) = ((i + j : Nat) : Int) := by omega
          have hpC : i + j < C := by omega
          obtain ⟨p, hpe⟩ : ∃ p, i + j = p := ⟨_, rfl⟩
          rw [hpe] at hco hfo HPt HBt HZt hsum hpC HT
          have hpI : (p : Int) < (C : Int) := by omega
          have HPE := Lib.hid hpe
          clear hy hcb hyd ho hP hTe hqe hre hstep hR1 hB1 hpl hpe
          obtain ⟨gh, rfl⟩ : ∃ gh, gk = gh + 1 := ⟨gk - 1, by omega⟩
          go_wp2
          go_roundg gh
          case measure => omega
          case rel => exact ⟨j + 1, q, od1.set p r, rfl, by go_num, by omega, hq, by rw [List.length_set]; exact Hod1.out, small_set HSm1.out p r hr, HPt.out, HZt.out, HT.out, HBt.out⟩
        · obtain rfl : j = lb := by omega
          have hpl : i + j < od1.length := by rw [Hod1.out]; omega
          have hend := tm_end od1 da i j x c k hpl (HZ1.out _ (Nat.le_refl _)) HX.out (by
            have h := He1.out
            have e : db.take j = db := List.take_of_length_le (by rw [Hl.out.2]; exact Nat.le_refl _)
            rw [e, HDB.out.1] at h
            exact h)
          have hco := hR1.cell (i + j) hpl
          have hfo := hR1.free (i + j)
          obtain ⟨o, ho⟩ : ∃ o, od1[i + j] = o := ⟨_, rfl⟩
          rw [ho] at hco
          have HE := Lib.hid hend
          have HPt := Lib.hid (hR1.put (i + j) c)
          have HBt := Lib.hid (hB1.setCell (p := ⟨w.heap.size, i + j, none⟩) (Nat.le_refl _) (.int .u32 (c : Int)))
          have HZt := Lib.hid (show ∀ j', i + 1 + j ≤ j' → (od1.set (i + j) c).getD j' 0 = 0 from fun j' h => (getD_set_ne (by omega)).trans (HZ1.out j' (by omega)))
          have hsum : (i : Int) + (j : Int) = ((i + j : Nat) : Int) := by omega
          have hpC : i + j < C := by omega
          have hcI : (c : Int) < 4294967296 := by omega
          obtain ⟨p, hpe⟩ : ∃ p, i + j = p := ⟨_, rfl⟩
          rw [hpe] at hco hfo HPt HBt HZt hsum hpC HE
          have hpI : (p : Int) < (C : Int) := by omega
          clear ho hend hR1 hB1 hpl hpe
          obtain ⟨G2, rfl⟩ : ∃ G2, G = G2 + 1 := ⟨G - 1, by omega⟩
          go_wp2
          go_roundg G2
          case measure => omega
          case rel => exact ⟨i + 1, od1.set p c, by go_num, by omega, by rw [List.length_set]; exact Hod1.out, small_set HSm1.out p c hc, HPt.out, HZt.out, HE.out, HBt.out⟩
    · have he := He.out
      rw [List.take_of_length_le (by rw [Hl.out.1]; omega), HDA.out.1] at he
      have HV := Lib.hid he
      have hrow2 := hR.row
      have hcut := cut_any w.heap.size _ od wr hrow2 HSm.out (by rw [Hod.out]; omega)
      rw [Hod.out, he] at hcut
      clear he
      go_wp2_with (go_at_call 91; refine hcut.mono ?_; rintro e w2 ⟨⟨v', rfl, hnat⟩, rfl⟩; obtain ⟨ao', c1, rfl⟩ := hnat.slice)
      go_ret
      exact ⟨⟨_, rfl, hnat⟩, hB⟩
end Go.Proofs.YtmnibfdenmeepaaDoor
