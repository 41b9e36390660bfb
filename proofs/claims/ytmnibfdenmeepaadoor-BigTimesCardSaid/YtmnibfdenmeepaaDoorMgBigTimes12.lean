/- The texts RDivd Bases BasRead RBase RRead Bits BitsMath, one behind the other. -/
import Derived.Test.YtmnibfdenmeepaaDoorMgBigTimes11
import Derived.Laws.AppendOwnNone
/- divided of the reference. -/
namespace Go.Proofs.YtmnibfdenmeepaaDoor
open Go.RowKit Go.Shelf Big

theorem divd_step (M k : Nat) (hk : 0 < k) : M / k = (10 * (M / 10 % k) + M % 10) / k + 10 * (M / 10 / k) ∧ M % k = (10 * (M / 10 % k) + M % 10) % k ∧ (10 * (M / 10 % k) + M % 10) / k ≤ 9 := by
  have h1 := Nat.div_add_mod (M / 10) k
  have h2 : M = (10 * (M / 10 % k) + M % 10) + k * (10 * (M / 10 / k)) := by
    have h3 := Nat.div_add_mod M 10
    rw [Nat.mul_left_comm k 10]
    omega
  have h4 := Nat.mod_lt (M / 10) hk
  generalize M / 10 / k = Q at *
  generalize M / 10 % k = L at *
  generalize hd : M % 10 = d at *
  have hd10 : d < 10 := by rw [← hd]; exact Nat.mod_lt _ (by decide)
  refine ⟨?_, ?_, ?_⟩
  · rw [h2, Nat.add_mul_div_left _ _ hk]
  · rw [h2, Nat.add_mul_mod_self_left]
  · have h5 : (10 * L + d) / k < 10 := by
      rw [Nat.div_lt_iff_lt_mul hk]
      omega
    omega
theorem drop_set (od : List Nat) (i c : Nat) (h : i < od.length) : (od.set i c).drop i = c :: od.drop (i + 1) := by
  rw [List.drop_eq_getElem_cons (by rw [List.length_set]; exact h), List.getElem_set_self, List.drop_set_of_lt (by omega)]
/-- A literal of one element is the call's own. -/
theorem own_lit (w : World) (B : Nat) (x : Value) (e : TypeId) (hB : B ≤ w.heap.size) : (w.alloc (.cells #[x] e)).ownsRow B e 1 (.slice (some ⟨w.heap.size, 0, none⟩) 1 1) 1 [x] :=
  ⟨rfl, .inr ⟨w.heap.size, 1, #[x], rfl, hB, heap_alloc_new w _, Nat.le_refl _, by unfold maxLen; omega, rfl, rfl⟩⟩
theorem ev_cons (d : Nat) (l : List Nat) : ev 10 (d :: l) = d + 10 * ev 10 l := rfl

set_option maxRecDepth 100000 in
set_option maxHeartbeats 4000000 in
theorem rdivd_any (B1 B2 m k : Nat) (va vb : Value) (w : World) (ha : DecIs w B1 va m) (hb : DecIs w B2 vb k) (hk : 0 < k) (hla : (lims 10 m).length ≤ 1000000) (hlb : (lims 10 k).length ≤ 1000000) :
    Calls Tryd.prog 82 #[va, vb] w fun e w' => (∃ q r, e = .returned (.tuple #[q, r]) ∧ DecIs w' w.heap.size q (m / k) ∧ DecIs w' w.heap.size r (m % k)) ∧ Below w.heap.size w w' := by
  obtain ⟨i0, hi', hz0, hz1', hz2⟩ := info_parts Tryd.info3
  obtain ⟨ao, ca, rfl⟩ := ha.slice
  obtain ⟨bo, cb, rfl⟩ := hb.slice
  have HCa := Lib.hid (fun W (h : Below w.heap.size w W) i (hi : i < (lims 10 m).length) => show ∃ ga, ao = some ⟨ga, 0, none⟩ ∧ W.cell? ⟨ga, i, none⟩ = some (.int .i64 ((m / 10 ^ i % 10 : Nat) : Int)) from by
    have hrow := ha.kept h
    unfold DecIs at hrow
    rcases hrow.2 with ⟨e, hz⟩ | ⟨g, cap, cur, e, hg1, hg2, -⟩
    · omega
    · cases e
      refine ⟨g, rfl, ?_⟩
      rw [World.ownsRow.cellAt hrow i (by omega), List.getElem?_map, List.getElem?_eq_getElem hi, ← lims_getD ten_ge m i, List.getD_eq_getElem?_getD, List.getElem?_eq_getElem hi]
      rfl)
  have HBk := Lib.hid (fun W (h : Below w.heap.size w W) => hb.kept h)
  have hlen := (lims_len_le ten_ge m (lims 10 m).length).1 (Nat.le_refl _)
  have HM0 := Lib.hid (show m / 10 ^ (lims 10 m).length = 0 from Nat.div_eq_of_lt hlen)
  revert hla HCa HM0
  generalize (lims 10 m).length = la
  intro hla HCa HM0
  obtain ⟨lb, hlb'⟩ : ∃ lb, (lims 10 k).length = lb := ⟨_, rfl⟩
  rw [hlb'] at HBk hlb ⊢
  have HLB := Lib.hid hlb'
  clear ha hb hlen hlb'
  have hmk : ∀ W, (Instr.makeSlice 49 (.int .i64 (la : Int)) (.int .i64 (la : Int))).run Tryd.prog W = .ok (.slice (some ⟨W.heap.size, 0, none⟩) la la) (W.alloc (.cells (inoughts la) 3)) := imake_any _ _ la la rfl rfl (Nat.le_refl _) (by omega)
  have hrow := IRow.made w w.heap.size la (Nat.le_refl _) (by omega)
  have hb0 : Below w.heap.size w (w.alloc (.cells (inoughts la) 3)) := (Below.refl _ w).alloc (Nat.le_refl _) _
  go_enter Tryd.func82, Tryd.ntmps82
  go_wp2
  clear hmk
  go_loopg [7, 8] la (fun g v7 v8 wx => v8 = .int .i64 ((g : Int) - 1) ∧ g ≤ la ∧ ∃ od : List Nat, od.length = la ∧ Ten od ∧ IRow wx w.heap.size w.heap.size la od ∧ (∀ j, j < g → od.getD j 0 = 0) ∧ ev 10 (od.drop g) = m / 10 ^ g / k ∧ DecIs wx (w.heap.size + 1) v7 (m / 10 ^ g % k) ∧ Below w.heap.size w wx)
  case atStart =>
    refine ⟨rfl, Nat.le_refl _, _, by simp, ten_zeros _, hrow, ?_, ?_, ?_, hb0⟩
    · intro j _
      rw [List.getD_eq_getElem?_getD, List.getElem?_replicate]
      split <;> rfl
    · rw [HM0.out, List.drop_of_length_le (by simp)]
      simp [ev]
    · rw [HM0.out, Nat.zero_mod]
      unfold DecIs
      rw [lims_zero]
      exact World.ownsRow_nil _ _ _ _
  case round =>
    obtain ⟨rfl, hg, od, hod, hten, hR, hz0', hq, hd, hbx⟩ := hrel
    cases gk with
    | zero =>
      have hcut := trimmed_any w.heap.size _ od wr hR.row hten (by omega)
      rw [hod] at hcut
      rw [List.drop_zero, Nat.pow_zero, Nat.div_one] at hq
      rw [Nat.pow_zero, Nat.div_one] at hd
      rw [hq] at hcut
      have HCut := Lib.hid hcut
      have HD := Lib.hid (DecIs.mono hd (show w.heap.size ≤ w.heap.size + 1 by omega))
      have HB := Lib.hid hbx
      obtain ⟨a7, c7, rfl⟩ := hd.slice
      clear hcut hd hbx hR hq
      generalize (lims 10 (m % k)).length = l7 at HD ⊢
      go_wp2_with fail
      refine HCut.out.mono ?_
      rintro e w2 ⟨⟨v', rfl, hnat⟩, rfl⟩
      obtain ⟨ao', c1, rfl⟩ := hnat.slice
      go_wp2
      go_ret2
      exact ⟨⟨_, _, rfl, hnat, HD.out⟩, HB.out⟩
    | succ i =>
      have hiI : (i : Int) < (la : Int) := by omega
      have hi1 : ((i + 1 : Nat) : Int) - 1 = (i : Int) := by omega
      have hi0 : (0 : Int) ≤ (i : Int) := by omega
      obtain ⟨ga, rfl, hca⟩ := HCa.out wr hbx i (by omega)
      obtain ⟨e1, e2, e3⟩ := divd_step (m / 10 ^ i) k hk
      have e4 : m / 10 ^ i / 10 = m / 10 ^ (i + 1) := by rw [Nat.div_div_eq_div_mul, ← Nat.pow_succ]
      rw [e4] at e1 e2 e3
      obtain ⟨L, hL⟩ : ∃ L, m / 10 ^ (i + 1) % k = L := ⟨_, rfl⟩
      have hd10 : m / 10 ^ i % 10 < 10 := Nat.mod_lt _ (by decide)
      obtain ⟨d, hdd⟩ : ∃ d, m / 10 ^ i % 10 = d := ⟨_, rfl⟩
      rw [hdd] at hca hd10 e1 e2 e3
      rw [hL] at hd e1 e2 e3
      have hLk : L < k := by rw [← hL]; exact Nat.mod_lt _ hk
      obtain ⟨T, hT⟩ : ∃ T, 10 * L + d = T := ⟨_, rfl⟩
      rw [hT] at e1 e2 e3
      have htl : (lims 10 L).length ≤ lb := by
        rw [← HLB.out]
        exact (lims_len_le ten_ge _ _).2 (Nat.lt_trans hLk ((lims_len_le ten_ge _ _).1 (Nat.le_refl _)))
      have HTen := Lib.hid (show Ten (d :: lims 10 L) by
        intro y hy
        rcases List.mem_cons.1 hy with rfl | h
        · exact hd10
        · exact lims_lt ten_ge L y h)
      have HEv := Lib.hid (show ev 10 (d :: lims 10 L) = T by
        show d + 10 * ev 10 (lims 10 L) = T
        rw [ev_lims ten_ge]; omega)
      have HR := Lib.hid hR
      have HB := Lib.hid hbx
      have HOd := Lib.hid hod
      have HTn := Lib.hid hten
      have HZ := Lib.hid hz0'
      have HQ := Lib.hid hq
      have HE1 := Lib.hid e1
      have HE2 := Lib.hid e2
      have hzx := hbx.size
      have hz1 : w.heap.size + 1 ≤ wr.heap.size := by
        have := (World.ownsRow.lt hR.row w.heap.size rfl).2
        omega
      simp only [hi1]
      go_upto_region 6 with fail
      go_cut [7] from 19 to 26 (fun v7 wx => DecIs wx (w.heap.size + 1) v7 T ∧ Below wr.heap.size wr wx)
      case first =>
        have HTr := Lib.hid (fun (W : World) (v : Value) (h : W.ownsRow (w.heap.size + 1) 3 1 v (1 + (lims 10 L).length) ([.int .i64 (d : Int)] ++ (lims 10 L).map i64v)) => show Calls Tryd.prog 89 #[v] W (fun e w' => (∃ v', e = .returned v' ∧ DecIs W (w.heap.size + 1) v' T) ∧ W = w') from by
          have h2 := trimmed_any (w.heap.size + 1) v (d :: lims 10 L) W (by show W.ownsRow _ _ _ _ ((lims 10 L).length + 1) _; rw [Nat.add_comm (lims 10 L).length 1]; exact h) HTen.out (by rw [List.length_cons]; omega)
          rw [HEv.out] at h2
          exact h2)
        have hlit := own_lit wr (w.heap.size + 1) (.int .i64 (d : Int)) 3 hz1
        rcases hd.2 with ⟨rfl, hL0⟩ | ⟨g, cap, cur, rfl, hg1, hg2, hg3, -⟩
        · have hnil : lims 10 L = [] := List.eq_nil_of_length_eq_zero hL0
          rw [hnil] at HTr
          clear hd hbx hR hten hod hq e1 e2
          go_wp2_with (first
            | (at_builtin; refine wpList_append_own_none rfl _ _ 49 rfl (w.heap.size + 1) 3 i0 1 Tryd.underlying49 hi' (.slice (some ⟨wr.heap.size, 0, none⟩) 1 1) 1 _ rfl hlit rfl ?_)
            | (go_at_call 89; refine (HTr.out _ _ hlit).mono ?_; rintro e w2 ⟨⟨v', rfl, hv'⟩, rfl⟩))
          go_meet
          exact ⟨hv', (Below.refl _ _).alloc (Nat.le_refl _) _⟩
        · obtain ⟨l, hl⟩ : ∃ l, (lims 10 L).length = l := ⟨_, rfl⟩
          have hcells : ∀ j u, ((lims 10 L).map i64v)[j]? = some u → (wr.alloc (.cells #[.int .i64 (d : Int)] 3)).cell? ((⟨g, 0, none⟩ : Addr).add j) = some u := by
            intro j u hj
            have hj' : j < (lims 10 L).length := by
              rcases Nat.lt_or_ge j (lims 10 L).length with h | h
              · exact h
              · rw [List.getElem?_eq_none (by simpa using h)] at hj; cases hj
            have h3 := World.ownsRow.cellAt (hd.alloc (.cells #[.int .i64 (d : Int)] 3)) j (by omega)
            rw [hj] at h3
            have e : (⟨g, 0, none⟩ : Addr).add j = ⟨g, j, none⟩ := by cases j <;> simp [Addr.add]
            rw [e]
            simpa using h3
          have hone : ∀ u ∈ (lims 10 L).map i64v, u.oneCell' = true := by
            intro u hu
            obtain ⟨y, _, rfl⟩ := List.mem_map.1 hu
            rfl
          have hll : ((lims 10 L).map i64v).length = l * 1 := by rw [List.length_map]; omega
          rw [hl] at HTr htl ⊢
          clear hd hbx hR hten hod hq e1 e2 hl hg2
          generalize (lims 10 L).map i64v = news at HTr hcells hone hll
          go_wp2_with (first
            | (at_builtin; refine wpList_append_own _ rfl _ _ 49 rfl (w.heap.size + 1) 3 i0 (.int .i64 0) 1 8 Tryd.underlying49 hi' hz0 hz1' hz2 rfl (by decide) (.slice (some ⟨wr.heap.size, 0, none⟩) 1 1) 1 _ rfl hlit ⟨g, 0, none⟩ l cap news rfl hll hcells hone (by unfold maxLen; omega) (by omega) (by simp; omega) ?_; intro v' w2 hown2 hgrow _; obtain ⟨o9, c9, rfl⟩ := slice_of_own hown2)
            | (go_at_call 89; refine (HTr.out _ _ hown2).mono ?_; rintro e w3 ⟨⟨v', rfl, hv'⟩, rfl⟩))
          go_meet
          exact ⟨hv', ((Below.refl _ _).alloc (Nat.le_refl _) _).grown hgrow (by simp) (fun q hq => by cases hq; exact Nat.le_refl _)⟩
      case rest =>
        obtain ⟨hT7, hb7⟩ := hcut
        have hB1 := Below.behind HB.out hb7
        have hil : i < od.length := by omega
        have hset0 : od.set i 0 = od := by
          have h1 : od[i] = 0 := by rw [← getD_of hil]; exact HZ.out i (by omega)
          rw [← h1, List.set_getElem_self]
        have hR1 : IRow wc w.heap.size w.heap.size la (od.set i 0) := by
          rw [hset0]
          exact own_below HR.out hb7
        have hz7 := hb7.size
        have HMod := Lib.hid (show ∀ c, c ≤ T / k → (c < T / k → k ≤ T - c * k) ∧ (c = T / k → T - c * k = T % k ∧ ¬ k ≤ T - c * k) ∧ T - c * k ≤ T from fun c hc => by
          have h1 := Nat.div_add_mod T k
          have h2 := Nat.mod_lt T hk
          refine ⟨fun h => ?_, fun h => ?_, Nat.sub_le _ _⟩
          · have h3 : (c + 1) * k ≤ T / k * k := Nat.mul_le_mul_right _ h
            rw [Nat.mul_comm (T / k) k, Nat.add_mul] at h3
            omega
          · subst h
            rw [Nat.mul_comm (T / k) k]
            omega)
        have hTl : (lims 10 T).length ≤ 1000001 := by
          have h1 := (lims_len_le ten_ge k lb).1 (by rw [HLB.out]; exact Nat.le_refl _)
          have h2 : T < 10 ^ (lb + 1) := by rw [Nat.pow_succ]; omega
          have := (lims_len_le ten_ge T (lb + 1)).2 h2
          omega
        have HTL := Lib.hid (show ∀ x, x ≤ T → (lims 10 x).length ≤ 100000000 from fun x hx => by
          have h1 : (lims 10 x).length ≤ (lims 10 T).length := (lims_len_le ten_ge _ _).2 (Nat.lt_of_le_of_lt hx ((lims_len_le ten_ge _ _).1 (Nat.le_refl _)))
          omega)
        clear hd hbx hR hten hod hq e1 e2 hb7 hca hTl htl hz0' hset0
        go_wp2_with fail
        go_loopg [7] (T / k) (fun gh v7 wx => ∃ c, c + gh = T / k ∧ DecIs wx (w.heap.size + 1) v7 (T - c * k) ∧ IRow wx w.heap.size w.heap.size la (od.set i c) ∧ Below w.heap.size w wx)
        case atStart => exact ⟨0, by omega, by rw [Nat.zero_mul, Nat.sub_zero]; exact hT7, hR1, hB1⟩
        case round =>
          obtain ⟨c, hcg, hdc, hRc, hBc⟩ := hrel
          obtain ⟨f1, f2, f3⟩ := HMod.out c (by omega)
          obtain ⟨a7, c7, rfl⟩ := hdc.slice
          have HOrd := Lib.hid (order_any (w.heap.size + 1) B2 (T - c * k) k _ (.slice bo lb cb) _ hdc (HBk.out _ hBc) (HTL.out _ f3) (by rw [HLB.out]; omega))
          have HMin := Lib.hid (fun h => rminus_any (w.heap.size + 1) B2 (T - c * k) k _ (.slice bo lb cb) _ hdc (HBk.out _ hBc) h (HTL.out _ f3))
          have hog := ord_ge (m := T - c * k) (k := k)
          have HRc := Lib.hid hRc
          have HBc := Lib.hid hBc
          have HDc := Lib.hid hdc
          have hzc := hBc.size
          have hzr := (World.ownsRow.lt hRc.row w.heap.size rfl).2
          clear hRc hBc hdc
          generalize hl7 : (lims 10 (T - c * k)).length = l7 at HOrd HMin HDc ⊢
          clear hl7
          generalize ordI (T - c * k) k = o at HOrd hog
          by_cases hc : c < T / k
          · have hkl := f1 hc
            have ho : o ≥ 0 := by omega
            have HM2 := Lib.hid (HMin.out hkl)
            have HNX := Lib.hid (show T - c * k - k = T - (c + 1) * k by rw [Nat.add_mul]; omega)
            obtain ⟨gh, rfl⟩ : ∃ gh, gk = gh + 1 := ⟨gk - 1, by omega⟩
            have hco := HRc.out.cell i (by rw [List.length_set]; omega)
            rw [List.getElem_set_self] at hco
            have hc9 : c < 9 := by omega
            clear f1 f2 hog hkl
            go_wp2_with fail
            refine HOrd.out.mono ?_
            rintro e w2 ⟨rfl, rfl⟩
            go_wp2_with fail
            refine HM2.out.mono ?_
            rintro e w3 ⟨⟨v3, rfl, hn3⟩, hb3⟩
            have hR3 : IRow w3 w.heap.size w.heap.size la (od.set i c) := own_below HRc.out hb3
            have HB3 := Lib.hid (Below.behind HBc.out hb3)
            have hco3 := hR3.cell i (by rw [List.length_set]; omega)
            rw [List.getElem_set_self] at hco3
            have hfo3 := hR3.free i
            rw [HNX.out] at hn3
            obtain ⟨a8, c8, rfl⟩ := hn3.slice
            have HN3 := Lib.hid (DecIs.mono hn3 (show w.heap.size + 1 ≤ _ by omega))
            have HR3 := Lib.hid hR3
            clear hb3 hn3 hR3 hco
            generalize (lims 10 (T - (c + 1) * k)).length = l8 at HN3 ⊢
            go_wp2
            go_roundg gh
            case measure => omega
            case rel =>
              refine ⟨c + 1, by omega, HN3.out.apart (HN3.out.new (by omega)) _ _, ?_, HB3.out.setCell (p := ⟨w.heap.size, i, none⟩) (Nat.le_refl _) _⟩
              have h := HR3.out.put i (c + 1)
              rw [List.set_set] at h
              exact h
          · have hce : c = T / k := by omega
            obtain ⟨f4, f5⟩ := f2 hce
            have ho : ¬ o ≥ 0 := by omega
            rw [f4, ← HE2.out] at HDc
            have HEV := Lib.hid (show ev 10 ((od.set i c).drop i) = m / 10 ^ i / k by
              rw [drop_set od i c hil, HE1.out, ← HQ.out, hce]
              rfl)
            have HTS := Lib.hid (ten_set HTn.out i c (by omega))
            have HLS := Lib.hid (show (od.set i c).length = la by rw [List.length_set]; exact HOd.out)
            have HZS := Lib.hid (show ∀ j, j < i → (od.set i c).getD j 0 = 0 from fun j hj => by rw [getD_set_ne (by omega)]; exact HZ.out j (by omega))
            clear f1 f2 f4 f5 hog hce
            go_wp2_with fail
            refine HOrd.out.mono ?_
            rintro e w2 ⟨rfl, rfl⟩
            go_wp2
            go_roundg i
            case measure => omega
            case rel => exact ⟨by first | rfl | go_num, by omega, od.set i c, HLS.out, HTS.out, HRc.out, HZS.out, HEV.out, HDc.out, HBc.out⟩
end Go.Proofs.YtmnibfdenmeepaaDoor
/- Base and Read of the program, at every base. -/
namespace Go.Proofs.YtmnibfdenmeepaaDoor
open Go.RowKit Go.Shelf Big

def inB (b : Int) : Bool := decide (2 ≤ b) && decide (b ≤ 36)
/-- A number's text in a base. -/
def txtB (b : Nat) (z : Int) : List UInt8 := if z < 0 then 45 :: digs b z.natAbs else digs b z.natAbs
def baseS (l : List UInt8) (b : Int) : List UInt8 × Int :=
  match numOf l with
  | none => ([], 2)
  | some z => if inB b then (if tooL z.natAbs then ([], 4) else (txtB b.toNat z, 0)) else ([], 7)
def cutM : List UInt8 → Bool × List UInt8
  | 45 :: r => (true, r)
  | l => (false, l)
def readS (l : List UInt8) (b : Int) : List UInt8 × Int :=
  if inB b then (if okn b.toNat (cutM l).2 then told (sgI (cutM l).1 (rdn b.toNat (cutM l).2)) else ([], 2)) else ([], 7)
theorem inB_cases (b : Int) : (b < 2 ∧ inB b = false) ∨ (¬ b < 2 ∧ 36 < b ∧ inB b = false) ∨ (∃ k : Nat, b = k ∧ 2 ≤ k ∧ k ≤ 36 ∧ inB b = true ∧ b.toNat = k) := by
  unfold inB
  rcases (show b < 2 ∨ (¬ b < 2 ∧ 36 < b) ∨ (2 ≤ b ∧ b ≤ 36) by omega) with h | ⟨h, h2⟩ | ⟨h, h2⟩
  · exact .inl ⟨h, by rw [decide_eq_false (by omega)]; rfl⟩
  · exact .inr (.inl ⟨h, h2, by rw [decide_eq_false (show ¬ b ≤ 36 by omega), Bool.and_false]⟩)
  · exact .inr (.inr ⟨b.toNat, by omega, by omega, by omega, by rw [decide_eq_true h, decide_eq_true h2]; rfl, rfl⟩)
def k200 : Nat := 200
def k800 : Nat := 800
theorem p200 : 16 ^ k200 ≤ lim600 := by decide +kernel
theorem p200' : 36 ^ k200 ≤ lim600 := by decide +kernel
theorem p200b : 16 ^ k200 ≤ 2 ^ k800 := by decide +kernel
theorem num_200 {l : List UInt8} {z : Int} (h : numOf l = some z) (hl : l.length ≤ k200) : z.natAbs < 16 ^ k200 := by
  unfold numOf at h
  split at h
  · rename_i hok
    obtain ⟨h1, h2, h3⟩ := bas_len (sgnOf (strip l)).2
    have h4 := sgn_len (strip l)
    have h5 := strip_len l
    generalize (basOf (sgnOf (strip l)).2).2 = r at *
    generalize (basOf (sgnOf (strip l)).2).1 = b at *
    have hz := Option.some.inj h
    subst hz
    rw [sg_abs]
    unfold okn at hok
    simp only [Bool.and_eq_true, List.all_eq_true, decide_eq_true_eq] at hok
    have h6 := rdn_lt hok.2
    have h7 : b ^ r.length ≤ 16 ^ r.length := Nat.pow_le_pow_left h3 _
    have h8 : 16 ^ r.length ≤ 16 ^ k200 := Nat.pow_le_pow_right (by omega) (by omega)
    exact Nat.lt_of_lt_of_le h6 (Nat.le_trans h7 h8)
  · cases h
theorem tool_no {n : Nat} (h : n < lim600) : tooL n = false := decide_eq_false (Nat.not_le.2 h)
theorem lims_200 {n b : Nat} (hb : 2 ≤ b) (h : n < 16 ^ k200) : (lims b n).length ≤ 800 :=
  (lims_len_le hb n k800).2 (Nat.lt_of_lt_of_le h (Nat.le_trans p200b (Nat.pow_le_pow_left hb _)))

set_option maxRecDepth 100000 in
set_option maxHeartbeats 2000000 in
theorem Base_any (a : ByteArray) (b : Int) (w : World) (ha : a.size ≤ k200) :
    Calls Tryd.prog 44 #[.string a, .int .i64 b] w fun e w' => e = retS (baseS a.data.toList b) ∧ Below w.heap.size w w' := by
  have ha1 : a.size ≤ 1000 := Nat.le_trans ha (by decide)
  have HNum := Lib.hid (fun z (h : numOf a.data.toList = some z) => num_200 h (by rw [← Lib.size_eq]; exact ha))
  clear ha
  go_enter Tryd.func44, Tryd.ntmps44
  go_wp2_with fail
  refine (parse_any a w ha1).mono ?_
  rintro e w1 ⟨hp1, hb1⟩
  obtain ⟨s1, a1, n1, c1, g1, o1, t1, rfl, hf1⟩ := hp1.form
  have hz1 := hb1.size
  have HBE := Lib.hid (fun x => hb1.alloc hz1 x)
  rcases hf1 with ⟨rfl, z, hz, hs1, hg1, hn1⟩ | ⟨rfl, hz⟩
  case inr =>
    have HR := Lib.hid (show baseS a.data.toList b = ([], 2) by unfold baseS; rw [hz])
    clear hp1 hb1 hz
    go_wp2
    go_ret2
    exact ⟨by rw [HR.out]; rfl, HBE.out _⟩
  have hn200 := HNum.out z hz
  have htl : tooL z.natAbs = false := tool_no (Nat.lt_of_lt_of_le hn200 p200)
  rw [htl] at hg1
  have HN1 := Lib.hid (fun x => hn1.alloc x)
  have HS := Lib.hid hs1
  subst hg1
  rcases inB_cases b with ⟨hb, hi⟩ | ⟨hb, hb2, hi⟩ | ⟨k, rfl, hk1, hk2, hi, hkn⟩
  · have HR := Lib.hid (show baseS a.data.toList b = ([], 7) by unfold baseS; rw [hz]; simp only [hi]; rfl)
    clear hp1 hb1 hz hn1 hs1 hi htl hn200
    go_wp2
    go_ret2
    exact ⟨by rw [HR.out]; rfl, HBE.out _⟩
  · have HR := Lib.hid (show baseS a.data.toList b = ([], 7) by unfold baseS; rw [hz]; simp only [hi]; rfl)
    have hb3 : b > 36 := hb2
    clear hp1 hb1 hz hn1 hs1 hi htl hn200
    go_wp2
    go_ret2
    exact ⟨by rw [HR.out]; rfl, HBE.out _⟩
  · have HR := Lib.hid (show baseS a.data.toList (k : Int) = (txtB k z, 0) by unfold baseS; rw [hz]; simp only [hi, htl, hkn]; rfl)
    have hl1 := short_of htl
    have hNl := lims_200 hk1 hn200
    have HDg := Lib.hid (fun W (h : NatIs W w.heap.size (.slice a1 n1 c1) z.natAbs) => digits_any w.heap.size _ k z.natAbs W h hk1 hk2 hl1 (by omega))
    have hi1 : decide ((k : Int) < 2) = false := by rw [decide_eq_false_iff_not]; omega
    have hi2 : decide ((36 : Int) < (k : Int)) = false := by rw [decide_eq_false_iff_not]; omega
    have hi3 : decide (k < 2) = false := by rw [decide_eq_false_iff_not]; omega
    have hi4 : decide (36 < k) = false := by rw [decide_eq_false_iff_not]; omega
    have hsz : (digs k z.natAbs).length ≤ 801 := digs_len hNl
    have HSZ := Lib.hid (show (⟨(digs k z.natAbs).toArray⟩ : ByteArray).size ≤ 801 by show (digs k z.natAbs).toArray.size ≤ 801; rw [List.size_toArray]; exact hsz)
    have HTX := Lib.hid (show (⟨#[45]⟩ : ByteArray) ++ ⟨(digs k z.natAbs).toArray⟩ = ⟨(45 :: digs k z.natAbs).toArray⟩ by
      apply ByteArray.ext
      simp)
    clear hp1 hb1 hz hn1 hs1 hi htl hn200 hl1 hNl hsz
    by_cases hneg : z < 0
    · have HT := Lib.hid (show txtB k z = 45 :: digs k z.natAbs by unfold txtB; rw [if_pos hneg])
      rw [decide_eq_true hneg] at HS
      have hs1 := HS.out
      subst hs1
      clear hneg
      go_wp2_with fail
      refine (HDg.out _ (HN1.out _)).mono ?_
      rintro e w2 ⟨rfl, hb2⟩
      have HB2 := Lib.hid ((HBE.out (.cells #[.bool true, .slice a1 n1 c1, .bool false, .bool o1] 46)).trans (hb2.mono (by simp; omega)))
      have hq := HSZ.out
      have HTX2 := HTX
      clear hb2
      revert hq HTX2
      generalize (⟨(digs k z.natAbs).toArray⟩ : ByteArray) = D
      intro hq HTX2
      go_wp2
      go_ret2
      exact ⟨by rw [HR.out, HT.out]; show _ = Ending.returned (.tuple #[.string ⟨(45 :: digs k z.natAbs).toArray⟩, .int .i64 0]); rw [← HTX2.out]; rfl, HB2.out⟩
    · have HT := Lib.hid (show txtB k z = digs k z.natAbs by unfold txtB; rw [if_neg hneg])
      rw [decide_eq_false hneg] at HS
      have hs1 := HS.out
      subst hs1
      clear hneg
      go_wp2_with fail
      refine (HDg.out _ (HN1.out _)).mono ?_
      rintro e w2 ⟨rfl, hb2⟩
      have HB2 := Lib.hid ((HBE.out (.cells #[.bool false, .slice a1 n1 c1, .bool false, .bool o1] 46)).trans (hb2.mono (by simp; omega)))
      clear hb2
      go_wp2
      go_ret2
      exact ⟨by rw [HR.out, HT.out]; rfl, HB2.out⟩
end Go.Proofs.YtmnibfdenmeepaaDoor
/- Read of the program, at every base. -/
namespace Go.Proofs.YtmnibfdenmeepaaDoor
open Go.RowKit Go.Shelf Big

theorem cut_is (l : List UInt8) : Lib.trimPrefix l [45] = (cutM l).2 ∧ Lib.hasPrefix l [45] = (cutM l).1 := by
  cases l with
  | nil => exact ⟨rfl, rfl⟩
  | cons c r =>
    by_cases h : c = 45
    · subst h
      refine ⟨?_, ?_⟩
      · simp [Lib.trimPrefix, Lib.hasPrefix, cutM]
      · simp [Lib.hasPrefix, cutM]
    · have h1 : cutM (c :: r) = (false, c :: r) := by
        unfold cutM
        split
        · rename_i e
          exact absurd (List.cons.inj e).1 h
        · rfl
      rw [h1]
      have h2 : Lib.hasPrefix (c :: r) [45] = false := by
        show ((45 == c) && [].isPrefixOf r) = false
        have : (45 == c) = false := by rw [beq_eq_false_iff_ne]; exact fun e => h (Eq.symm e)
        rw [this]
        rfl
      refine ⟨?_, h2⟩
      unfold Lib.trimPrefix
      rw [h2]
      rfl
theorem cut_len (l : List UInt8) : (cutM l).2.length ≤ l.length := by
  unfold cutM
  split <;> simp
theorem rdn_200 {b : Nat} {l : List UInt8} (hb2 : b ≤ 36) (h : okn b l = true) (hl : l.length ≤ k200) : rdn b l < lim600 := by
  unfold okn at h
  simp only [Bool.and_eq_true, List.all_eq_true, decide_eq_true_eq] at h
  have h6 := rdn_lt h.2
  have h7 : b ^ l.length ≤ 36 ^ l.length := Nat.pow_le_pow_left hb2 _
  have h8 : 36 ^ l.length ≤ 36 ^ k200 := Nat.pow_le_pow_right (by omega) hl
  exact Nat.lt_of_lt_of_le h6 (Nat.le_trans h7 (Nat.le_trans h8 p200'))
theorem sgI_and (s : Bool) (n : Nat) : sgI (s && decide (0 < n)) n = sgI s n := by
  unfold sgI
  cases s <;> rcases Nat.eq_zero_or_pos n with h | h <;> simp [h]

set_option maxRecDepth 100000 in
set_option maxHeartbeats 2000000 in
theorem Read_gen (s : ByteArray) (b : Int) (w : World) (hs : s.size ≤ 1000) (hsm : ∀ k : Nat, k ≤ 36 → b = k → okn k (cutM s.data.toList).2 = true → rdn k (cutM s.data.toList).2 < lim600) :
    Calls Tryd.prog 46 #[.string s, .int .i64 b] w fun e w' => e = retS (readS s.data.toList b) ∧ Below w.heap.size w w' := by
  have hsl : s.data.toList.length ≤ 1000 := by rw [← Lib.size_eq]; exact hs
  rcases inB_cases b with ⟨hb, hi⟩ | ⟨hb, hb2, hi⟩ | ⟨k, rfl, hk1, hk2, hi, hkn⟩
  · have HR := Lib.hid (show readS s.data.toList b = ([], 7) by unfold readS; rw [if_neg (by rw [hi]; simp)])
    clear hi hsl hs hsm
    go_enter Tryd.func46, Tryd.ntmps46
    go_wp2
    go_ret2
    exact ⟨by rw [HR.out]; rfl, Below.refl _ _⟩
  · have HR := Lib.hid (show readS s.data.toList b = ([], 7) by unfold readS; rw [if_neg (by rw [hi]; simp)])
    have hb3 : b > 36 := hb2
    clear hi hsl hs hsm
    go_enter Tryd.func46, Tryd.ntmps46
    go_wp2
    go_ret2
    exact ⟨by rw [HR.out]; rfl, Below.refl _ _⟩
  · have hR : readS s.data.toList (k : Int) = if okn k (cutM s.data.toList).2 then told (sgI (cutM s.data.toList).1 (rdn k (cutM s.data.toList).2)) else ([], 2) := by
      unfold readS
      rw [if_pos hi, hkn]
    have hcp := fun W => Tryd.strings_CutPrefix s ⟨#[45]⟩ W
    have hci := cut_is s.data.toList
    have hc1 : Lib.trimPrefix s.data.toList (⟨#[45]⟩ : ByteArray).data.toList = (cutM s.data.toList).2 := hci.1
    have hc2 : Lib.hasPrefix s.data.toList (⟨#[45]⟩ : ByteArray).data.toList = (cutM s.data.toList).1 := hci.2
    rw [hc1, hc2] at hcp
    have hcl := cut_len s.data.toList
    obtain ⟨sg, hsg⟩ : ∃ sg, (cutM s.data.toList).1 = sg := ⟨_, rfl⟩
    obtain ⟨r, hr⟩ : ∃ r, (cutM s.data.toList).2 = r := ⟨_, rfl⟩
    rw [hsg, hr] at hR hcp
    rw [hr] at hcl
    have HR := Lib.hid hR
    have hrl : r.length ≤ 1000 := by omega
    have hof := fun W => ofDigits_any ⟨r.toArray⟩ k sg W (by show r.toArray.size ≤ 1000; rw [List.size_toArray]; exact hrl) hk1 hk2
    rw [hr] at hsm
    have HSm := Lib.hid (fun h : okn k r = true => hsm k hk2 rfl h)
    have HOF := Lib.hid (show ∀ W, Calls Tryd.prog 96 #[.string ⟨r.toArray⟩, .int .i64 (k : Int), .bool sg] W fun e w' => OfIs W.heap.size k sg r w' e ∧ Below W.heap.size W w' from hof)
    have HCP := Lib.hid hcp
    have hi1 : decide ((k : Int) < 2) = false := by rw [decide_eq_false_iff_not]; omega
    have hi2 : decide ((36 : Int) < (k : Int)) = false := by rw [decide_eq_false_iff_not]; omega
    have hi3 : decide (k < 2) = false := by rw [decide_eq_false_iff_not]; omega
    have hi4 : decide (36 < k) = false := by rw [decide_eq_false_iff_not]; omega
    clear hR hcp hci hc1 hc2 hcl hsg hr hof hi hsl hs hkn hrl hsm
    generalize (⟨r.toArray⟩ : ByteArray) = rb at HCP HOF
    go_enter Tryd.func46, Tryd.ntmps46
    go_wp2_with fail
    refine (HCP.out _).mono ?_
    rintro e w' ⟨rfl, rfl⟩
    go_wp2_with fail
    refine (HOF.out _).mono ?_
    rintro e w1 ⟨ho, hb1⟩
    have hz1 := hb1.size
    have HBE := Lib.hid (fun x => hb1.alloc hz1 x)
    rcases ho with ⟨h1, rfl⟩ | ⟨h1, v, rfl, hn⟩
    · have HRR := Lib.hid (show readS s.data.toList (k : Int) = ([], 2) by rw [HR.out, h1]; rfl)
      clear h1 hb1
      go_wp2
      go_ret2
      exact ⟨by rw [HRR.out]; rfl, HBE.out _⟩
    · have htl : tooL (rdn k r) = false := tool_no (HSm.out h1)
      have HRR := Lib.hid (show readS s.data.toList (k : Int) = told (sgI sg (rdn k r)) by rw [HR.out, h1]; rfl)
      obtain ⟨av, cv, rfl⟩ := hn.slice
      have HT := Lib.hid (fun W sb o (h : NatIs W w'.heap.size (.slice av (lims 4294967296 (rdn k r)).length cv) (rdn k r)) => text_any w'.heap.size (rdn k r) _ sb false o W h (short_of htl))
      have HN1 := Lib.hid (fun x => hn.alloc x)
      rw [htl]
      clear h1 hb1 hn htl
      revert HT HN1
      generalize (lims 4294967296 (rdn k r)).length = l
      intro HT HN1
      go_wp2_with fail
      refine (HT.out _ _ _ (HN1.out _)).mono ?_
      rintro e w2 ⟨ht, hb2⟩
      have htd := ht.told
      rw [sgI_and] at htd
      rw [htd]
      have HB2 := Lib.hid ((HBE.out (.cells #[.bool (sg && decide (0 < rdn k r)), .slice av l cv, .bool false, .bool (decide (rdn k r % 2 = 1))] 46)).trans (hb2.mono (by simp; omega)))
      clear ht htd hb2
      revert HRR
      generalize told (sgI sg (rdn k r)) = p
      intro HRR
      obtain ⟨pl, pc⟩ := p
      unfold retS
      go_wp2
      go_ret2
      exact ⟨by rw [HRR.out]; rfl, HB2.out⟩
theorem Read_any (s : ByteArray) (b : Int) (w : World) (hs : s.size ≤ k200) :
    Calls Tryd.prog 46 #[.string s, .int .i64 b] w fun e w' => e = retS (readS s.data.toList b) ∧ Below w.heap.size w w' :=
  Read_gen s b w (Nat.le_trans hs (by decide)) (fun k hk _ h => rdn_200 hk h (Nat.le_trans (cut_len _) (by rw [← Lib.size_eq]; exact hs)))
end Go.Proofs.YtmnibfdenmeepaaDoor
/- one and Base of the reference. -/
namespace Go.Proofs.YtmnibfdenmeepaaDoor
open Go.RowKit Go.Shelf Big

def oneC (ok : Bool) : Int := if ok then 0 else 2
/-- What one answers. -/
def OneRes (B : Nat) (l : List UInt8) (w' : World) (e : Ending) : Prop :=
  ∃ (s : Bool) (av : Option Addr) (n c : Nat), e = .returned (.tuple #[.agg #[.bool s, .slice av n c], .int .i64 (oneC (numOf l).isSome)]) ∧ ((numOf l).isSome = true → NP B l w' s (.slice av n c))
set_option maxRecDepth 100000 in
set_option maxHeartbeats 2000000 in
theorem rOne_any (a : ByteArray) (w : World) (ha : a.size ≤ 1000000000000) :
    Calls Tryd.prog 84 #[.string a] w fun e w' => OneRes w.heap.size a.data.toList w' e ∧ Below w.heap.size w w' := by
  go_enter Tryd.func84, Tryd.ntmps84
  go_wp2_with fail
  refine (rNumber_any a _ ha).mono ?_
  rintro e w1 ⟨hp1, hb1⟩
  obtain ⟨s1, a1, n1, c1, rfl, hn1⟩ := hp1.np
  have hz1 := hb1.size
  have hW : (w.alloc (.cells #[.bool false, .slice none 0 0] 51)).heap.size = w.heap.size + 1 := by simp
  have hX := (((Has.new w 51 #[.bool false, .slice none 0 0]).below hb1)).alloc (.cells #[.bool s1, .slice a1 n1 c1] 51)
  have hT := Has.new w1 51 #[.bool s1, .slice a1 n1 c1]
  have hB := (Below.behind ((Below.refl _ w).alloc (Nat.le_refl _) (.cells #[.bool false, .slice none 0 0] 51)) hb1).alloc (by omega) (.cells #[.bool s1, .slice a1 n1 c1] 51)
  have hn2 := (hn1.kept ((Below.refl _ w1).alloc (Nat.le_refl _) (.cells #[.bool s1, .slice a1 n1 c1] 51)))
  have HN2 := Lib.hid (hn2.mono (show w.heap.size + 1 ≤ _ by omega))
  have HB := Lib.hid hB
  have HX := Lib.hid hX
  obtain ⟨q0, q1, q2, q3⟩ := cells_two hX
  obtain ⟨t0, t1, -⟩ := cells_two hT
  clear hp1 hb1 hn1 hn2 hB hX hT
  cases h1 : (numOf a.data.toList).isSome with
  | true =>
    have H1 := Lib.hid h1
    clear h1
    go_wp2
    have hf := HX.out.put2 (.bool s1) (.slice a1 n1 c1)
    obtain ⟨x0, x1, -⟩ := cells_two hf
    exact bodyPost_ret (v := .tuple #[.agg #[.bool s1, .slice a1 n1 c1], .int .i64 0]) (by simp only [results, Tryd.results84, go_sem]; simp [go_sem, x0, x1]) rfl ⟨⟨s1, a1, n1, c1, by rw [H1.out]; rfl, fun _ => (HN2.out.two (Nat.lt_succ_self _) _ _).mono (Nat.le_succ _)⟩, Below.two HB.out (Nat.le_refl _) _ _⟩
  | false =>
    have H1 := Lib.hid h1
    clear h1
    go_wp2
    have hf := HX.out.put2 (.bool false) (.slice none 0 0)
    obtain ⟨x0, x1, -⟩ := cells_two hf
    exact bodyPost_ret (v := .tuple #[.agg #[.bool false, .slice none 0 0], .int .i64 2]) (by simp only [results, Tryd.results84, go_sem]; simp [go_sem, x0, x1]) rfl ⟨⟨false, none, 0, 0, by rw [H1.out]; rfl, fun h => by rw [H1.out] at h; cases h⟩, Below.two HB.out (Nat.le_refl _) _ _⟩

def letters : ByteArray := ⟨#[48, 49, 50, 51, 52, 53, 54, 55, 56, 57, 97, 98, 99, 100, 101, 102, 103, 104, 105, 106, 107, 108, 109, 110, 111, 112, 113, 114, 115, 116, 117, 118, 119, 120, 121, 122]⟩
theorem letter_of (d : Nat) (h : d < 36) : (letters.extract d (d + 1)).data.toList = [chr d] := by
  rw [Lib.extract_data]
  have : d + 1 - d = 1 := by omega
  rw [this]
  have hall : ∀ k : Fin 36, (letters.data.toList.drop k.1).take 1 = [chr k.1] := by decide
  exact hall ⟨d, h⟩

theorem digs_pos {b n : Nat} (h : n ≠ 0) : digs b n = ((lims b n).map chr).reverse := by
  unfold digs
  rw [if_neg h]
set_option maxRecDepth 100000 in
set_option maxHeartbeats 4000000 in
theorem rBase_any (a : ByteArray) (b : Int) (w : World) (ha : a.size ≤ k200) :
    Calls Tryd.prog 45 #[.string a, .int .i64 b] w fun e w' => e = retS (baseS a.data.toList b) ∧ Below w.heap.size w w' := by
  have HOne := Lib.hid (rOne_any a w (Nat.le_trans ha (by decide)))
  have hal : a.data.toList.length ≤ k200 := by rw [← Lib.size_eq]; exact ha
  have HNum := Lib.hid (fun z (h : numOf a.data.toList = some z) => num_200 h hal)
  have HNZ := Lib.hid (fun B W s v z (h : NP B a.data.toList W s v) (hz : numOf a.data.toList = some z) => (h.nz hz (Nat.le_trans hal (by decide))).1)
  clear ha hal
  go_enter Tryd.func45, Tryd.ntmps45
  go_wp2_with fail
  refine HOne.out.mono ?_
  rintro e w1 ⟨⟨s1, a1, n1, c1, rfl, hnp⟩, hb1⟩
  have hz1 := hb1.size
  have HB1 := Lib.hid (fun o => hb1.alloc hz1 o)
  cases hz : numOf a.data.toList with
  | none =>
    have HR := Lib.hid (show baseS a.data.toList b = ([], 2) by unfold baseS; rw [hz])
    clear hnp hb1 hz
    simp only [Option.isSome_none, oneC, Bool.false_eq_true, if_false]
    go_wp2
    go_ret2
    exact ⟨by rw [HR.out]; rfl, HB1.out _⟩
  | some z =>
    obtain ⟨rfl, hd⟩ := HNZ.out _ _ _ _ _ (hnp (by rw [hz]; rfl)) hz
    have hn200 := HNum.out z hz
    have htl : tooL z.natAbs = false := tool_no (Nat.lt_of_lt_of_le hn200 p200)
    simp only [Option.isSome_some, oneC, if_true]
    rcases inB_cases b with ⟨hb, hi⟩ | ⟨hb, hb2, hi⟩ | ⟨k, rfl, hk1, hk2, hi, hkn⟩
    · have HR := Lib.hid (show baseS a.data.toList b = ([], 7) by unfold baseS; rw [hz]; simp only [hi]; rfl)
      clear hnp hb1 hz hd hi htl hn200
      go_wp2
      go_ret2
      exact ⟨by rw [HR.out]; rfl, HB1.out _⟩
    · have HR := Lib.hid (show baseS a.data.toList b = ([], 7) by unfold baseS; rw [hz]; simp only [hi]; rfl)
      have hb3 : b > 36 := hb2
      clear hnp hb1 hz hd hi htl hn200
      go_wp2
      go_ret2
      exact ⟨by rw [HR.out]; rfl, HB1.out _⟩
    · have HR := Lib.hid (show baseS a.data.toList (k : Int) = (txtB k z, 0) by unfold baseS; rw [hz]; simp only [hi, htl, hkn]; rfl)
      have HLong := Lib.hid (fun W (hW : Below w1.heap.size w1 W) => rLong_any w.heap.size z.natAbs (decide (z < 0)) _ W (hd.kept hW))
      have HL10 := Lib.hid (show ∀ x, x ≤ z.natAbs → (lims 10 x).length ≤ 1000000 from fun x hx => Nat.le_trans (lims_200 ten_ge (Nat.lt_of_le_of_lt hx hn200)) (by decide))
      have HLk := Lib.hid (lims_200 hk1 hn200)
      have hi1 : decide ((k : Int) < 2) = false := by rw [decide_eq_false_iff_not]; omega
      have hi2 : decide ((36 : Int) < (k : Int)) = false := by rw [decide_eq_false_iff_not]; omega
      have hi3 : decide (k < 2) = false := by rw [decide_eq_false_iff_not]; omega
      have hi4 : decide (36 < k) = false := by rw [decide_eq_false_iff_not]; omega
      have hA0 : Below w1.heap.size w1 (w1.alloc (.cells #[.bool (decide (z < 0)), .slice a1 n1 c1] 51)) := (Below.refl _ _).alloc (Nat.le_refl _) _
      have hX := Has.new w1 51 #[.bool (decide (z < 0)), .slice a1 n1 c1]
      have hD := hd.kept hA0
      have hB := HB1.out (.cells #[.bool (decide (z < 0)), .slice a1 n1 c1] 51)
      rw [htl] at HLong
      have HA0 := Lib.hid hA0
      clear hnp hb1 hz hi htl hn200 hkn hd hA0
      obtain ⟨z0, hz0⟩ : ∃ z0, z.natAbs = z0 := ⟨_, rfl⟩
      obtain ⟨sg, hsg⟩ : ∃ sg, decide (z < 0) = sg := ⟨_, rfl⟩
      have HTX := Lib.hid (show txtB k z = if sg then 45 :: digs k z0 else digs k z0 by
        unfold txtB
        rw [← hsg, hz0]
        by_cases h : z < 0
        · rw [if_pos h, if_pos (decide_eq_true h)]
        · rw [if_neg h, if_neg (by rw [decide_eq_false h]; simp)])
      have HSG := Lib.hid (show z0 = 0 → sg = false from fun h => by rw [← hsg, decide_eq_false (by omega)])
      rw [hsg] at HLong HA0 hX hD hB ⊢
      rw [hz0] at HL10 HLk hD
      clear hz0 hsg
      go_wp2_with fail
      refine (HLong.out _ HA0.out).mono ?_
      rintro e w2 ⟨rfl, hb2⟩
      have hX2 := hX.below hb2
      have hD2 := hD.kept hb2
      have hB2 := Below.behind hB hb2
      obtain ⟨x0, x1, -⟩ := cells_two hX2
      have hz2 := hb2.size
      have hlt : w1.heap.size < w2.heap.size := hX2.lt
      clear hb2 hX hD hB
      obtain ⟨r1, hr1⟩ : ∃ r1, w1.heap.size = r1 := ⟨_, rfl⟩
      rw [hr1] at hX2 x0 x1 hlt ⊢
      go_wp2_with fail
      go_loopg [8, 9] z0 (fun g v8 v9 wx => ∃ (S : ByteArray) (ds : List Nat), v8 = .string S ∧ g ≤ z0 ∧ lims k z0 = ds ++ lims k g ∧ S.size = ds.length ∧ S.data.toList = (ds.map chr).reverse ∧ DecIs wx w.heap.size v9 g ∧ Has wx r1 51 #[.bool sg, .slice a1 n1 c1] ∧ Below w.heap.size w wx)
      case atStart => exact ⟨⟨#[]⟩, [], rfl, Nat.le_refl _, rfl, rfl, rfl, hD2, hX2, hB2⟩
      case round =>
        obtain ⟨S, ds, rfl, hg, hlm, hSs, hSd, hdn, hXx, hBx⟩ := hrel
        have HSd := Lib.hid hSd
        have HBx := Lib.hid hBx
        have HXx := Lib.hid hXx
        have hdl : ds.length ≤ 800 := by
          have := congrArg List.length hlm
          rw [List.length_append] at this
          have := HLk.out
          omega
        have hzx := hBx.size
        rcases Nat.eq_zero_or_pos gk with rfl | hpos
        · obtain ⟨a9, c9, rfl⟩ := hdn.slice
          rw [lims_zero, List.append_nil] at hlm
          have HLM := Lib.hid hlm
          have h0 : (lims 10 0).length = 0 := by rw [lims_zero]; rfl
          rw [h0]
          obtain ⟨y0, y1, -⟩ := cells_two hXx
          by_cases hz00 : z0 = 0
          · subst hz00
            have hds : ds = [] := by rw [← HLM.out, lims_zero]
            have hE : S.toList.isEmpty = true := (empty_iff S).2 (List.eq_nil_of_length_eq_zero (by rw [← Lib.size_eq, hSs, hds]; rfl))
            have HRR := Lib.hid (show txtB k z = [48] by
              rw [HTX.out, HSG.out rfl]
              rfl)
            clear hdn hXx hBx hlm hSd hds
            go_wp2
            go_ret2
            exact ⟨by rw [HR.out, HRR.out]; rfl, HBx.out⟩
          · have hds : ds ≠ [] := by
              intro h
              rw [h] at hlm
              exact hz00 ((lims_nil hk1).1 hlm)
            have hE : S.toList.isEmpty = false := by
              cases h : S.toList.isEmpty with
              | false => rfl
              | true =>
                exfalso
                have h1 := congrArg List.length ((empty_iff S).1 h)
                rw [← Lib.size_eq, hSs] at h1
                exact hds (List.eq_nil_of_length_eq_zero h1)
            have HDig := Lib.hid (show digs k z0 = S.data.toList by rw [digs_pos hz00, HLM.out, HSd.out])
            clear hdn hXx hBx hlm hSd hds
            cases sg with
            | true =>
              have HRR := Lib.hid (show txtB k z = 45 :: S.data.toList by rw [HTX.out, HDig.out]; rfl)
              have HCat := Lib.hid (show (⟨#[45]⟩ : ByteArray) ++ S = ⟨(45 :: S.data.toList).toArray⟩ by
                apply ByteArray.ext
                simp)
              go_wp2
              go_ret2
              exact ⟨by rw [HR.out, HRR.out]; show _ = Ending.returned (.tuple #[.string ⟨(45 :: S.data.toList).toArray⟩, .int .i64 0]); rw [← HCat.out]; rfl, HBx.out⟩
            | false =>
              have HRR := Lib.hid (show txtB k z = S.data.toList by rw [HTX.out, HDig.out]; rfl)
              go_wp2
              go_ret2
              exact ⟨by rw [HR.out, HRR.out]; rfl, HBx.out⟩
        · have hlp := lims_pos hk1 hpos
          have hposL : 0 < (lims 10 gk).length := by rcases dec_len (n := gk) with ⟨_, h⟩ | ⟨h, _⟩ <;> omega
          have HL1 := HL10.out gk hg
          obtain ⟨a9, c9, rfl⟩ := hdn.slice
          have HNat := Lib.hid (fun W => natOf_any k W (by omega))
          have hd1 : gk % k < k := Nat.mod_lt _ (by omega)
          have hg2 : gk / k < gk := Nat.div_lt_self hpos (by omega)
          have HLN := Lib.hid (show lims k z0 = (ds ++ [gk % k]) ++ lims k (gk / k) by rw [hlm, hlp, List.append_assoc]; rfl)
          have HDN := Lib.hid hdn
          obtain ⟨l9, hl9⟩ : ∃ l9, (lims 10 gk).length = l9 := ⟨_, rfl⟩
          rw [hl9] at HDN hposL HL1 ⊢
          have HL9 := Lib.hid hl9
          have hposI : (l9 : Int) > 0 := by omega
          clear hdn hXx hBx hlm hSd hlp hl9
          go_wp2_with fail
          refine (HNat.out _).mono ?_
          rintro e w3 ⟨⟨v3, rfl, hn3⟩, hb3⟩
          obtain ⟨a3, c3, rfl⟩ := hn3.slice
          have hd3 := HDN.out.kept hb3
          have HB3 := Lib.hid (Below.behind HBx.out hb3)
          have HX3 := Lib.hid (HXx.out.below hb3)
          have HDiv := Lib.hid (rdivd_any _ _ gk k _ _ w3 hd3 hn3 (by omega) (by rw [HL9.out]; omega) (Nat.le_trans ((lims_len_le ten_ge k 2).2 (by omega)) (by decide)))
          clear hn3 hd3 hb3
          generalize (lims 10 k).length = lk at HDiv ⊢
          go_wp2_with fail
          refine HDiv.out.mono ?_
          rintro e w4 ⟨⟨q, r, rfl, hq4, hr4⟩, hb4⟩
          obtain ⟨aq, cq, rfl⟩ := hq4.slice
          obtain ⟨ar, cr, rfl⟩ := hr4.slice
          have HB4 := Lib.hid (Below.behind HB3.out hb4)
          have HX4 := Lib.hid (HX3.out.below hb4)
          have hz3 := HB3.out.size
          have HQ4 := Lib.hid (DecIs.mono hq4 (show w.heap.size ≤ w3.heap.size by omega))
          have HD0 := Lib.hid (rdig_any _ (gk % k) _ 0 w4 hr4 (by omega))
          have HD1 := Lib.hid (rdig_any _ (gk % k) _ 1 w4 hr4 (by omega))
          clear hq4 hr4 hb4
          generalize (lims 10 (gk / k)).length = lq at HQ4 ⊢
          generalize (lims 10 (gk % k)).length = lr at HD0 HD1 ⊢
          obtain ⟨d, hd⟩ : ∃ d, gk % k = d := ⟨_, rfl⟩
          rw [hd] at hd1 HLN HD0 HD1
          clear hd
          have hd36 : d < 36 := by omega
          have HLet := Lib.hid (letter_of d hd36)
          rw [Nat.pow_zero, Nat.div_one] at HD0
          rw [Nat.pow_one] at HD1
          obtain ⟨d0, hd0⟩ : ∃ d0, d % 10 = d0 := ⟨_, rfl⟩
          obtain ⟨d1, hd1'⟩ : ∃ d1, d / 10 % 10 = d1 := ⟨_, rfl⟩
          have hsum : (d0 : Int) + 10 * (d1 : Int) = (d : Int) := by omega
          have hb0 : d0 < 10 := by omega
          have hb1 : d1 < 10 := by omega
          rw [hd0] at HD0
          rw [hd1'] at HD1
          clear hd0 hd1'
          have hSz : S.size ≤ 800 := by omega
          have hlet0 : (0 : Int) ≤ (d : Int) := by omega
          have hlet1 : (d : Int) + 1 ≤ 36 := by omega
          go_wp2_with fail
          refine HD0.out.mono ?_
          rintro e w5 ⟨rfl, rfl⟩
          go_wp2_with fail
          refine HD1.out.mono ?_
          rintro e w5 ⟨rfl, rfl⟩
          go_wp2
          go_roundg (gk / k)
          case measure => omega
          case rel =>
            refine ⟨_, ds ++ [d], rfl, by omega, HLN.out, ?_, ?_, HQ4.out, HX4.out, HB4.out⟩
            · rw [ByteArray.size_append, hSs, List.length_append, List.length_singleton]
              have h1 : (letters.extract d (d + 1)).size = 1 := by rw [Lib.size_eq, HLet.out]; rfl
              show (letters.extract d (d + 1)).size + ds.length = ds.length + 1
              omega
            · have h2 : (letters.extract d (d + 1) ++ S).data.toList = (letters.extract d (d + 1)).data.toList ++ S.data.toList := by simp
              show (letters.extract d (d + 1) ++ S).data.toList = _
              rw [h2, HLet.out, HSd.out, List.map_append, List.reverse_append]
              rfl
end Go.Proofs.YtmnibfdenmeepaaDoor
/- Read of the reference, at every base. -/
namespace Go.Proofs.YtmnibfdenmeepaaDoor
open Go.RowKit Go.Shelf Big

theorem cut_cases (S : ByteArray) : (S.toList.isEmpty = true ∧ cutM S.data.toList = (false, S.data.toList)) ∨
    (∃ h : 0 < S.size, S[0].toNat = 45 ∧ cutM S.data.toList = (true, (S.extract 1 S.size).data.toList)) ∨
    (∃ h : 0 < S.size, S[0].toNat ≠ 45 ∧ cutM S.data.toList = (false, S.data.toList)) := by
  by_cases hE : S.toList.isEmpty = true
  · refine .inl ⟨hE, ?_⟩
    rw [(empty_iff S).1 hE]; rfl
  · have hp := size_pos hE
    have hsp := head_split S hp
    by_cases h1 : S[0].toNat = 45
    · refine .inr (.inl ⟨hp, h1, ?_⟩)
      rw [one_more S hp]
      conv => lhs; rw [hsp, u8_of _ _ h1]
      rfl
    · refine .inr (.inr ⟨hp, h1, ?_⟩)
      have n1 := u8_ne _ 45 (by omega) h1
      rw [hsp]
      generalize S[0] = c at n1
      unfold cutM
      split
      · rename_i h; exact absurd (List.cons.inj h).1 n1
      · rfl

/-- What is read behind the sign. -/
theorem far_not {n : Nat} (h : n < lim600) : ¬ 10 ^ k1200 ≤ n := fun h2 => absurd (Nat.le_trans lim_far h2) (Nat.not_le.2 h)

set_option maxRecDepth 100000 in
set_option maxHeartbeats 4000000 in
theorem rRead_any (s : ByteArray) (b : Int) (w : World) (hs : s.size ≤ k200) :
    Calls Tryd.prog 47 #[.string s, .int .i64 b] w fun e w' => e = retS (readS s.data.toList b) ∧ Below w.heap.size w w' := by
  have hsz : s.size ≤ 200 := hs
  rcases inB_cases b with ⟨hb, hi⟩ | ⟨hb, hb2, hi⟩ | ⟨k, rfl, hk1, hk2, hi, hkn⟩
  · have HR := Lib.hid (show readS s.data.toList b = ([], 7) by unfold readS; rw [if_neg (by rw [hi]; simp)])
    clear hi hs
    go_enter Tryd.func47, Tryd.ntmps47
    go_wp2
    go_ret2
    exact ⟨by rw [HR.out]; rfl, Below.refl _ _⟩
  · have HR := Lib.hid (show readS s.data.toList b = ([], 7) by unfold readS; rw [if_neg (by rw [hi]; simp)])
    have hb3 : b > 36 := hb2
    clear hi hs
    go_enter Tryd.func47, Tryd.ntmps47
    go_wp2
    go_ret2
    exact ⟨by rw [HR.out]; rfl, Below.refl _ _⟩
  · have hR : readS s.data.toList (k : Int) = if okn k (cutM s.data.toList).2 then told (sgI (cutM s.data.toList).1 (rdn k (cutM s.data.toList).2)) else ([], 2) := by
      unfold readS
      rw [if_pos hi, hkn]
    have hi1 : decide ((k : Int) < 2) = false := by rw [decide_eq_false_iff_not]; omega
    have hi2 : decide ((36 : Int) < (k : Int)) = false := by rw [decide_eq_false_iff_not]; omega
    have hi3 : decide (k < 2) = false := by rw [decide_eq_false_iff_not]; omega
    have hi4 : decide (36 < k) = false := by rw [decide_eq_false_iff_not]; omega
    have HR := Lib.hid hR
    have H12 := Lib.hid (And.intro hk1 hk2)
    clear hR hi hkn hs
    go_enter Tryd.func47, Tryd.ntmps47
    go_upto_region 3 with fail
    go_cut [6] from 15 to 21 (fun v6 wx => w = wx ∧ ∃ t : Bool, v6 = .bool t ∧ ((t = false ∧ cutM s.data.toList = (false, s.data.toList)) ∨ (t = true ∧ ∃ (_h : 0 < s.size), cutM s.data.toList = (true, (s.extract 1 s.size).data.toList))))
    case first =>
      rcases cut_cases s with ⟨he, hc⟩ | ⟨hp, h45, hc⟩ | ⟨hp, h45, hc⟩
      · have HC := Lib.hid hc
        clear hc
        go_wp2
        go_meet
        exact ⟨rfl, false, rfl, .inl ⟨rfl, HC.out⟩⟩
      all_goals
        have hE' : s.toList.isEmpty = false := by
          cases h : s.toList.isEmpty with
          | false => rfl
          | true => have h1 := (empty_iff s).1 h; have h2 := Lib.size_eq s; rw [h1] at h2; have h3 : s.size = 0 := h2; omega
        have hpI : (0 : Int) < (s.size : Int) := by omega
        have HC := Lib.hid hc
        have HP := Lib.hid hp
        clear hc
      · have g1 : (s[0].toNat : Int) = 45 := by omega
        clear h45
        go_wp2
        go_meet
        exact ⟨rfl, true, by first | rfl | (simp only [Value.bool.injEq, beq_iff_eq]; exact g1), .inr ⟨rfl, HP.out, HC.out⟩⟩
      · have g1 : ((s[0].toNat : Int) == 45) = false := by simp; omega
        have n1 : ¬ (s[0].toNat : Int) = 45 := by omega
        clear h45
        go_wp2
        go_meet
        exact ⟨rfl, false, by first | rfl | (simp only [Value.bool.injEq, beq_eq_false_iff_ne]; exact n1), .inl ⟨rfl, HC.out⟩⟩
    case rest =>
      obtain ⟨rfl, t, rfl, hor⟩ := hcut
      have HOR := Lib.hid hor
      clear hor
      go_upto_if 22 with fail
      go_cut [0] from 22 to 24 (fun v0 wx => w = wx ∧ ∃ (X : ByteArray), v0 = .string X ∧ X.size ≤ k200 ∧ cutM s.data.toList = (t, X.data.toList))
      case first =>
        cases t with
        | false =>
          have HS := Lib.hid (show cutM s.data.toList = (false, s.data.toList) by
            rcases HOR.out with ⟨_, h⟩ | ⟨h, _⟩
            · exact h
            · cases h)
          go_wp2
          go_meet
          exact ⟨rfl, s, rfl, hsz, HS.out⟩
        | true =>
          obtain ⟨hp, hc⟩ : ∃ (_h : 0 < s.size), cutM s.data.toList = (true, (s.extract 1 s.size).data.toList) := by
            rcases HOR.out with ⟨h, _⟩ | ⟨_, h⟩
            · cases h
            · exact h
          have HS := Lib.hid hc
          have hpI1 : (1 : Int) ≤ (s.size : Int) := by omega
          clear hc
          go_wp2
          go_meet
          exact ⟨rfl, s.extract 1 s.size, rfl, by simp; unfold k200; omega, HS.out⟩
      case rest =>
        obtain ⟨rfl, X, rfl, hX, hc⟩ := hcut
        have hrr : readS s.data.toList (k : Int) = if okn k X.data.toList then told (sgI t (rdn k X.data.toList)) else ([], 2) := by rw [HR.out, hc]
        have HRR := Lib.hid hrr
        have HDG := Lib.hid (fun W => rdigits_any X k W (Nat.le_trans hX (by decide)) H12.out.1 H12.out.2)
        have HSm := Lib.hid (fun h : okn k X.data.toList = true => rdn_200 H12.out.2 h (by rw [← Lib.size_eq]; exact hX))
        clear hc hrr hX
        go_wp2_with fail
        refine (HDG.out _).mono ?_
        rintro e w1 ⟨⟨v, n, rfl, hd, hk⟩, hb1⟩
        obtain ⟨av, cv, rfl⟩ := hd.slice
        have HB1 := Lib.hid hb1
        have hz1 := hb1.size
        cases hok : okn k X.data.toList with
        | false =>
          have HR2 := Lib.hid (show readS s.data.toList (k : Int) = ([], 2) by rw [HRR.out, hok]; rfl)
          clear hd hk hok hb1
          go_wp2
          go_ret2
          exact ⟨by rw [HR2.out]; rfl, HB1.out⟩
        | true =>
          have hn : n = rdn k X.data.toList := by
            rcases hk hok with h | ⟨h1, h2⟩
            · exact h
            · exact absurd (Nat.le_trans h1 h2) (far_not (HSm.out hok))
          subst hn
          have HR2 := Lib.hid (show readS s.data.toList (k : Int) = told (sgI t (rdn k X.data.toList)) by rw [HRR.out, hok]; rfl)
          have HNum := Lib.hid (fun W => num_len (rdn k X.data.toList) cv av t W)
          have HTo := Lib.hid (fun W (hW : Below w1.heap.size w1 W) sb => rTold_none w.heap.size (rdn k X.data.toList) sb _ W (hd.kept hW))
          clear hd hk hok hb1
          revert HNum HTo
          generalize (lims 10 (rdn k X.data.toList)).length = l
          intro HNum HTo
          go_wp2_with fail
          refine (HNum.out _).mono ?_
          rintro e w2 ⟨rfl, hb2⟩
          have HB2 := Lib.hid hb2
          have HT2 := Lib.hid (HTo.out w2 hb2 (t && decide (0 < rdn k X.data.toList)))
          rw [toldS_sg, sgI_and] at HT2
          have HB3 := Lib.hid (Below.behind HB1.out hb2)
          clear hb2
          revert HR2 HT2
          generalize told (sgI t (rdn k X.data.toList)) = p
          obtain ⟨pl, pc⟩ := p
          unfold retS
          intro HR2 HT2
          go_wp2_with fail
          refine HT2.out.mono ?_
          rintro e w3 ⟨rfl, hb3⟩
          have HB4 := Lib.hid (Below.behind HB3.out hb3)
          clear hb3
          go_wp2
          go_ret2
          exact ⟨by rw [HR2.out]; rfl, HB4.out⟩
end Go.Proofs.YtmnibfdenmeepaaDoor
/- not of numbers of the program; Not, Neg. -/
namespace Go.Proofs.YtmnibfdenmeepaaDoor
open Go.RowKit Go.Shelf Big

theorem nat_one (w : World) (B : Nat) (hB : B ≤ w.heap.size) : NatIs (w.alloc (.cells #[.int .u32 1] 75)) B (.slice (some ⟨w.heap.size, 0, none⟩) 1 1) 1 := by
  unfold NatIs
  rw [lims_one (by omega) (by omega)]
  exact own_lit w B (.int .u32 1) 75 hB
set_option maxRecDepth 100000 in
set_option maxHeartbeats 2000000 in
theorem numNot_any (B m : Nat) (va : Value) (s l o : Bool) (w : World) (ha : NatIs w B va m) (hla : (lims 4294967296 m).length ≤ 100000) :
    Calls Tryd.prog 86 #[.agg #[.bool s, va, .bool l, .bool o]] w fun e w' => (∃ r n, NumIs w.heap.size r n w' e ∧ sgI r n = -(sgI s m) - 1) ∧ Below w.heap.size w w' := by
  obtain ⟨W2, hW2⟩ : ∃ W2, ((w.alloc (.cells #[.bool s, va, .bool l, .bool o] 46)).alloc (.cells #[.bool false, .slice none 0 0, .bool false, .bool false] 46)).alloc (.cells #[.int .u32 1] 75) = W2 := ⟨_, rfl⟩
  have hz2 : W2.heap.size = w.heap.size + 3 := by rw [← hW2]; simp
  have hA2 : NatIs W2 B va m := by rw [← hW2]; exact ((ha.alloc _).alloc _).alloc _
  have h12 : NatIs W2 w.heap.size (.slice (some ⟨w.heap.size + 2, 0, none⟩) 1 1) 1 := by
    have h := nat_one ((w.alloc (.cells #[.bool s, va, .bool l, .bool o] 46)).alloc (.cells #[.bool false, .slice none 0 0, .bool false, .bool false] 46)) w.heap.size (by simp; omega)
    rw [hW2] at h
    simpa using h
  have hY2 : Has W2 (w.heap.size + 1) 46 #[.bool false, .slice none 0 0, .bool false, .bool false] := by rw [← hW2]; exact (Has.new' (n := w.heap.size + 1) (by simp) _ _).alloc _
  have hB2 : Below w.heap.size w W2 := by rw [← hW2]; exact (((Below.refl _ w).alloc (Nat.le_refl _) _).alloc (by simp) _).alloc (by simp; omega) _
  have HPL := Lib.hid (numPlus_any B w.heap.size m 1 va _ s false l o false false W2 hA2 h12 hla (by rw [lims_one (by omega) (by omega)]; simp))
  have HY := Lib.hid hY2
  have HB := Lib.hid hB2
  obtain ⟨av, ca, rfl⟩ := ha.slice
  generalize (lims 4294967296 m).length = lv at HPL hW2 ⊢
  clear ha hA2 h12 hY2 hB2 hla
  go_enter Tryd.func86, Tryd.ntmps86
  go_wp2_with fail
  refine HPL.out.mono ?_
  rintro e w3 ⟨⟨r, n, ⟨v, rfl, hn⟩, hsg⟩, hb3⟩
  have hz3 := hb3.size
  have HSG := Lib.hid hsg
  have hNg := neg_any _ n v r false false w3 hn
  obtain ⟨v9, c9, rfl⟩ := hn.slice
  have HNg := Lib.hid hNg
  have HB3 := Lib.hid (HB.out.trans (hb3.mono (show w.heap.size ≤ W2.heap.size by omega)))
  have HY3 := Lib.hid (HY.out.below hb3)
  clear hn hsg hb3 hNg
  generalize (lims 4294967296 n).length = ln at HNg ⊢
  go_wp2_with fail
  refine HNg.out.mono ?_
  rintro e w4 ⟨⟨v4, rfl, hn4⟩, hb4⟩
  obtain ⟨v8, c8, rfl⟩ := hn4.slice
  obtain ⟨q0, q1, q2, q3, q4, q5, q6, q7⟩ := (HY3.out.below hb4).four
  have HB4 := Lib.hid (Below.behind HB3.out hb4)
  have hzz : (lims 4294967296 1).length = 1 := by rw [lims_one (by omega) (by omega)]; rfl
  clear hb4
  go_wp2
  refine bodyPost_ret (v := .agg #[.bool (!r), .slice v8 _ c8, .bool false, .bool false]) (by simp [results, Tryd.results86, go_sem, World.cell?_setCell_same', q0, q1, q2, q3]) rfl ⟨⟨!r, n, ⟨_, rfl, NatIs.mono (hn4.apart4 (hn4.new (by omega)) _ _ _ _) (by omega)⟩, ?_⟩, Below.four HB4.out (by omega) _ _ _ _⟩
  have h1 := HSG.out
  unfold sgI at h1 ⊢
  cases r <;> cases s <;> simp at h1 ⊢ <;> omega
theorem does_not : Does1 86 (fun x => -x - 1) := ⟨enters_of Tryd.func86 (by kernel_rfl) rfl, fun B m va s o w ha hl => (numNot_any B m va s false o w ha hl).mono fun e w' ⟨⟨r, n, ⟨v, he, hn⟩, hsg⟩, hb⟩ => ⟨⟨r, n, v, false, w.heap.size, he, hn, hsg⟩, hb⟩⟩
theorem does_neg : Does1 83 (fun x => -x) := ⟨enters_of Tryd.func83 (by kernel_rfl) rfl, fun B m va s o w ha _ => (neg_any B m va s false o w ha).mono fun e w' ⟨⟨v, he, hn⟩, hb⟩ => ⟨⟨!s, m, v, false, B, he, hn, by unfold sgI; cases s <;> simp⟩, hb⟩⟩
theorem tame_neg : Tame1 (fun x => -x) := fun x h => by
  rw [Int.natAbs_neg]
  exact short_of h
theorem tame_not : Tame1 (fun x => -x - 1) := fun x h => by
  have h1 := lims_of_tool h
  have h2 : (-x - 1).natAbs ≤ x.natAbs + 1 := by omega
  have h3 : (1 : Nat) < 2 ^ k2008 := by
    have : 2 ^ 1 ≤ 2 ^ k2008 := Nat.pow_le_pow_right (by omega) (by unfold k2008; omega)
    omega
  exact short_pow (Nat.lt_of_le_of_lt h2 (sum_pow h1 h3))
theorem Not_any (a : ByteArray) (w : World) (ha : a.size ≤ 1000) :
    Calls Tryd.prog 34 #[.string a] w fun e w' => e = retS (oneS (fun x => -x - 1) a.data.toList) ∧ Below w.heap.size w w' := by
  have ht := one_any _ _ does_not tame_not a w ha
  generalize oneS (fun x => -x - 1) a.data.toList = p at ht ⊢
  obtain ⟨l, c⟩ := p
  unfold retS at ht ⊢
  go_enter Tryd.func34, Tryd.ntmps34
  go_wp2_with (go_at_call 53; refine ht.mono ?_; rintro e w1 ⟨rfl, hb1⟩)
  go_ret2
  exact ⟨rfl, hb1⟩
theorem Neg_any (a : ByteArray) (w : World) (ha : a.size ≤ 1000) :
    Calls Tryd.prog 30 #[.string a] w fun e w' => e = retS (oneS (fun x => -x) a.data.toList) ∧ Below w.heap.size w w' := by
  have ht := one_any _ _ does_neg tame_neg a w ha
  generalize oneS (fun x => -x) a.data.toList = p at ht ⊢
  obtain ⟨l, c⟩ := p
  unfold retS at ht ⊢
  go_enter Tryd.func30, Tryd.ntmps30
  go_wp2_with (go_at_call 53; refine ht.mono ?_; rintro e w1 ⟨rfl, hb1⟩)
  go_ret2
  exact ⟨rfl, hb1⟩
end Go.Proofs.YtmnibfdenmeepaaDoor
/- Words of two's complement: plain mathematics. -/
namespace Go.Proofs.YtmnibfdenmeepaaDoor
open Go.RowKit Go.Shelf Big

/-- n words of a number. -/
def pad (m n : Nat) : List Nat := lims 4294967296 m ++ List.replicate (n - (lims 4294967296 m).length) 0
def compl (d : Nat) : Nat := 4294967295 - d
/-- n words of z in two's complement. -/
def tw (z : Int) (n : Nat) : List Nat := if z < 0 then (pad (z.natAbs - 1) n).map compl else pad z.natAbs n
/-- The highest bit of words. -/
def top (ds : List Nat) : Bool := match ds.getLast? with | some d => decide (2147483648 ≤ d) | none => false
/-- The number that words are in two's complement. -/
def val (ds : List Nat) : Int := if top ds then (ev 4294967296 ds : Int) - (4294967296 ^ ds.length : Nat) else (ev 4294967296 ds : Int)
theorem pad_len {m n : Nat} (h : (lims 4294967296 m).length ≤ n) : (pad m n).length = n := by
  unfold pad
  rw [List.length_append, List.length_replicate]
  omega
theorem pad_small (m n : Nat) : Small (pad m n) := by
  intro d hd
  unfold pad at hd
  rcases List.mem_append.1 hd with h | h
  · exact lims_lt w32_ge m d h
  · rw [(List.mem_replicate.1 h).2]; decide
theorem pad_ev (m n : Nat) : ev 4294967296 (pad m n) = m := by
  unfold pad
  rw [ev_append, ev_replicate, Nat.mul_zero, Nat.add_zero, ev_lims w32_ge]
theorem pad_top {m n : Nat} (h : (lims 4294967296 m).length < n) : (pad m n).getLast? = some 0 := by
  unfold pad
  obtain ⟨k, hk⟩ : ∃ k, n - (lims 4294967296 m).length = k + 1 := ⟨n - (lims 4294967296 m).length - 1, by omega⟩
  rw [hk, List.replicate_succ', ← List.append_assoc, List.getLast?_append]
  rfl
theorem compl_small {ds : List Nat} (_h : Small ds) : Small (ds.map compl) := by
  intro d hd
  obtain ⟨x, hx, rfl⟩ := List.mem_map.1 hd
  unfold compl
  omega
theorem compl_ev {ds : List Nat} (h : Small ds) : ev 4294967296 (ds.map compl) + ev 4294967296 ds + 1 = 4294967296 ^ ds.length := by
  induction ds with
  | nil => rfl
  | cons d l ih =>
    have h1 := ih (fun x hx => h x (List.mem_cons_of_mem _ hx))
    have h2 := h d (List.mem_cons_self ..)
    rw [List.map_cons, Big.ev_cons, Big.ev_cons, List.length_cons, Nat.pow_succ]
    have hc : compl d = 4294967295 - d := rfl
    rw [hc]
    omega
theorem compl_top {ds : List Nat} (h : Small ds) (hne : ds ≠ []) : top (ds.map compl) = !top ds := by
  unfold top
  rw [List.getLast?_map]
  rw [List.getLast?_eq_some_getLast hne]
  have h1 := h _ (List.getLast_mem hne)
  simp only [Option.map_some]
  unfold compl
  by_cases h2 : 2147483648 ≤ ds.getLast hne
  · rw [decide_eq_true h2, decide_eq_false (by omega)]; rfl
  · rw [decide_eq_false h2, decide_eq_true (by omega)]; rfl
theorem lims_pred {m : Nat} : (lims 4294967296 (m - 1)).length ≤ (lims 4294967296 m).length :=
  (lims_len_le w32_ge _ _).2 (Nat.lt_of_le_of_lt (Nat.sub_le m 1) ((lims_len_le w32_ge m _).1 (Nat.le_refl _)))
theorem tw_len {z : Int} {n : Nat} (h : (lims 4294967296 z.natAbs).length < n) : (tw z n).length = n := by
  have := lims_pred (m := z.natAbs)
  unfold tw
  split
  · rw [List.length_map, pad_len (by omega)]
  · exact pad_len (by omega)
theorem tw_small (z : Int) (n : Nat) : Small (tw z n) := by
  unfold tw
  split
  · exact compl_small (pad_small _ _)
  · exact pad_small _ _
theorem tw_val {z : Int} {n : Nat} (h : (lims 4294967296 z.natAbs).length < n) : val (tw z n) = z := by
  have h1 := lims_pred (m := z.natAbs)
  unfold tw
  split
  · rename_i hz
    have hne : pad (z.natAbs - 1) n ≠ [] := by
      intro e
      have := pad_len (m := z.natAbs - 1) (n := n) (by omega)
      rw [e] at this
      have h0 : (0 : Nat) = n := this
      omega
    have h2 : top ((pad (z.natAbs - 1) n).map compl) = true := by
      rw [compl_top (pad_small _ _) hne]
      unfold top
      rw [pad_top (by omega)]
      rfl
    have h3 := compl_ev (pad_small (z.natAbs - 1) n)
    rw [pad_ev] at h3
    unfold val
    rw [h2, List.length_map]
    simp only [if_true]
    generalize 4294967296 ^ (pad (z.natAbs - 1) n).length = P at h3 ⊢
    generalize ev 4294967296 ((pad (z.natAbs - 1) n).map compl) = E at h3 ⊢
    omega
  · rename_i hz
    have h2 : top (pad z.natAbs n) = false := by
      unfold top
      rw [pad_top (by omega)]
      rfl
    unfold val
    rw [h2, pad_ev]
    simp only [Bool.false_eq_true, if_false]
    omega
theorem val_lt {ds : List Nat} (h : Small ds) : (val ds).natAbs ≤ 4294967296 ^ ds.length := by
  have h1 := ev_lt h
  unfold val
  split <;> omega
/-- Words put together, one by one. -/
def zw (g : Nat → Nat → Nat) (a b : List Nat) : List Nat := List.zipWith g a b
theorem zw_len (g : Nat → Nat → Nat) {a b : List Nat} (h : a.length = b.length) : (zw g a b).length = a.length := by
  unfold zw
  rw [List.length_zipWith, ← h, Nat.min_self]
theorem zw_small {g : Nat → Nat → Nat} (hg : ∀ x y, x < 4294967296 → y < 4294967296 → g x y < 4294967296) {a b : List Nat} (ha : Small a) (hb : Small b) : Small (zw g a b) := by
  intro d hd
  unfold zw at hd
  rw [List.mem_iff_getElem] at hd
  obtain ⟨i, hi, rfl⟩ := hd
  rw [List.length_zipWith] at hi
  rw [List.getElem_zipWith]
  exact hg _ _ (ha _ (List.getElem_mem _)) (hb _ (List.getElem_mem _))
theorem bits_ofInt (x : Nat) (h : x < 4294967296) : (BitVec.ofInt 32 (x : Int)).toNat = x := by
  rw [BitVec.toNat_ofInt]
  omega
theorem bits_and (x y : Nat) (hx : x < 4294967296) (hy : y < 4294967296) : bits .and .u32 (x : Int) (y : Int) = ((x &&& y : Nat) : Int) := by
  have h : bits .and .u32 (x : Int) (y : Int) = ((BitVec.ofInt 32 (x : Int) &&& BitVec.ofInt 32 (y : Int)).toNat : Int) := wrap_bv _
  rw [h, BitVec.toNat_and, bits_ofInt x hx, bits_ofInt y hy]
theorem bits_or (x y : Nat) (hx : x < 4294967296) (hy : y < 4294967296) : bits .or .u32 (x : Int) (y : Int) = ((x ||| y : Nat) : Int) := by
  have h : bits .or .u32 (x : Int) (y : Int) = ((BitVec.ofInt 32 (x : Int) ||| BitVec.ofInt 32 (y : Int)).toNat : Int) := wrap_bv _
  rw [h, BitVec.toNat_or, bits_ofInt x hx, bits_ofInt y hy]
theorem bits_xor (x y : Nat) (hx : x < 4294967296) (hy : y < 4294967296) : bits .xor .u32 (x : Int) (y : Int) = ((x ^^^ y : Nat) : Int) := by
  have h : bits .xor .u32 (x : Int) (y : Int) = ((BitVec.ofInt 32 (x : Int) ^^^ BitVec.ofInt 32 (y : Int)).toNat : Int) := wrap_bv _
  rw [h, BitVec.toNat_xor, bits_ofInt x hx, bits_ofInt y hy]
theorem bits_compl (d : Nat) (h : d < 4294967296) : bits .xor .u32 IntKind.u32.max (d : Int) = (compl d : Int) := by
  rw [max_u32]
  have h1 : bits .xor .u32 ((4294967295 : Nat) : Int) (d : Int) = ((BitVec.ofInt 32 ((4294967295 : Nat) : Int) ^^^ BitVec.ofInt 32 (d : Int)).toNat : Int) := wrap_bv _
  have h2 : BitVec.ofInt 32 ((4294967295 : Nat) : Int) = BitVec.allOnes 32 := by decide
  rw [h1, h2, BitVec.allOnes_xor, BitVec.toNat_not, bits_ofInt d h]
  rfl
theorem bit_sums : ∀ n x y : Nat, x < 2 ^ n → y < 2 ^ n → (x &&& y) + (x ||| y) = x + y ∧ (x ^^^ y) + 2 * (x &&& y) = x + y := by
  intro n
  induction n with
  | zero =>
    intro x y hx hy
    have e1 : x = 0 := by simpa using hx
    have e2 : y = 0 := by simpa using hy
    subst e1 e2
    decide
  | succ n ih =>
    intro x y hx hy
    rw [Nat.pow_succ] at hx hy
    obtain ⟨h1, h2⟩ := ih (x / 2) (y / 2) (by omega) (by omega)
    have a1 := Nat.and_div_two_pow (a := x) (b := y) (n := 1)
    have o1 := Nat.or_div_two_pow (a := x) (b := y) (n := 1)
    have x1 := Nat.xor_div_two_pow (a := x) (b := y) (n := 1)
    have a2 := Nat.and_mod_two_pow (a := x) (b := y) (n := 1)
    have o2 := Nat.or_mod_two_pow (a := x) (b := y) (n := 1)
    have x2 := Nat.xor_mod_two_pow (a := x) (b := y) (n := 1)
    rw [Nat.pow_one] at a1 o1 x1 a2 o2 x2
    have d1 := Nat.div_add_mod (x &&& y) 2
    have d2 := Nat.div_add_mod (x ||| y) 2
    have d3 := Nat.div_add_mod (x ^^^ y) 2
    have d4 := Nat.div_add_mod x 2
    have d5 := Nat.div_add_mod y 2
    have hm : ((x % 2 &&& y % 2) + (x % 2 ||| y % 2) = x % 2 + y % 2) ∧ ((x % 2 ^^^ y % 2) + 2 * (x % 2 &&& y % 2) = x % 2 + y % 2) := by
      rcases Nat.mod_two_eq_zero_or_one x with e | e <;> rcases Nat.mod_two_eq_zero_or_one y with f | f <;> rw [e, f] <;> decide
    rw [← a2, ← o2, ← x2] at hm
    rw [← a1, ← o1] at h1
    rw [← x1, ← a1] at h2
    omega
theorem ev_sum {g h : Nat → Nat → Nat} {p q : Nat} (hgh : ∀ x y, x < 4294967296 → y < 4294967296 → p * g x y + q * h x y = x + y) :
    ∀ {a b : List Nat}, a.length = b.length → Small a → Small b → p * ev 4294967296 (zw g a b) + q * ev 4294967296 (zw h a b) = ev 4294967296 a + ev 4294967296 b := by
  intro a
  induction a with
  | nil => intro b hl _ _; obtain rfl : b = [] := List.eq_nil_of_length_eq_zero hl.symm; simp [zw, ev]
  | cons x a ih =>
    intro b hl ha hb
    cases b with
    | nil => cases hl
    | cons y b =>
      have h1 := ih (b := b) (by simpa using hl) (fun d hd => ha d (List.mem_cons_of_mem _ hd)) (fun d hd => hb d (List.mem_cons_of_mem _ hd))
      have h2 := hgh x y (ha x (List.mem_cons_self ..)) (hb y (List.mem_cons_self ..))
      show p * ev 4294967296 (g x y :: zw g a b) + q * ev 4294967296 (h x y :: zw h a b) = _
      rw [Big.ev_cons, Big.ev_cons, Big.ev_cons, Big.ev_cons, Nat.mul_add, Nat.mul_add, Nat.mul_left_comm p, Nat.mul_left_comm q]
      omega
theorem zw_top {g : Nat → Nat → Nat} {G : Bool → Bool → Bool} (hg : ∀ x y, x < 4294967296 → y < 4294967296 → hi (g x y) = G (hi x) (hi y)) {a b : List Nat} (hl : a.length = b.length) (hne : 0 < a.length) (ha : Small a) (hb : Small b) : top (zw g a b) = G (top a) (top b) := by
  have h1 : a.length - 1 < a.length := by omega
  have h2 : a.length - 1 < b.length := by omega
  unfold top
  rw [List.getLast?_eq_getElem?, List.getLast?_eq_getElem?, List.getLast?_eq_getElem?, zw_len g hl, ← hl]
  unfold zw
  rw [List.getElem?_zipWith, List.getElem?_eq_getElem h1, List.getElem?_eq_getElem h2]
  exact hg _ _ (ha _ (List.getElem_mem h1)) (hb _ (List.getElem_mem h2))
def gA (x y : Nat) : Nat := x &&& y
def gO (x y : Nat) : Nat := x ||| y
def gX (x y : Nat) : Nat := x ^^^ y
theorem gA_hi (x y : Nat) (hx : x < 4294967296) (hy : y < 4294967296) : gA x y < 4294967296 ∧ hi (gA x y) = (hi x && hi y) := by
  obtain ⟨c, h1, h2, h3⟩ := and_hi x y hx hy
  rw [bits_and x y hx hy] at h1
  have : gA x y = c := by unfold gA; omega
  rw [this]; exact ⟨h2, h3⟩
theorem gO_hi (x y : Nat) (hx : x < 4294967296) (hy : y < 4294967296) : gO x y < 4294967296 ∧ hi (gO x y) = (hi x || hi y) := by
  obtain ⟨c, h1, h2, h3⟩ := or_hi x y hx hy
  rw [bits_or x y hx hy] at h1
  have : gO x y = c := by unfold gO; omega
  rw [this]; exact ⟨h2, h3⟩
theorem gX_hi (x y : Nat) (hx : x < 4294967296) (hy : y < 4294967296) : gX x y < 4294967296 ∧ hi (gX x y) = (hi x ^^ hi y) := by
  obtain ⟨c, h1, h2, h3⟩ := xor_hi x y hx hy
  rw [bits_xor x y hx hy] at h1
  have : gX x y = c := by unfold gX; omega
  rw [this]; exact ⟨h2, h3⟩
/-- The word operation on two numbers. -/
def bitZ (g : Nat → Nat → Nat) (n : Nat) (x y : Int) : Int := val (zw g (tw x n) (tw y n))
theorem bit_laws {n : Nat} {x y : Int} (hx : (lims 4294967296 x.natAbs).length < n) (hy : (lims 4294967296 y.natAbs).length < n) :
    bitZ gO n x y + bitZ gA n x y = x + y ∧ bitZ gX n x y + 2 * bitZ gA n x y = x + y := by
  have lx := tw_len hx
  have ly := tw_len hy
  have vx := tw_val hx
  have vy := tw_val hy
  have sx := tw_small x n
  have sy := tw_small y n
  unfold bitZ
  generalize tw x n = a at *
  generalize tw y n = b at *
  have hl : a.length = b.length := by omega
  have hne : 0 < a.length := by omega
  have tA := zw_top (g := gA) (G := fun s t => s && t) (fun u v hu hv => (gA_hi u v hu hv).2) hl hne sx sy
  have tO := zw_top (g := gO) (G := fun s t => s || t) (fun u v hu hv => (gO_hi u v hu hv).2) hl hne sx sy
  have tX := zw_top (g := gX) (G := fun s t => s ^^ t) (fun u v hu hv => (gX_hi u v hu hv).2) hl hne sx sy
  have e1 := ev_sum (g := gA) (h := gO) (p := 1) (q := 1) (fun u v hu hv => by have := (bit_sums 32 u v hu hv).1; unfold gA gO; omega) hl sx sy
  have e2 := ev_sum (g := gX) (h := gA) (p := 1) (q := 2) (fun u v hu hv => by have := (bit_sums 32 u v hu hv).2; unfold gA gX; omega) hl sx sy
  rw [← vx, ← vy]
  unfold val
  rw [tA, tO, tX, zw_len gA hl, zw_len gO hl, zw_len gX hl, ← hl]
  generalize 4294967296 ^ a.length = P
  generalize ev 4294967296 (zw gA a b) = EA at *
  generalize ev 4294967296 (zw gO a b) = EO at *
  generalize ev 4294967296 (zw gX a b) = EX at *
  generalize ev 4294967296 a = Ea at *
  generalize ev 4294967296 b = Eb at *
  cases top a <;> cases top b <;> simp <;> omega
end Go.Proofs.YtmnibfdenmeepaaDoor
