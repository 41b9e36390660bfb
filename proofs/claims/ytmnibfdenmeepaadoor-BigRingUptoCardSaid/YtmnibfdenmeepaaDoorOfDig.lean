/- ofDigits of the program. -/
import Derived.Test.YtmnibfdenmeepaaDoorLong
namespace Go.Proofs.YtmnibfdenmeepaaDoor
open Go.RowKit Go.Shelf Big

/-- A block with its cells. -/
def Has (w : World) (g : Nat) (t : TypeId) (cs : Array Value) : Prop := w.heap[g]? = some (.cells cs t (0, 0))
theorem Has.lt {w : World} {g : Nat} {t : TypeId} {cs : Array Value} (h : Has w g t cs) : g < w.heap.size := (Array.getElem?_eq_some_iff.1 h).1
theorem Has.cell {w : World} {g : Nat} {t : TypeId} {cs : Array Value} (h : Has w g t cs) (i : Nat) : w.cell? ⟨g, i, none⟩ = cs[i]? := cell_of_row w g i cs t (0, 0) h
theorem Has.free {w : World} {g : Nat} {t : TypeId} {cs : Array Value} (h : Has w g t cs) (i : Nat) : w.frozen? ⟨g, i, none⟩ = false := frozen_of_row w g i cs t h
theorem Has.new (w : World) (t : TypeId) (cs : Array Value) : Has (w.alloc (.cells cs t)) w.heap.size t cs := heap_alloc_new w _
theorem Has.new' {w : World} {n : Nat} (h : w.heap.size = n) (t : TypeId) (cs : Array Value) : Has (w.alloc (.cells cs t)) n t cs := by rw [← h]; exact heap_alloc_new w _
theorem Has.alloc {w : World} {g : Nat} {t : TypeId} {cs : Array Value} (h : Has w g t cs) (o : Obj) : Has (w.alloc o) g t cs := (Below.heap_alloc w o g h.lt).trans h
theorem Has.far {w : World} {g : Nat} {t : TypeId} {cs : Array Value} (h : Has w g t cs) {p : Addr} (hp : g ≠ p.block) (u : Value) : Has (w.setCell p u) g t cs := (Below.heap_setCell w p u g hp).trans h
theorem Has.below {w w' : World} {g : Nat} {t : TypeId} {cs : Array Value} (h : Has w g t cs) (hb : Below w.heap.size w w') : Has w' g t cs := (hb.block g h.lt).trans h
theorem Has.drew {w : World} {g : Nat} {t : TypeId} {cs : Array Value} (h : Has w g t cs) : Has w.drew g t cs := h
theorem Has.four {w : World} {g : Nat} {t : TypeId} {a b c d : Value} (h : Has w g t #[a, b, c, d]) : w.cell? ⟨g, 0, none⟩ = some a ∧ w.cell? ⟨g, 1, none⟩ = some b ∧ w.cell? ⟨g, 2, none⟩ = some c ∧ w.cell? ⟨g, 3, none⟩ = some d ∧ w.frozen? ⟨g, 0, none⟩ = false ∧ w.frozen? ⟨g, 1, none⟩ = false ∧ w.frozen? ⟨g, 2, none⟩ = false ∧ w.frozen? ⟨g, 3, none⟩ = false :=
  ⟨h.cell 0, h.cell 1, h.cell 2, h.cell 3, h.free 0, h.free 1, h.free 2, h.free 3⟩

/-- A struct `number`. -/
def numV (s : Bool) (v : Value) (l o : Bool) : Value := .agg #[.bool s, v, .bool l, .bool o]
/-- No number. -/
def noNum (e : Ending) : Prop := e = .returned (.tuple #[.agg #[.bool false, .slice none 0 0, .bool false, .bool false], .bool false])
/-- A number was read. -/
def IsNum (B : Nat) (s : Bool) (n : Nat) (w' : World) (e : Ending) : Prop := ∃ v, e = .returned (.tuple #[.agg #[.bool s, v, .bool (tooL n), .bool (decide (n % 2 = 1))], .bool true]) ∧ NatIs w' B v n

theorem okn_iff (b : Nat) (l : List UInt8) : okn b l = true ↔ l ≠ [] ∧ Okb b l := by
  unfold okn Okb
  simp [List.all_eq_true]

set_option maxRecDepth 100000 in
set_option maxHeartbeats 4000000 in
theorem ofDigits_no (s : ByteArray) (b : Nat) (below : Bool) (w : World) (hs : s.size ≤ 1000) (hb : 2 ≤ b) (hb2 : b ≤ 36) (h : okn b s.data.toList = false) :
    Calls Tryd.prog 96 #[.string s, .int .i64 (b : Int), .bool below] w fun e w' => noNum e ∧ Below w.heap.size w w' := by
  have HN := Lib.hid (show ¬ (s.data.toList ≠ [] ∧ Okb b s.data.toList) by rw [← okn_iff, h]; simp)
  clear h
  by_cases hE : s.toList.isEmpty = true
  · go_enter Tryd.func96, Tryd.ntmps96
    go_wp2
    exact bodyPost_ret (v := .tuple #[.agg #[.bool false, .slice none 0 0, .bool false, .bool false], .bool false]) (by simp [results, Tryd.results96, go_sem]) rfl ⟨rfl, (Below.refl _ _).alloc (Nat.le_refl _) _⟩
  · have hp := size_pos hE
    have hE' : s.toList.isEmpty = false := by simpa using hE
    clear hE
    go_enter Tryd.func96, Tryd.ntmps96
    go_wp2
    go_loopg [8, 18] s.size (fun g v8 v18 wx => wx = w.alloc (.cells #[.bool false, .slice none 0 0, .bool false, .bool false] 46) ∧ ∃ i o : Nat, v18 = .int .i64 (i : Int) ∧ i + g = s.size ∧ v8 = .int .i64 (o : Int) ∧ o ≤ 1 ∧ Okb b (s.data.toList.take i))
    case atStart => exact ⟨rfl, 0, 0, rfl, by omega, rfl, by omega, fun c hc => by simp at hc⟩
    case round =>
      obtain ⟨rfl, i, o, rfl, hig, rfl, ho, hok⟩ := hrel
      have HK := Lib.hid hok
      clear hok
      by_cases hi : i < s.size
      · have t1 : (i : Int) < (s.size : Int) := by omega
        have htk := take_snoc s i hi
        obtain ⟨c, hc⟩ : ∃ c, s[i] = c := ⟨_, rfl⟩
        rw [hc] at htk
        have HC := Lib.hid hc
        obtain ⟨d, hd⟩ : ∃ d, dg c = d := ⟨_, rfl⟩
        have hdig := fun W => digit_any c W
        simp only [hd] at hdig
        have HD := Lib.hid hdig
        clear hc hdig
        by_cases hdb : d < b
        · have HT := Lib.hid (show Okb b (s.data.toList.take (i + 1)) by
            rw [htk]
            intro x hx
            rcases List.mem_append.1 hx with hx | hx
            · exact HK.out x hx
            · simp at hx; rw [hx, hd]; exact hdb)
          have t2 : ¬ (d : Int) ≥ (b : Int) := by omega
          have m1 : (o : Int) * (b : Int) = ((o * b : Nat) : Int) := (Int.natCast_mul _ _).symm
          have hob : o * b ≤ 1 * b := Nat.mul_le_mul_right _ ho
          obtain ⟨Q, hQ⟩ : ∃ Q, o * b = Q := ⟨_, rfl⟩
          rw [hQ] at m1 hob
          have hmi : ((Q : Int) + (d : Int)) % 2 = (((Q + d) % 2 : Nat) : Int) := by omega
          obtain ⟨g, rfl⟩ : ∃ g, gk = g + 1 := ⟨gk - 1, by omega⟩
          clear hQ htk hd
          go_wp2_with (go_at_call 120; rw [HC.out]; refine (HD.out _).mono ?_; rintro e w' ⟨rfl, rfl⟩)
          go_roundg g
          case measure => omega
          case rel => exact ⟨rfl, i + 1, (Q + d) % 2, by go_num, by omega, by rw [hmi], by omega, HT.out⟩
        · have t2 : (d : Int) ≥ (b : Int) := by omega
          clear htk hd
          go_wp2_with (go_at_call 120; rw [HC.out]; refine (HD.out _).mono ?_; rintro e w' ⟨rfl, rfl⟩)
          exact bodyPost_ret (v := .tuple #[.agg #[.bool false, .slice none 0 0, .bool false, .bool false], .bool false]) (by simp [results, Tryd.results96, go_sem]) rfl ⟨rfl, (Below.refl _ _).alloc (Nat.le_refl _) _⟩
      · exfalso
        have : s.data.toList.take i = s.data.toList := List.take_of_length_le (by rw [← Lib.size_eq]; omega)
        rw [this] at HK
        exact HN.out ⟨fun h => by rw [Lib.size_eq, h] at hp; simp at hp, HK.out⟩

theorem grownBy_refl (w : World) (r : Option Nat) : w.grownBy w r := ⟨rfl, rfl, rfl, Nat.le_refl _, fun _ _ _ => rfl⟩
theorem NatIs.far {w : World} {B n b : Nat} {v : Value} (h : NatIs w B v n) (hb : b < B) (i : Nat) (u : Value) : NatIs (w.setCell ⟨b, i, none⟩ u) B v n :=
  World.ownsRow.kept h (grown_put (grownBy_refl w (some b)) i u) (by
    rcases hv : v.ownBlock with _ | g
    · exact .inl rfl
    · refine .inr ?_
      have := (World.ownsRow.lt h g hv).1
      intro e
      cases e
      omega)

theorem NatIs.far4 {w : World} {B n b : Nat} {v : Value} (h : NatIs w B v n) (hb : b < B) (a c d e : Value) : NatIs ((((w.setCell ⟨b, 0, none⟩ a).setCell ⟨b, 1, none⟩ c).setCell ⟨b, 2, none⟩ d).setCell ⟨b, 3, none⟩ e) B v n :=
  (((h.far hb 0 a).far hb 1 c).far hb 2 d).far hb 3 e
theorem Below.four {B b : Nat} {w w' : World} (h : Below B w w') (hb : B ≤ b) (a c d e : Value) : Below B w ((((w'.setCell ⟨b, 0, none⟩ a).setCell ⟨b, 1, none⟩ c).setCell ⟨b, 2, none⟩ d).setCell ⟨b, 3, none⟩ e) :=
  (((h.setCell (p := ⟨b, 0, none⟩) hb a).setCell (p := ⟨b, 1, none⟩) hb c).setCell (p := ⟨b, 2, none⟩) hb d).setCell (p := ⟨b, 3, none⟩) hb e

theorem odd_step (b o r d : Nat) (h : o = r % 2) : (o * b + d) % 2 = (r * b + d) % 2 := by
  subst h
  rw [Nat.add_mod, Nat.mod_mul_mod, ← Nat.add_mod]

set_option maxRecDepth 100000 in
set_option maxHeartbeats 8000000 in
theorem ofDigits_ok (s : ByteArray) (b : Nat) (below : Bool) (w : World) (hs : s.size ≤ 1000) (hb : 2 ≤ b) (hb2 : b ≤ 36) (h : okn b s.data.toList = true) :
    Calls Tryd.prog 96 #[.string s, .int .i64 (b : Int), .bool below] w fun e w' => IsNum w.heap.size (below && decide (0 < rdn b s.data.toList)) (rdn b s.data.toList) w' e ∧ Below w.heap.size w w' := by
  obtain ⟨hne, hok⟩ := (okn_iff _ _).1 h
  have HOK := Lib.hid hok
  have hlt := rdn_lt hok
  have hshort : (lims 4294967296 (rdn b s.data.toList)).length ≤ 100000 := lims_short (k := s.data.toList.length) (Nat.lt_of_lt_of_le hlt (pow_short b _ hb2)) (by rw [← Lib.size_eq]; omega)
  have hE' : s.toList.isEmpty = false := by
    cases h : s.toList.isEmpty with
    | false => rfl
    | true => exact absurd ((empty_iff s).1 h) hne
  have hread := fun W => read_any s b W hs hb hb2 hok
  have HR := Lib.hid hread
  have HSH := Lib.hid hshort
  clear hne hok h hlt hread hshort
  go_enter Tryd.func96, Tryd.ntmps96
  go_wp2
  go_loopg [8, 18] s.size (fun g v8 v18 wx => wx = w.alloc (.cells #[.bool false, .slice none 0 0, .bool false, .bool false] 46) ∧ ∃ i o : Nat, v18 = .int .i64 (i : Int) ∧ i + g = s.size ∧ v8 = .int .i64 (o : Int) ∧ o ≤ 1 ∧ o = rdn b (s.data.toList.take i) % 2)
  case atStart => exact ⟨rfl, 0, 0, rfl, by omega, rfl, by omega, rfl⟩
  case round =>
    obtain ⟨rfl, i, o, rfl, hig, rfl, ho, hro⟩ := hrel
    have HO := Lib.hid hro
    clear hro
    by_cases hi : i < s.size
    · have t1 : (i : Int) < (s.size : Int) := by omega
      have htk := take_snoc s i hi
      have hdb := HOK.out s[i] (List.getElem_mem (l := s.data.toList) (n := i) (by rw [← Lib.size_eq]; exact hi))
      obtain ⟨c, hc⟩ : ∃ c, s[i] = c := ⟨_, rfl⟩
      rw [hc] at htk hdb
      have HC := Lib.hid hc
      obtain ⟨d, hd⟩ : ∃ d, dg c = d := ⟨_, rfl⟩
      have hdig := fun W => digit_any c W
      simp only [hd] at hdig
      have HD := Lib.hid hdig
      rw [hd] at hdb
      have HT := Lib.hid (show (o * b + d) % 2 = rdn b (s.data.toList.take (i + 1)) % 2 by rw [htk, rdn_snoc, hd]; exact odd_step _ _ _ _ HO.out)
      have t2 : ¬ (d : Int) ≥ (b : Int) := by omega
      have m1 : (o : Int) * (b : Int) = ((o * b : Nat) : Int) := (Int.natCast_mul _ _).symm
      have hob : o * b ≤ 1 * b := Nat.mul_le_mul_right _ ho
      obtain ⟨Q, hQ⟩ : ∃ Q, o * b = Q := ⟨_, rfl⟩
      rw [hQ] at m1 hob HT
      have hmi : ((Q : Int) + (d : Int)) % 2 = (((Q + d) % 2 : Nat) : Int) := by omega
      obtain ⟨g, rfl⟩ : ∃ g, gk = g + 1 := ⟨gk - 1, by omega⟩
      clear hQ htk hd hc hdig
      go_wp2_with (go_at_call 120; rw [HC.out]; refine (HD.out _).mono ?_; rintro e w' ⟨rfl, rfl⟩)
      go_roundg g
      case measure => omega
      case rel => exact ⟨rfl, i + 1, (Q + d) % 2, by go_num, by omega, by rw [hmi], by omega, HT.out⟩
    · have hoo : o = rdn b s.data.toList % 2 := by
        have : s.data.toList.take i = s.data.toList := List.take_of_length_le (by rw [← Lib.size_eq]; omega)
        have h := HO.out
        rwa [this] at h
      have hil : (lims 4294967296 (rdn b s.data.toList)).length = 0 ↔ rdn b s.data.toList = 0 := by
        rw [List.length_eq_zero_iff, lims_nil w32_ge]
      obtain ⟨n, hnn⟩ : ∃ n, rdn b s.data.toList = n := ⟨_, rfl⟩
      rw [hnn] at HR HSH hoo hil
      have HNN := Lib.hid hnn
      clear hnn
      have HOO := Lib.hid hoo
      have HIL := Lib.hid hil
      clear hoo hil HO
      obtain ⟨lv, hlv⟩ : ∃ lv, (lims 4294967296 n).length = lv := ⟨_, rfl⟩
      have HLV := Lib.hid hlv
      rw [hlv] at HIL
      clear hlv
      have hpos : (0 < n ∧ 0 < lv) ∨ (n = 0 ∧ lv = 0) := by have := HIL.out; omega
      rcases hpos with ⟨hn0, hl0⟩ | ⟨hn0, hl0'⟩
      case' inr =>
        have hl0 : decide (0 < lv) = false := by simp; omega
        have hl1 : decide ((0 : Int) < (lv : Int)) = false := by simp; omega
        have Hn0 := Lib.hid hn0
        clear hl0' hn0
        have hn0 := Hn0
      all_goals
        cases below
      all_goals
        go_wp2_with (first
          | (go_at_call 121; refine (HR.out _).mono ?_; rintro e w3 ⟨⟨v, rfl, hn⟩, hb3⟩; obtain ⟨av, cv, hv⟩ := hn.slice; rw [HLV.out] at hv; subst hv)
          | (go_at_call 113; refine (tooLong_any _ _ _ _ hn HSH.out).mono ?_; rintro e w4 ⟨rfl, hb4⟩; have hn4 := hn.kept hb4; have hb5 := hb3.trans (hb4.mono hb3.size); have hz5 := hb5.size; obtain ⟨q0, q1, q2, q3, q4, q5, q6, q7⟩ := ((Has.new w 46 #[.bool false, .slice none 0 0, .bool false, .bool false]).below hb5).four))
        have hn5 := fun a c d e => (hn4.far4 (b := w.heap.size) (by simp) a c d e).mono (B' := w.heap.size) (by simp)
        have hb6 := fun a c d e => Below.four (b := w.heap.size) (((Below.refl w.heap.size w).alloc (Nat.le_refl _) (.cells #[.bool false, .slice none 0 0, .bool false, .bool false] 46)).trans (hb5.mono (by simp))) (Nat.le_refl _) a c d e
        have hoe : ((o : Int) == 1) = decide (n % 2 = 1) := by
          rw [HOO.out]
          by_cases h : n % 2 = 1
          · rw [h]; rfl
          · have : ((n % 2 : Nat) : Int) ≠ 1 := by omega
            rw [decide_eq_false h]
            simpa using this
        clear hb5 hn4
        first
          | (refine bodyPost_ret (v := .tuple #[.agg #[.bool false, .slice av lv cv, .bool (tooL n), .bool ((o : Int) == 1)], .bool true]) ?_ rfl ?_; focus (simp [results, Tryd.results96, go_sem, World.cell?_setCell_same', q0, q1, q2, q3]; done))
          | (refine bodyPost_ret (v := .tuple #[.agg #[.bool true, .slice av lv cv, .bool (tooL n), .bool ((o : Int) == 1)], .bool true]) ?_ rfl ?_; focus (simp [results, Tryd.results96, go_sem, World.cell?_setCell_same', q0, q1, q2, q3]; done))
        rw [HNN.out]
        refine ⟨⟨_, ?_, hn5 _ _ _ _⟩, hb6 _ _ _ _⟩
        rw [hoe]
        first | rfl | (simp [hn0]; done) | (rw [Hn0.out]; rfl)
end Go.Proofs.YtmnibfdenmeepaaDoor
