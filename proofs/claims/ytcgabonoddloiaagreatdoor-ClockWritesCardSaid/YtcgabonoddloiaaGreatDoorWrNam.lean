/- The letters of names, of the day without zero and of the seconds. -/
import Derived.Test.YtcgabonoddloiaaGreatDoorWrLet
import Derived.Test.YtcgabonoddloiaaGreatDoorRegion
import Derived.Test.YtcgabonoddloiaaGreatDoorLet1
namespace Go.Proofs.YtcgabonoddloiaaGreatDoor.Wr
open Go.RowKit Clk

theorem enters_e : Enters 94 := enters_of Tryz.func94 (by kernel_rfl) (by kernel_rfl)
theorem enters_s : Enters 77 := enters_of Tryz.func77 (by kernel_rfl) (by kernel_rfl)
theorem enters_named : Enters 110 := enters_of Tryz.func110 (by kernel_rfl) (by kernel_rfl)

theorem e_call (t : Int) (B : Nat) (w : World) (ht : isT t = true) (hP : Pow B w) (hB : B ≤ w.heap.size) :
    Calls Tryz.prog 94 #[.int .i64 t] w fun e w' => e = .returned (.string ⟨(Lib.itoa (cDay (t / 86400))).toArray⟩) ∧ Below w.heap.size w w' := by
  obtain ⟨t1, t2⟩ := isT_iff.1 ht
  obtain ⟨Y, M, D, h, i, s, A, -, -, ⟨d1, d2⟩, -⟩ := at_parts t ht
  have HM := Lib.hid A.d
  have hfl := field_of 2 _ Y M D h i s rfl
  have HA := Lib.hid A
  have HP := Lib.hid hP
  clear A hP
  go_enter Tryz.func94, Tryz.ntmps94
  go_wp2_with fail
  refine (at_any t Y M D h i s _ HA.out (by omega) (by omega)).mono ?_
  rintro e w1 ⟨rfl, hb1⟩
  go_wp2_with fail
  refine (itoa_any D B _ (by omega) (by omega) (HP.out.to (hb1.mono hB))).mono ?_
  rintro e w2 ⟨rfl, hb2⟩
  go_wp2
  go_ret
  exact ⟨by rw [HM.out]; rfl, hb1.trans (hb2.mono hb1.size)⟩
theorem e_let (lo hi : Nat) (rf : Value) (w : World) (hr : ∃ h cap2, rf = .func (.func h) #[] cap2) (hle : hi ≤ w.heap.size) : LetIs lo hi (.agg #[.func (.func 94) #[] #[], rf]) w 101 :=
  ⟨⟨_, _, rf, rfl, hr, enters_e, fun w' _ _ t B ht hP hB => e_call t B w' ht hP hB⟩, hle⟩
theorem s_let (lo hi : Nat) (rf : Value) (w : World) (hr : ∃ h cap2, rf = .func (.func h) #[] cap2) (hle : hi ≤ w.heap.size) : LetIs lo hi (.agg #[.func (.func 77) #[] #[], rf]) w 115 :=
  ⟨⟨_, _, rf, rfl, hr, enters_s, fun w' _ _ t B ht hP _ => by
    obtain ⟨t1, t2⟩ := isT_iff.1 ht
    exact itoa_any t B w' (by omega) (by omega) hP⟩, hle⟩

/-- The names of a mark. -/
def nOf (c : Int) : List (List UInt8) := if c = 66 ∨ c = 98 then mNames else if c = 65 ∨ c = 97 then wNames else pNames

/-- The cells of names. -/
def cellsOf (l : List (List UInt8)) : Array Value := (l.map fun x => Value.string ⟨x.toArray⟩).toArray
theorem cellsOf_at (l : List (List UInt8)) (j : Nat) (h : j < l.length) : (cellsOf l)[j]? = some (.string ⟨(l.getD j []).toArray⟩) := by
  unfold cellsOf
  simp [List.getD_eq_getElem?_getD, List.getElem?_eq_getElem h]

set_option maxRecDepth 100000 in
set_option maxHeartbeats 1600000 in
theorem names_any (c : Int) (hc : c = 66 ∨ c = 98 ∨ c = 65 ∨ c = 97 ∨ c = 112) (w : World) :
    Calls Tryz.prog 111 #[.int .u8 c] w fun e w' => ∃ n : Nat, e = .returned (.slice (some ⟨w.heap.size, 0, none⟩) n n) ∧ n = (nOf c).length ∧ Below w.heap.size w w' ∧ w.heap.size < w'.heap.size ∧ ∀ j, j < (nOf c).length → w'.cell? ⟨w.heap.size, j, none⟩ = some (.string ⟨((nOf c).getD j []).toArray⟩) := by
  rcases hc with rfl | rfl | rfl | rfl | rfl
  all_goals
    go_enter Tryz.func111, Tryz.ntmps111
    go_wp2
    go_ret
    first
      | exact ⟨12, rfl, rfl, (Below.refl _ _).alloc (Nat.le_refl _) _, by simp, fun j hj => ((Has.new w 9 (cellsOf mNames)).cell j).trans (cellsOf_at mNames j hj)⟩
      | exact ⟨7, rfl, rfl, (Below.refl _ _).alloc (Nat.le_refl _) _, by simp, fun j hj => ((Has.new w 9 (cellsOf wNames)).cell j).trans (cellsOf_at wNames j hj)⟩
      | exact ⟨2, rfl, rfl, (Below.refl _ _).alloc (Nat.le_refl _) _, by simp, fun j hj => ((Has.new w 9 (cellsOf pNames)).cell j).trans (cellsOf_at pNames j hj)⟩

/-- A name, or its first three letters. -/
def cutB (short : Int) (l : List UInt8) : List UInt8 := if short = 3 then l.take 3 else l

set_option maxRecDepth 100000 in
set_option maxHeartbeats 800000 in
theorem cut_any (l : List UInt8) (short : Int) (a : Nat) (w : World) (hs : short = 0 ∨ short = 3 ∧ 3 ≤ l.length) (_hl2 : l.length ≤ 20) (ha : w.cell? ⟨a, 0, none⟩ = some (.int .i64 short)) :
    Calls Tryz.prog 109 #[.string ⟨l.toArray⟩, .pointer (some ⟨a, 0, none⟩)] w fun e w' => e = .returned (.string ⟨(cutB short l).toArray⟩) ∧ Below w.heap.size w w' := by
  rcases hs with rfl | ⟨rfl, hl⟩
  · go_enter Tryz.func109, Tryz.ntmps109
    go_wp2
    go_ret
    exact ⟨rfl, Below.refl _ _⟩
  · have hz : (⟨l.toArray⟩ : ByteArray).size = l.length := by simp [ByteArray.size]
    have he : (⟨l.toArray⟩ : ByteArray).extract 0 3 = ⟨(l.take 3).toArray⟩ := by
      apply ByteArray.ext
      simp
    obtain ⟨s, hsx⟩ : ∃ s : ByteArray, (⟨l.toArray⟩ : ByteArray) = s := ⟨_, rfl⟩
    rw [hsx] at hz he ⊢
    have h3 : 3 ≤ s.size := by omega
    have HE := Lib.hid he
    clear hsx he hz
    go_enter Tryz.func109, Tryz.ntmps109
    go_wp2
    go_ret
    refine ⟨?_, Below.refl _ _⟩
    show Ending.returned (.string (s.extract 0 3)) = _
    rw [HE.out]
    rfl

theorem nOf_len (c : Int) : (nOf c).length ≤ 12 ∧ ∀ l ∈ nOf c, l.length ≤ 20 := by
  unfold nOf
  split
  · decide
  · split <;> decide
theorem getD_mem (l : List (List UInt8)) (j : Nat) (h : j < l.length) : l.getD j [] ∈ l := by
  rw [List.getD_eq_getElem?_getD, List.getElem?_eq_getElem h]
  exact List.getElem_mem h

/-- What is known of named's function while its operations come up, in whatever order. -/
structure NF (w : World) (c t : Int) (j N : Nat) (X R : ByteArray) (F6 F9 : Value) (L : Nat → Bool) (v5 : Value) (u : Nat → Value) (w' : World) : Prop where
  below : Below w.heap.size w w'
  size : w.heap.size ≤ w'.heap.size
  f0 : L 0 = true → u 6 = F6
  f1 : L 1 = true → u 7 = .int .u8 c
  f2 : L 2 = true → ∃ g0, u 8 = .slice (some ⟨g0, 0, none⟩) N N ∧ g0 < w'.heap.size ∧ w'.cell? ⟨g0, j, none⟩ = some (.string X)
  f3 : L 3 = true → u 9 = F9
  f4 : L 4 = true → u 10 = .int .i64 t
  f5 : L 5 = true → u 11 = .int .i64 j
  f6 : L 6 = true → ∃ g0, u 12 = .pointer (some ⟨g0, j, none⟩) ∧ g0 < w'.heap.size ∧ w'.cell? ⟨g0, j, none⟩ = some (.string X)
  f7 : L 7 = true → u 13 = .string X
  f8 : L 8 = true → u 14 = .string R
  f9 : L 9 = true → v5 = .string R
theorem NF.to {w w1 w2 : World} {c t : Int} {j N : Nat} {X R : ByteArray} {F6 F9 v5 : Value} {L : Nat → Bool} {u : Nat → Value} (F : NF w c t j N X R F6 F9 L v5 u w1) (hb : Below w1.heap.size w1 w2) : NF w c t j N X R F6 F9 L v5 u w2 :=
  ⟨F.below.trans (hb.mono F.size), Nat.le_trans F.size hb.size, F.f0, F.f1, fun h => let ⟨g, a, b, d⟩ := F.f2 h; ⟨g, a, Nat.lt_of_lt_of_le b hb.size, (hb.cell (p := ⟨g, j, none⟩) b).trans d⟩, F.f3, F.f4, F.f5, fun h => let ⟨g, a, b, d⟩ := F.f6 h; ⟨g, a, Nat.lt_of_lt_of_le b hb.size, (hb.cell (p := ⟨g, j, none⟩) b).trans d⟩, F.f7, F.f8, F.f9⟩
theorem NF.set0 {w w1 : World} {c t : Int} {j N : Nat} {X R : ByteArray} {F6 F9 v5 x : Value} {L L' : Nat → Bool} {u : Nat → Value} (F : NF w c t j N X R F6 F9 L v5 u w1) (hL : ∀ i, L' i = true → i = 0 ∨ L i = true) (hx : x = F6) : NF w c t j N X R F6 F9 L' v5 (upd u 6 x) w1 :=
  ⟨F.below, F.size, fun _ => by rw [upd_eq]; exact hx, fun h => by rw [upd_ne (by decide)]; exact F.f1 ((hL _ h).resolve_left (by decide)), fun h => by rw [upd_ne (by decide)]; exact F.f2 ((hL _ h).resolve_left (by decide)), fun h => by rw [upd_ne (by decide)]; exact F.f3 ((hL _ h).resolve_left (by decide)), fun h => by rw [upd_ne (by decide)]; exact F.f4 ((hL _ h).resolve_left (by decide)), fun h => by rw [upd_ne (by decide)]; exact F.f5 ((hL _ h).resolve_left (by decide)), fun h => by rw [upd_ne (by decide)]; exact F.f6 ((hL _ h).resolve_left (by decide)), fun h => by rw [upd_ne (by decide)]; exact F.f7 ((hL _ h).resolve_left (by decide)), fun h => by rw [upd_ne (by decide)]; exact F.f8 ((hL _ h).resolve_left (by decide)), fun h => F.f9 ((hL _ h).resolve_left (by decide))⟩
theorem NF.set1 {w w1 : World} {c t : Int} {j N : Nat} {X R : ByteArray} {F6 F9 v5 x : Value} {L L' : Nat → Bool} {u : Nat → Value} (F : NF w c t j N X R F6 F9 L v5 u w1) (hL : ∀ i, L' i = true → i = 1 ∨ L i = true) (hx : x = .int .u8 c) : NF w c t j N X R F6 F9 L' v5 (upd u 7 x) w1 :=
  ⟨F.below, F.size, fun h => by rw [upd_ne (by decide)]; exact F.f0 ((hL _ h).resolve_left (by decide)), fun _ => by rw [upd_eq]; exact hx, fun h => by rw [upd_ne (by decide)]; exact F.f2 ((hL _ h).resolve_left (by decide)), fun h => by rw [upd_ne (by decide)]; exact F.f3 ((hL _ h).resolve_left (by decide)), fun h => by rw [upd_ne (by decide)]; exact F.f4 ((hL _ h).resolve_left (by decide)), fun h => by rw [upd_ne (by decide)]; exact F.f5 ((hL _ h).resolve_left (by decide)), fun h => by rw [upd_ne (by decide)]; exact F.f6 ((hL _ h).resolve_left (by decide)), fun h => by rw [upd_ne (by decide)]; exact F.f7 ((hL _ h).resolve_left (by decide)), fun h => by rw [upd_ne (by decide)]; exact F.f8 ((hL _ h).resolve_left (by decide)), fun h => F.f9 ((hL _ h).resolve_left (by decide))⟩
theorem NF.set2 {w w1 : World} {c t : Int} {j N : Nat} {X R : ByteArray} {F6 F9 v5 x : Value} {L L' : Nat → Bool} {u : Nat → Value} (F : NF w c t j N X R F6 F9 L v5 u w1) (hL : ∀ i, L' i = true → i = 2 ∨ L i = true) (hx : ∃ g0, x = .slice (some ⟨g0, 0, none⟩) N N ∧ g0 < w1.heap.size ∧ w1.cell? ⟨g0, j, none⟩ = some (.string X)) : NF w c t j N X R F6 F9 L' v5 (upd u 8 x) w1 :=
  ⟨F.below, F.size, fun h => by rw [upd_ne (by decide)]; exact F.f0 ((hL _ h).resolve_left (by decide)), fun h => by rw [upd_ne (by decide)]; exact F.f1 ((hL _ h).resolve_left (by decide)), fun _ => by rw [upd_eq]; exact hx, fun h => by rw [upd_ne (by decide)]; exact F.f3 ((hL _ h).resolve_left (by decide)), fun h => by rw [upd_ne (by decide)]; exact F.f4 ((hL _ h).resolve_left (by decide)), fun h => by rw [upd_ne (by decide)]; exact F.f5 ((hL _ h).resolve_left (by decide)), fun h => by rw [upd_ne (by decide)]; exact F.f6 ((hL _ h).resolve_left (by decide)), fun h => by rw [upd_ne (by decide)]; exact F.f7 ((hL _ h).resolve_left (by decide)), fun h => by rw [upd_ne (by decide)]; exact F.f8 ((hL _ h).resolve_left (by decide)), fun h => F.f9 ((hL _ h).resolve_left (by decide))⟩
theorem NF.set3 {w w1 : World} {c t : Int} {j N : Nat} {X R : ByteArray} {F6 F9 v5 x : Value} {L L' : Nat → Bool} {u : Nat → Value} (F : NF w c t j N X R F6 F9 L v5 u w1) (hL : ∀ i, L' i = true → i = 3 ∨ L i = true) (hx : x = F9) : NF w c t j N X R F6 F9 L' v5 (upd u 9 x) w1 :=
  ⟨F.below, F.size, fun h => by rw [upd_ne (by decide)]; exact F.f0 ((hL _ h).resolve_left (by decide)), fun h => by rw [upd_ne (by decide)]; exact F.f1 ((hL _ h).resolve_left (by decide)), fun h => by rw [upd_ne (by decide)]; exact F.f2 ((hL _ h).resolve_left (by decide)), fun _ => by rw [upd_eq]; exact hx, fun h => by rw [upd_ne (by decide)]; exact F.f4 ((hL _ h).resolve_left (by decide)), fun h => by rw [upd_ne (by decide)]; exact F.f5 ((hL _ h).resolve_left (by decide)), fun h => by rw [upd_ne (by decide)]; exact F.f6 ((hL _ h).resolve_left (by decide)), fun h => by rw [upd_ne (by decide)]; exact F.f7 ((hL _ h).resolve_left (by decide)), fun h => by rw [upd_ne (by decide)]; exact F.f8 ((hL _ h).resolve_left (by decide)), fun h => F.f9 ((hL _ h).resolve_left (by decide))⟩
theorem NF.set4 {w w1 : World} {c t : Int} {j N : Nat} {X R : ByteArray} {F6 F9 v5 x : Value} {L L' : Nat → Bool} {u : Nat → Value} (F : NF w c t j N X R F6 F9 L v5 u w1) (hL : ∀ i, L' i = true → i = 4 ∨ L i = true) (hx : x = .int .i64 t) : NF w c t j N X R F6 F9 L' v5 (upd u 10 x) w1 :=
  ⟨F.below, F.size, fun h => by rw [upd_ne (by decide)]; exact F.f0 ((hL _ h).resolve_left (by decide)), fun h => by rw [upd_ne (by decide)]; exact F.f1 ((hL _ h).resolve_left (by decide)), fun h => by rw [upd_ne (by decide)]; exact F.f2 ((hL _ h).resolve_left (by decide)), fun h => by rw [upd_ne (by decide)]; exact F.f3 ((hL _ h).resolve_left (by decide)), fun _ => by rw [upd_eq]; exact hx, fun h => by rw [upd_ne (by decide)]; exact F.f5 ((hL _ h).resolve_left (by decide)), fun h => by rw [upd_ne (by decide)]; exact F.f6 ((hL _ h).resolve_left (by decide)), fun h => by rw [upd_ne (by decide)]; exact F.f7 ((hL _ h).resolve_left (by decide)), fun h => by rw [upd_ne (by decide)]; exact F.f8 ((hL _ h).resolve_left (by decide)), fun h => F.f9 ((hL _ h).resolve_left (by decide))⟩
theorem NF.set5 {w w1 : World} {c t : Int} {j N : Nat} {X R : ByteArray} {F6 F9 v5 x : Value} {L L' : Nat → Bool} {u : Nat → Value} (F : NF w c t j N X R F6 F9 L v5 u w1) (hL : ∀ i, L' i = true → i = 5 ∨ L i = true) (hx : x = .int .i64 j) : NF w c t j N X R F6 F9 L' v5 (upd u 11 x) w1 :=
  ⟨F.below, F.size, fun h => by rw [upd_ne (by decide)]; exact F.f0 ((hL _ h).resolve_left (by decide)), fun h => by rw [upd_ne (by decide)]; exact F.f1 ((hL _ h).resolve_left (by decide)), fun h => by rw [upd_ne (by decide)]; exact F.f2 ((hL _ h).resolve_left (by decide)), fun h => by rw [upd_ne (by decide)]; exact F.f3 ((hL _ h).resolve_left (by decide)), fun h => by rw [upd_ne (by decide)]; exact F.f4 ((hL _ h).resolve_left (by decide)), fun _ => by rw [upd_eq]; exact hx, fun h => by rw [upd_ne (by decide)]; exact F.f6 ((hL _ h).resolve_left (by decide)), fun h => by rw [upd_ne (by decide)]; exact F.f7 ((hL _ h).resolve_left (by decide)), fun h => by rw [upd_ne (by decide)]; exact F.f8 ((hL _ h).resolve_left (by decide)), fun h => F.f9 ((hL _ h).resolve_left (by decide))⟩
theorem NF.set6 {w w1 : World} {c t : Int} {j N : Nat} {X R : ByteArray} {F6 F9 v5 x : Value} {L L' : Nat → Bool} {u : Nat → Value} (F : NF w c t j N X R F6 F9 L v5 u w1) (hL : ∀ i, L' i = true → i = 6 ∨ L i = true) (hx : ∃ g0, x = .pointer (some ⟨g0, j, none⟩) ∧ g0 < w1.heap.size ∧ w1.cell? ⟨g0, j, none⟩ = some (.string X)) : NF w c t j N X R F6 F9 L' v5 (upd u 12 x) w1 :=
  ⟨F.below, F.size, fun h => by rw [upd_ne (by decide)]; exact F.f0 ((hL _ h).resolve_left (by decide)), fun h => by rw [upd_ne (by decide)]; exact F.f1 ((hL _ h).resolve_left (by decide)), fun h => by rw [upd_ne (by decide)]; exact F.f2 ((hL _ h).resolve_left (by decide)), fun h => by rw [upd_ne (by decide)]; exact F.f3 ((hL _ h).resolve_left (by decide)), fun h => by rw [upd_ne (by decide)]; exact F.f4 ((hL _ h).resolve_left (by decide)), fun h => by rw [upd_ne (by decide)]; exact F.f5 ((hL _ h).resolve_left (by decide)), fun _ => by rw [upd_eq]; exact hx, fun h => by rw [upd_ne (by decide)]; exact F.f7 ((hL _ h).resolve_left (by decide)), fun h => by rw [upd_ne (by decide)]; exact F.f8 ((hL _ h).resolve_left (by decide)), fun h => F.f9 ((hL _ h).resolve_left (by decide))⟩
theorem NF.set7 {w w1 : World} {c t : Int} {j N : Nat} {X R : ByteArray} {F6 F9 v5 x : Value} {L L' : Nat → Bool} {u : Nat → Value} (F : NF w c t j N X R F6 F9 L v5 u w1) (hL : ∀ i, L' i = true → i = 7 ∨ L i = true) (hx : x = .string X) : NF w c t j N X R F6 F9 L' v5 (upd u 13 x) w1 :=
  ⟨F.below, F.size, fun h => by rw [upd_ne (by decide)]; exact F.f0 ((hL _ h).resolve_left (by decide)), fun h => by rw [upd_ne (by decide)]; exact F.f1 ((hL _ h).resolve_left (by decide)), fun h => by rw [upd_ne (by decide)]; exact F.f2 ((hL _ h).resolve_left (by decide)), fun h => by rw [upd_ne (by decide)]; exact F.f3 ((hL _ h).resolve_left (by decide)), fun h => by rw [upd_ne (by decide)]; exact F.f4 ((hL _ h).resolve_left (by decide)), fun h => by rw [upd_ne (by decide)]; exact F.f5 ((hL _ h).resolve_left (by decide)), fun h => by rw [upd_ne (by decide)]; exact F.f6 ((hL _ h).resolve_left (by decide)), fun _ => by rw [upd_eq]; exact hx, fun h => by rw [upd_ne (by decide)]; exact F.f8 ((hL _ h).resolve_left (by decide)), fun h => F.f9 ((hL _ h).resolve_left (by decide))⟩
theorem NF.set8 {w w1 : World} {c t : Int} {j N : Nat} {X R : ByteArray} {F6 F9 v5 x : Value} {L L' : Nat → Bool} {u : Nat → Value} (F : NF w c t j N X R F6 F9 L v5 u w1) (hL : ∀ i, L' i = true → i = 8 ∨ L i = true) (hx : x = .string R) : NF w c t j N X R F6 F9 L' v5 (upd u 14 x) w1 :=
  ⟨F.below, F.size, fun h => by rw [upd_ne (by decide)]; exact F.f0 ((hL _ h).resolve_left (by decide)), fun h => by rw [upd_ne (by decide)]; exact F.f1 ((hL _ h).resolve_left (by decide)), fun h => by rw [upd_ne (by decide)]; exact F.f2 ((hL _ h).resolve_left (by decide)), fun h => by rw [upd_ne (by decide)]; exact F.f3 ((hL _ h).resolve_left (by decide)), fun h => by rw [upd_ne (by decide)]; exact F.f4 ((hL _ h).resolve_left (by decide)), fun h => by rw [upd_ne (by decide)]; exact F.f5 ((hL _ h).resolve_left (by decide)), fun h => by rw [upd_ne (by decide)]; exact F.f6 ((hL _ h).resolve_left (by decide)), fun h => by rw [upd_ne (by decide)]; exact F.f7 ((hL _ h).resolve_left (by decide)), fun _ => by rw [upd_eq]; exact hx, fun h => F.f9 ((hL _ h).resolve_left (by decide))⟩
theorem NF.set9 {w w1 : World} {c t : Int} {j N : Nat} {X R : ByteArray} {F6 F9 v5 x : Value} {L L' : Nat → Bool} {u : Nat → Value} (F : NF w c t j N X R F6 F9 L v5 u w1) (hL : ∀ i, L' i = true → i = 9 ∨ L i = true) (hx : x = .string R) : NF w c t j N X R F6 F9 L' x (u) w1 :=
  ⟨F.below, F.size, fun h => F.f0 ((hL _ h).resolve_left (by decide)), fun h => F.f1 ((hL _ h).resolve_left (by decide)), fun h => F.f2 ((hL _ h).resolve_left (by decide)), fun h => F.f3 ((hL _ h).resolve_left (by decide)), fun h => F.f4 ((hL _ h).resolve_left (by decide)), fun h => F.f5 ((hL _ h).resolve_left (by decide)), fun h => F.f6 ((hL _ h).resolve_left (by decide)), fun h => F.f7 ((hL _ h).resolve_left (by decide)), fun h => F.f8 ((hL _ h).resolve_left (by decide)), fun _ => hx⟩

set_option maxRecDepth 100000 in
set_option maxHeartbeats 8000000 in
theorem named2_any (c short : Int) (g : FuncId) (cap : Array Value) (t : Int) (j a b d e0 : Nat) (w : World) (hc : c = 66 ∨ c = 98 ∨ c = 65 ∨ c = 97 ∨ c = 112) (hE : Enters g) (hj : j < (nOf c).length) (hs : short = 0 ∨ short = 3 ∧ 3 ≤ ((nOf c).getD j []).length)
    (hC : ∀ w1, Below w.heap.size w w1 → Calls Tryz.prog g (#[.int .i64 t] ++ cap) w1 fun e w' => e = .returned (.int .i64 j) ∧ Below w1.heap.size w1 w')
    (ha : w.cell? ⟨a, 0, none⟩ = some (.func (.func 109) #[] #[.pointer (some ⟨e0, 0, none⟩)])) (hb : w.cell? ⟨b, 0, none⟩ = some (.int .u8 c)) (hd' : w.cell? ⟨d, 0, none⟩ = some (.func (.func g) #[] cap)) (he : w.cell? ⟨e0, 0, none⟩ = some (.int .i64 short))
    (la : a < w.heap.size) (lb : b < w.heap.size) (ld : d < w.heap.size) (le : e0 < w.heap.size) :
    Calls Tryz.prog 110 #[.int .i64 t, .pointer (some ⟨a, 0, none⟩), .pointer (some ⟨b, 0, none⟩), .pointer (some ⟨d, 0, none⟩)] w fun e w' => e = .returned (.string ⟨(cutB short ((nOf c).getD j [])).toArray⟩) ∧ Below w.heap.size w w' := by
  have hcf : ∀ args w, (callFunc g args).run Tryz.prog w = .ok (.enter g args) w := hE
  have HN := Lib.hid (fun w => names_any c hc w)
  have HC := Lib.hid hC
  obtain ⟨n12, n20⟩ := nOf_len c
  have hl20 := n20 _ (getD_mem _ j hj)
  have HK := Lib.hid (fun (w' : World) (h : w'.cell? ⟨e0, 0, none⟩ = some (.int .i64 short)) => cut_any ((nOf c).getD j []) short e0 w' hs hl20 h)
  obtain ⟨N, hN⟩ : ∃ N, (nOf c).length = N := ⟨_, rfl⟩
  obtain ⟨X, hX⟩ : ∃ X : ByteArray, (⟨((nOf c).getD j []).toArray⟩ : ByteArray) = X := ⟨_, rfl⟩
  have hnames : ∀ w, Calls Tryz.prog 111 #[.int .u8 c] w fun e w' => e = .returned (.slice (some ⟨w.heap.size, 0, none⟩) N N) ∧ Below w.heap.size w w' ∧ w.heap.size < w'.heap.size ∧ w'.cell? ⟨w.heap.size, j, none⟩ = some (.string X) := fun w => (names_any c hc w).mono fun e w' ⟨n, h1, h2, h3, h4, h5⟩ => ⟨by rw [h1, h2, hN], h3, h4, by rw [h5 j hj, hX]⟩
  rw [hX] at HK
  rw [hN] at hj
  have HNM := Lib.hid hnames
  clear hC hE HN hnames n12 n20 hl20 hs hX hN hc
  go_enter Tryz.func110, Tryz.ntmps110
  go_wp2_with fail
  obtain ⟨R, hR⟩ : ∃ R : ByteArray, (⟨(cutB short ((nOf c).getD j [])).toArray⟩ : ByteArray) = R := ⟨_, rfl⟩
  rw [hR] at HK
  have HR := Lib.hid hR
  clear hR
  refine wp_region_inv (Inv := fun listed x w' => ∃ v5 u, x = { tmps := #[.int .i64 t, .pointer (some ⟨a, 0, none⟩), .pointer (some ⟨b, 0, none⟩), .pointer (some ⟨d, 0, none⟩), undef, v5, u 6, u 7, u 8, u 9, u 10, u 11, u 12, u 13, u 14], defers := [] } ∧ NF w c t j N X R (.func (.func 109) #[] #[.pointer (some ⟨e0, 0, none⟩)]) (.func (.func g) #[] cap) (fun i => listed.getD i false) v5 u w') (by kernel_rfl) (ord_of (by kernel_rfl)) ?h0 ?step ?fin
  case h0 =>
    have hz : ∀ i : Nat, (Array.replicate 10 false).getD i false = false := fun i => by simp [Array.getD_eq_getD_getElem?, Array.getElem?_replicate]; split <;> rfl
    refine ⟨.string ⟨#[]⟩, fun _ => undef, rfl, (Below.refl _ _).drew, Nat.le_refl _, ?_, ?_, ?_, ?_, ?_, ?_, ?_, ?_, ?_, ?_⟩
    all_goals exact fun h => absurd ((hz _).symm.trans h) (by simp)
  case fin =>
    rintro listed x w' ⟨v5, u, rfl, F⟩ hall
    have e9 := F.f9 (hall 9 (by decide))
    subst e9
    have hb2 := F.below
    clear F hall
    go_wp2
    go_ret
    exact ⟨by rw [HR.out]; rfl, hb2⟩
  case step =>
    rintro listed x w' i ⟨v5, u, rfl, F⟩ hi hn hd
    have h10 : i = 0 ∨ i = 1 ∨ i = 2 ∨ i = 3 ∨ i = 4 ∨ i = 5 ∨ i = 6 ∨ i = 7 ∨ i = 8 ∨ i = 9 := by
      have : i < 10 := hi
      omega
    have ka : w'.cell? ⟨a, 0, none⟩ = some (.func (.func 109) #[] #[.pointer (some ⟨e0, 0, none⟩)]) := (F.below.cell (p := ⟨a, 0, none⟩) la).trans ha
    have kb : w'.cell? ⟨b, 0, none⟩ = some (.int .u8 c) := (F.below.cell (p := ⟨b, 0, none⟩) lb).trans hb
    have kd : w'.cell? ⟨d, 0, none⟩ = some (.func (.func g) #[] cap) := (F.below.cell (p := ⟨d, 0, none⟩) ld).trans hd'
    have ke : w'.cell? ⟨e0, 0, none⟩ = some (.int .i64 short) := (F.below.cell (p := ⟨e0, 0, none⟩) le).trans he
    rcases h10 with rfl | rfl | rfl | rfl | rfl | rfl | rfl | rfl | rfl | rfl
    · refine wpOp_by rfl rfl (fun K hK => ?_)
      go_simp
      exact hK _ _ ⟨v5, upd u 6 _, rfl, F.set0 (fun _ h => set_true h) rfl⟩
    · refine wpOp_by rfl rfl (fun K hK => ?_)
      go_simp
      exact hK _ _ ⟨v5, upd u 7 _, rfl, F.set1 (fun _ h => set_true h) rfl⟩
    · have e1 := F.f1 (hd _ rfl ⟨1, .data⟩ (by simp) rfl)
      refine wpOp_by rfl rfl (fun K hK => ?_)
      go_simp
      refine (HNM.out _).mono ?_
      rintro e w1 ⟨rfl, hb1, hz1, hc1⟩
      exact hK _ _ ⟨v5, upd u 8 _, by simp [upd, e1], (F.to hb1).set2 (fun _ h => set_true h) ⟨_, rfl, hz1, hc1⟩⟩
    · refine wpOp_by rfl rfl (fun K hK => ?_)
      go_simp
      exact hK _ _ ⟨v5, upd u 9 _, rfl, F.set3 (fun _ h => set_true h) rfl⟩
    · refine wpOp_by rfl rfl (fun K hK => ?_)
      go_simp
      exact hK _ _ ⟨v5, upd u 10 _, rfl, F.set4 (fun _ h => set_true h) rfl⟩
    · have e1 := F.f3 (hd _ rfl ⟨3, .data⟩ (by simp) rfl)
      have e2 := F.f4 (hd _ rfl ⟨4, .data⟩ (by simp) rfl)
      refine wpOp_by rfl rfl (fun K hK => ?_)
      go_simp
      refine (HC.out _ F.below).mono ?_
      rintro e w1 ⟨rfl, hb1⟩
      exact hK _ _ ⟨v5, upd u 11 _, by simp [upd, e1, e2], (F.to hb1).set5 (fun _ h => set_true h) rfl⟩
    · obtain ⟨g0, e1, l1, x1⟩ := F.f2 (hd _ rfl ⟨2, .data⟩ (by simp) rfl)
      have e2 := F.f5 (hd _ rfl ⟨5, .data⟩ (by simp) rfl)
      refine wpOp_by rfl rfl (fun K hK => ?_)
      go_simp
      exact hK _ _ ⟨v5, upd u 12 (.pointer (some ⟨g0, j, none⟩)), by simp [upd, e1, e2], F.set6 (fun _ h => set_true h) ⟨g0, rfl, l1, x1⟩⟩
    · obtain ⟨g0, e1, l1, x1⟩ := F.f6 (hd _ rfl ⟨6, .data⟩ (by simp) rfl)
      refine wpOp_by rfl rfl (fun K hK => ?_)
      go_simp
      exact hK _ _ ⟨v5, upd u 13 _, by simp [upd, e1], F.set7 (fun _ h => set_true h) rfl⟩
    · have e1 := F.f0 (hd _ rfl ⟨0, .data⟩ (by simp) rfl)
      have e2 := F.f7 (hd _ rfl ⟨7, .data⟩ (by simp) rfl)
      refine wpOp_by rfl rfl (fun K hK => ?_)
      go_simp
      refine (HK.out _ ke).mono ?_
      rintro e w1 ⟨rfl, hb1⟩
      exact hK _ _ ⟨v5, upd u 14 _, by simp [upd, e1, e2], (F.to hb1).set8 (fun _ h => set_true h) rfl⟩
    · have e1 := F.f8 (hd _ rfl ⟨8, .data⟩ (by simp) rfl)
      refine wpOp_by rfl rfl (fun K hK => ?_)
      go_simp
      exact hK _ _ ⟨_, u, by simp [e1], F.set9 (fun _ h => set_true h) rfl⟩
end Go.Proofs.YtcgabonoddloiaaGreatDoor.Wr
