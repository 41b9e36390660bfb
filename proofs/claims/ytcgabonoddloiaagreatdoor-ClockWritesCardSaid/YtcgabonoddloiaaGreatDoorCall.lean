/- What the letters' functions answer: padded, the functions of a part of the date. -/
import Derived.Test.YtcgabonoddloiaaGreatDoorParts
import Derived.Test.YtcgabonoddloiaaGreatDoorShelf
import Derived.Deep.RegionHeld3
import Derived.ShutString
import Derived.Lib.AppendIntMem
import Derived.Lib.ItoaNum
namespace Go.Proofs.YtcgabonoddloiaaGreatDoor
open Go.RowKit Clk

/-- The table of powers, as long as nothing below B changes. -/
abbrev Pow (B : Nat) (w : World) : Prop := Lib.TabBelow Tryz.prog B w "internal/strconv.uint64pow10" .u64 Lib.pow10Tab
theorem Pow.to {B : Nat} {w w' : World} (h : Pow B w) (hb : Below B w w') : Pow B w' := fun w'' k => h w'' (hb.trans k)

theorem Pow.at {B B' : Nat} {w w' : World} (h : Pow B w) (hb : Below B w w') (hB : B ≤ B') : Pow B' w' := fun w'' k => h w'' (hb.trans (k.mono hB))

/-- A number in so many digits. -/
def padB (n : Int) (k : Nat) : List UInt8 := Lib.repeatL [48] (k - (Lib.itoa n).length) ++ Lib.itoa n

theorem dec_len : ∀ (k u : Nat), u < 10 ^ (k + 1) → (Lib.decDigits u).length ≤ k + 1
  | 0, u, h => by
    rw [Lib.decDigits, dif_pos (by simpa using h)]
    simp
  | k + 1, u, h => by
    rw [Lib.decDigits]
    split
    · simp
    · have := dec_len k (u / 10) (by rw [Nat.pow_succ] at h; omega)
      simp
      omega
theorem itoa_len (n : Int) (h0 : 0 ≤ n) (h1 : n ≤ 9999) : (Lib.itoa n).length ≤ 4 := by
  unfold Lib.itoa
  rw [if_neg (by omega)]
  exact dec_len 3 _ (by simp; omega)

set_option maxHeartbeats 800000 in
theorem itoa_any (n : Int) (B : Nat) (w : World) (hn : -9223372036854775808 ≤ n) (hn2 : n ≤ 9223372036854775807) (hP : Pow B w) :
    Calls Tryz.prog 77 #[.int .i64 n] w fun e w' => e = .returned (.string ⟨(Lib.itoa n).toArray⟩) ∧ Below w.heap.size w w' := by
  refine (Tryz.strconv_Itoa n hn hn2 _ hP.here).mono ?_
  rintro e w1 ⟨he, a, os, rfl⟩
  exact ⟨he, Lib.below_grow _ _ (Nat.le_refl _) _ _⟩

set_option maxHeartbeats 800000 in
set_option maxRecDepth 100000 in
theorem padded_any (n : Int) (k : Nat) (B : Nat) (w : World) (hn : 0 ≤ n) (hn2 : n ≤ 9999) (hk : k ≤ 4) (hP : Pow B w) (_hB : B ≤ w.heap.size) :
    Calls Tryz.prog 105 #[.int .i64 n, .int .i64 k] w fun e w' => e = .returned (.string ⟨(padB n k).toArray⟩) ∧ Below w.heap.size w w' := by
  have hl := itoa_len n hn hn2
  have HP : Hid (padB n k = Lib.repeatL [48] (k - (Lib.itoa n).length) ++ Lib.itoa n) := Lib.hid rfl
  go_enter Tryz.func105, Tryz.ntmps105
  go_wp2_with fail
  refine (itoa_any n B _ (by omega) (by omega) hP).mono ?_
  rintro e w1 ⟨rfl, hb⟩
  obtain ⟨l, hl'⟩ : ∃ l, Lib.itoa n = l := ⟨_, rfl⟩
  rw [hl'] at hl
  rw [hl']
  have HL := Lib.hid hl'
  clear hl'
  go_wp2_with fail
  rw [show max ((k : Int) - (l.length : Int)) 0 = ((k - l.length : Nat) : Int) by omega]
  refine (Tryz.strings_Repeat ⟨#[48]⟩ (k - l.length) _ (by omega) (by show 1 * (k - l.length) ≤ _; omega)).mono ?_
  rintro e w2 ⟨rfl, hb2⟩
  have hR := Lib.repeatL_length [48] (k - l.length)
  obtain ⟨R, hR'⟩ : ∃ R, Lib.repeatL [48] (k - l.length) = R := ⟨_, rfl⟩
  have HR := Lib.hid hR'
  rw [hR'] at hR
  have hRl : R.length ≤ 4 := by rw [hR]; simp; omega
  rw [show (⟨#[48]⟩ : ByteArray).data.toList = [48] from rfl, hR']
  clear hR hR'
  go_wp2
  go_ret
  refine ⟨?_, hb.trans (hb2.mono hb.size)⟩
  rw [HP.out, HL.out, HR.out]
  show Ending.returned (.string (⟨R.toArray⟩ ++ ⟨l.toArray⟩)) = _
  have e : ((⟨R.toArray⟩ : ByteArray) ++ ⟨l.toArray⟩) = ⟨(R ++ l).toArray⟩ := by
    apply ByteArray.ext
    simp
  rw [e]

theorem Below.drewIn {B : Nat} {w w' : World} (h : Below B w.drew w') : Below B w w' := ⟨h.os, h.tape, h.output, h.size, h.block⟩

/-- The closed functions of a part of the date. -/
structure Field (g : FuncId) (f : Int → Int → Int → Int → Int → Int → Int) : Prop where
  call : ∀ (Y M D h i s : Int) (w : World), Calls Tryz.prog g #[.agg #[.int .i64 Y, .int .i64 M, .int .i64 D, .int .i64 h, .int .i64 i, .int .i64 s]] w fun e w' => e = .returned (.int .i64 (f Y M D h i s)) ∧ Below w.heap.size w w'

theorem field3 : Field 81 (fun Y _ _ _ _ _ => Y) := ⟨fun Y M D h i s w => by
  go_enter Tryz.func81, Tryz.ntmps81
  go_wp2
  go_ret
  exact ⟨rfl, (Below.refl _ _).alloc (Nat.le_refl _) _⟩⟩
theorem field5 : Field 83 (fun _ M _ _ _ _ => M) := ⟨fun Y M D h i s w => by
  go_enter Tryz.func83, Tryz.ntmps83
  go_wp2
  go_ret
  exact ⟨rfl, (Below.refl _ _).alloc (Nat.le_refl _) _⟩⟩
theorem field6 : Field 84 (fun _ _ D _ _ _ => D) := ⟨fun Y M D h i s w => by
  go_enter Tryz.func84, Tryz.ntmps84
  go_wp2
  go_ret
  exact ⟨rfl, (Below.refl _ _).alloc (Nat.le_refl _) _⟩⟩
theorem field7 : Field 85 (fun _ _ _ h _ _ => h) := ⟨fun Y M D h i s w => by
  go_enter Tryz.func85, Tryz.ntmps85
  go_wp2
  go_ret
  exact ⟨rfl, (Below.refl _ _).alloc (Nat.le_refl _) _⟩⟩
theorem field8 : Field 86 (fun _ _ _ _ i _ => i) := ⟨fun Y M D h i s w => by
  go_enter Tryz.func86, Tryz.ntmps86
  go_wp2
  go_ret
  exact ⟨rfl, (Below.refl _ _).alloc (Nat.le_refl _) _⟩⟩
theorem field9 : Field 87 (fun _ _ _ _ _ s => s) := ⟨fun Y M D h i s w => by
  go_enter Tryz.func87, Tryz.ntmps87
  go_wp2
  go_ret
  exact ⟨rfl, (Below.refl _ _).alloc (Nat.le_refl _) _⟩⟩

set_option maxHeartbeats 800000 in
set_option maxRecDepth 100000 in
theorem part1_3 (t Y M D h i s : Int) (a : Nat) (w : World) (A : AtIs t Y M D h i s) (h1 : -1000000000000 ≤ t) (h2 : t ≤ 1000000000000)
    (ha : w.cell? ⟨a, 0, none⟩ = some (.func (.func 81) #[] #[])) (hal : a < w.heap.size) :
    Calls Tryz.prog 103 #[.int .i64 t, .pointer (some ⟨a, 0, none⟩)] w fun e w' => e = .returned (.int .i64 Y) ∧ Below w.heap.size w w' := by
  go_enter Tryz.func103, Tryz.ntmps103
  go_wp2_with fail
  go_region_held3 (fun w' => w'.cell? ⟨a, 0, none⟩ = some (.func (.func 81) #[] #[]))
    (first | assumption | exact (hb2.cell (p := ⟨a, 0, none⟩) (Nat.lt_of_lt_of_le hal hb1.size)).trans (by assumption) | exact (hb1.cell (p := ⟨a, 0, none⟩) hal).trans ha)
    (first | (go_at_call 35; refine (at_any _ _ _ _ _ _ _ _ A (by omega) (by omega)).mono ?_; rintro e w1 ⟨rfl, hb1⟩) | (go_at_call 81; refine (field3.call _ _ _ _ _ _ _).mono ?_; rintro e w2 ⟨rfl, hb2⟩))
  go_wp2
  go_ret
  exact ⟨rfl, (Below.drewIn hb1).trans (hb2.mono hb1.size)⟩

set_option maxHeartbeats 800000 in
set_option maxRecDepth 100000 in
theorem part1_5 (t Y M D h i s : Int) (a : Nat) (w : World) (A : AtIs t Y M D h i s) (h1 : -1000000000000 ≤ t) (h2 : t ≤ 1000000000000)
    (ha : w.cell? ⟨a, 0, none⟩ = some (.func (.func 83) #[] #[])) (hal : a < w.heap.size) :
    Calls Tryz.prog 103 #[.int .i64 t, .pointer (some ⟨a, 0, none⟩)] w fun e w' => e = .returned (.int .i64 M) ∧ Below w.heap.size w w' := by
  go_enter Tryz.func103, Tryz.ntmps103
  go_wp2_with fail
  go_region_held3 (fun w' => w'.cell? ⟨a, 0, none⟩ = some (.func (.func 83) #[] #[]))
    (first | assumption | exact (hb2.cell (p := ⟨a, 0, none⟩) (Nat.lt_of_lt_of_le hal hb1.size)).trans (by assumption) | exact (hb1.cell (p := ⟨a, 0, none⟩) hal).trans ha)
    (first | (go_at_call 35; refine (at_any _ _ _ _ _ _ _ _ A (by omega) (by omega)).mono ?_; rintro e w1 ⟨rfl, hb1⟩) | (go_at_call 83; refine (field5.call _ _ _ _ _ _ _).mono ?_; rintro e w2 ⟨rfl, hb2⟩))
  go_wp2
  go_ret
  exact ⟨rfl, (Below.drewIn hb1).trans (hb2.mono hb1.size)⟩

set_option maxHeartbeats 800000 in
set_option maxRecDepth 100000 in
theorem part1_6 (t Y M D h i s : Int) (a : Nat) (w : World) (A : AtIs t Y M D h i s) (h1 : -1000000000000 ≤ t) (h2 : t ≤ 1000000000000)
    (ha : w.cell? ⟨a, 0, none⟩ = some (.func (.func 84) #[] #[])) (hal : a < w.heap.size) :
    Calls Tryz.prog 103 #[.int .i64 t, .pointer (some ⟨a, 0, none⟩)] w fun e w' => e = .returned (.int .i64 D) ∧ Below w.heap.size w w' := by
  go_enter Tryz.func103, Tryz.ntmps103
  go_wp2_with fail
  go_region_held3 (fun w' => w'.cell? ⟨a, 0, none⟩ = some (.func (.func 84) #[] #[]))
    (first | assumption | exact (hb2.cell (p := ⟨a, 0, none⟩) (Nat.lt_of_lt_of_le hal hb1.size)).trans (by assumption) | exact (hb1.cell (p := ⟨a, 0, none⟩) hal).trans ha)
    (first | (go_at_call 35; refine (at_any _ _ _ _ _ _ _ _ A (by omega) (by omega)).mono ?_; rintro e w1 ⟨rfl, hb1⟩) | (go_at_call 84; refine (field6.call _ _ _ _ _ _ _).mono ?_; rintro e w2 ⟨rfl, hb2⟩))
  go_wp2
  go_ret
  exact ⟨rfl, (Below.drewIn hb1).trans (hb2.mono hb1.size)⟩

set_option maxHeartbeats 800000 in
set_option maxRecDepth 100000 in
theorem part1_7 (t Y M D h i s : Int) (a : Nat) (w : World) (A : AtIs t Y M D h i s) (h1 : -1000000000000 ≤ t) (h2 : t ≤ 1000000000000)
    (ha : w.cell? ⟨a, 0, none⟩ = some (.func (.func 85) #[] #[])) (hal : a < w.heap.size) :
    Calls Tryz.prog 103 #[.int .i64 t, .pointer (some ⟨a, 0, none⟩)] w fun e w' => e = .returned (.int .i64 h) ∧ Below w.heap.size w w' := by
  go_enter Tryz.func103, Tryz.ntmps103
  go_wp2_with fail
  go_region_held3 (fun w' => w'.cell? ⟨a, 0, none⟩ = some (.func (.func 85) #[] #[]))
    (first | assumption | exact (hb2.cell (p := ⟨a, 0, none⟩) (Nat.lt_of_lt_of_le hal hb1.size)).trans (by assumption) | exact (hb1.cell (p := ⟨a, 0, none⟩) hal).trans ha)
    (first | (go_at_call 35; refine (at_any _ _ _ _ _ _ _ _ A (by omega) (by omega)).mono ?_; rintro e w1 ⟨rfl, hb1⟩) | (go_at_call 85; refine (field7.call _ _ _ _ _ _ _).mono ?_; rintro e w2 ⟨rfl, hb2⟩))
  go_wp2
  go_ret
  exact ⟨rfl, (Below.drewIn hb1).trans (hb2.mono hb1.size)⟩

set_option maxHeartbeats 800000 in
set_option maxRecDepth 100000 in
theorem part1_8 (t Y M D h i s : Int) (a : Nat) (w : World) (A : AtIs t Y M D h i s) (h1 : -1000000000000 ≤ t) (h2 : t ≤ 1000000000000)
    (ha : w.cell? ⟨a, 0, none⟩ = some (.func (.func 86) #[] #[])) (hal : a < w.heap.size) :
    Calls Tryz.prog 103 #[.int .i64 t, .pointer (some ⟨a, 0, none⟩)] w fun e w' => e = .returned (.int .i64 i) ∧ Below w.heap.size w w' := by
  go_enter Tryz.func103, Tryz.ntmps103
  go_wp2_with fail
  go_region_held3 (fun w' => w'.cell? ⟨a, 0, none⟩ = some (.func (.func 86) #[] #[]))
    (first | assumption | exact (hb2.cell (p := ⟨a, 0, none⟩) (Nat.lt_of_lt_of_le hal hb1.size)).trans (by assumption) | exact (hb1.cell (p := ⟨a, 0, none⟩) hal).trans ha)
    (first | (go_at_call 35; refine (at_any _ _ _ _ _ _ _ _ A (by omega) (by omega)).mono ?_; rintro e w1 ⟨rfl, hb1⟩) | (go_at_call 86; refine (field8.call _ _ _ _ _ _ _).mono ?_; rintro e w2 ⟨rfl, hb2⟩))
  go_wp2
  go_ret
  exact ⟨rfl, (Below.drewIn hb1).trans (hb2.mono hb1.size)⟩

set_option maxHeartbeats 800000 in
set_option maxRecDepth 100000 in
theorem part1_9 (t Y M D h i s : Int) (a : Nat) (w : World) (A : AtIs t Y M D h i s) (h1 : -1000000000000 ≤ t) (h2 : t ≤ 1000000000000)
    (ha : w.cell? ⟨a, 0, none⟩ = some (.func (.func 87) #[] #[])) (hal : a < w.heap.size) :
    Calls Tryz.prog 103 #[.int .i64 t, .pointer (some ⟨a, 0, none⟩)] w fun e w' => e = .returned (.int .i64 s) ∧ Below w.heap.size w w' := by
  go_enter Tryz.func103, Tryz.ntmps103
  go_wp2_with fail
  go_region_held3 (fun w' => w'.cell? ⟨a, 0, none⟩ = some (.func (.func 87) #[] #[]))
    (first | assumption | exact (hb2.cell (p := ⟨a, 0, none⟩) (Nat.lt_of_lt_of_le hal hb1.size)).trans (by assumption) | exact (hb1.cell (p := ⟨a, 0, none⟩) hal).trans ha)
    (first | (go_at_call 35; refine (at_any _ _ _ _ _ _ _ _ A (by omega) (by omega)).mono ?_; rintro e w1 ⟨rfl, hb1⟩) | (go_at_call 87; refine (field9.call _ _ _ _ _ _ _).mono ?_; rintro e w2 ⟨rfl, hb2⟩))
  go_wp2
  go_ret
  exact ⟨rfl, (Below.drewIn hb1).trans (hb2.mono hb1.size)⟩

/-- The function of a part of the date answers so. -/
def PartFn (g : FuncId) (f : Int → Int → Int → Int → Int → Int → Int) : Prop := ∀ (t Y M D h i s : Int) (a : Nat) (w : World), AtIs t Y M D h i s → -1000000000000 ≤ t → t ≤ 1000000000000 → w.cell? ⟨a, 0, none⟩ = some (.func (.func g) #[] #[]) → a < w.heap.size →
    Calls Tryz.prog 103 #[.int .i64 t, .pointer (some ⟨a, 0, none⟩)] w fun e w' => e = .returned (.int .i64 (f Y M D h i s)) ∧ Below w.heap.size w w'

set_option maxHeartbeats 800000 in
set_option maxRecDepth 100000 in
theorem number1_any (g : FuncId) (f : Int → Int → Int → Int → Int → Int → Int) (G : PartFn g f) (t Y M D h i s : Int) (a b c : Nat) (k : Nat) (B : Nat) (w : World) (A : AtIs t Y M D h i s) (h1 : -1000000000000 ≤ t) (h2 : t ≤ 1000000000000)
    (ha : w.cell? ⟨a, 0, none⟩ = some (.func (.func g) #[] #[])) (hb : w.cell? ⟨b, 0, none⟩ = some (.func (.func 103) #[] #[.pointer (some ⟨a, 0, none⟩)])) (hc : w.cell? ⟨c, 0, none⟩ = some (.int .i64 k))
    (hal : a < w.heap.size) (hbl : b < w.heap.size) (hcl : c < w.heap.size) (hk : k ≤ 4) (f0 : 0 ≤ f Y M D h i s) (f1 : f Y M D h i s ≤ 9999) (hP : Pow B w) (hB : B ≤ w.heap.size) :
    Calls Tryz.prog 104 #[.int .i64 t, .pointer (some ⟨b, 0, none⟩), .pointer (some ⟨c, 0, none⟩)] w fun e w' => e = .returned (.string ⟨(padB (f Y M D h i s) k).toArray⟩) ∧ Below w.heap.size w w' := by
  have hC := fun w1 (hb1 : Below w.heap.size w w1) => G t Y M D h i s a w1 A h1 h2 ((hb1.cell (p := ⟨a, 0, none⟩) hal).trans ha) (Nat.lt_of_lt_of_le hal hb1.size)
  obtain ⟨n, hn⟩ : ∃ n, f Y M D h i s = n := ⟨_, rfl⟩
  rw [hn] at f0 f1 hC ⊢
  have HC := Lib.hid hC
  have HP := Lib.hid hP
  clear hC hn ha G A hP
  go_enter Tryz.func104, Tryz.ntmps104
  go_wp2_with fail
  go_region_held3 (fun w' => w'.cell? ⟨b, 0, none⟩ = some (.func (.func 103) #[] #[.pointer (some ⟨a, 0, none⟩)]) ∧ w'.cell? ⟨c, 0, none⟩ = some (.int .i64 k) ∧ Below w.heap.size w w')
    ((go_split_ands; first
      | exact ⟨(hb2.cell (p := ⟨b, 0, none⟩) (Nat.lt_of_lt_of_le hbl (by have := hb1.size; simpa using this))).trans ((hb1.cell (p := ⟨b, 0, none⟩) hbl).trans hb), (hb2.cell (p := ⟨c, 0, none⟩) (Nat.lt_of_lt_of_le hcl (by have := hb1.size; simpa using this))).trans ((hb1.cell (p := ⟨c, 0, none⟩) hcl).trans hc), (Below.drewIn hb1).trans (hb2.mono (by have := hb1.size; simpa using this))⟩
      | exact ⟨(hb1.cell (p := ⟨b, 0, none⟩) hbl).trans hb, (hb1.cell (p := ⟨c, 0, none⟩) hcl).trans hc, (Below.drewIn hb1)⟩
      | exact ⟨hb, hc, (Below.refl _ _).drew⟩))
    ((go_split_ands; first
      | (go_at_call 103; refine (HC.out _ (Below.refl _ _).drew).mono ?_; rintro e w1 ⟨rfl, hb1⟩)
      | (go_at_call 105; refine (padded_any n k B _ f0 f1 hk (HP.out.to ((Below.drewIn hb1).mono hB)) (Nat.le_trans hB (by have := hb1.size; simpa using this))).mono ?_; rintro e w2 ⟨rfl, hb2⟩)))
  go_wp2
  go_ret
  exact ⟨rfl, (Below.drewIn hb1).trans (hb2.mono (by have := hb1.size; simpa using this))⟩
end Go.Proofs.YtcgabonoddloiaaGreatDoor
