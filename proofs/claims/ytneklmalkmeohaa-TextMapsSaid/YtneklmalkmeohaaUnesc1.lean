/- Unescape of the program. -/
import Derived.Test.YtneklmalkmeohaaDigits2
import Derived.Test.YtneklmalkmeohaaForms3
namespace Go.Proofs.Ytneklmalkmeohaa
open Go.RowKit Go.Lib

def letters : ByteArray := ⟨#[97, 98, 102, 110, 114, 116, 118]⟩
def meant : ByteArray := ⟨#[7, 8, 12, 10, 13, 9, 11]⟩
/-- Where a letter stands among those that mean a byte. -/
def letterOf (c : UInt8) : Int := indexByte letters.data.toList c

theorem letter_cases (c : UInt8) : letterOf c = -1 ∨ ∃ k : Nat, k < 7 ∧ letterOf c = k := by
  have h : ∀ n : Fin 256, letterOf (UInt8.ofNat n.1) = -1 ∨ ∃ k : Fin 7, letterOf (UInt8.ofNat n.1) = (k.1 : Int) := by decide +kernel
  have hc := c.toNat_lt
  have hv := h ⟨c.toNat, hc⟩
  rw [show UInt8.ofNat c.toNat = c by simp] at hv
  rcases hv with hv | ⟨k, hv⟩
  · exact .inl hv
  · exact .inr ⟨k.1, k.2, hv⟩

theorem letter_any (c : UInt8) (w : World) : Calls Try.prog 55 #[.string ⟨#[97, 98, 102, 110, 114, 116, 118]⟩, .int .u8 (c.toNat : Int)] w fun e w' => e = .returned (.int .i64 (letterOf c)) ∧ w = w' :=
  (Try.strings_IndexByte _ _ w).mono fun e w' ⟨he, hw⟩ => ⟨by rw [he]; simp [letterOf, letters], hw.symm⟩

theorem wrap64_add1 {k : Nat} (h : k ≤ 29700) : wrap64 ((k : Int) + 1) = (k : Int) + 1 := wrap64_keep ⟨by omega, by omega⟩
theorem wrap64_add2 {k : Nat} (h : k ≤ 29700) : wrap64 ((k : Int) + 2) = (k : Int) + 2 := wrap64_keep ⟨by omega, by omega⟩
theorem wrap64_1add {k : Nat} (h : k ≤ 29700) : wrap64 (1 + (k : Int)) = 1 + (k : Int) := wrap64_keep ⟨by omega, by omega⟩

/-- A blank. -/
def blank (c : UInt8) : Bool := decide (c.toNat = 32) || decide (c.toNat = 9)

/-- What the escaped bytes at the beginning are, and how many they take. -/
def unescList (l : List UInt8) : List UInt8 × Nat :=
  match l with
  | [] => ([], 0)
  | c0 :: r =>
    if c0.toNat = 92 then
      match r with
      | [] => ([92], 1)
      | c1 :: t =>
        if 0 ≤ letterOf c1 then ((meant.extract (letterOf c1).toNat ((letterOf c1).toNat + 1)).data.toList, 2)
        else if c1.toNat = 120 then (if 0 < digsOf 16 (t.take 2) then ([(natOf 16 (t.take (digsOf 16 (t.take 2)))).toUInt8], digsOf 16 (t.take 2) + 2) else ([c1], 2))
        else if 48 ≤ c1.toNat ∧ c1.toNat ≤ 55 then ([(natOf 8 ((c1 :: t).take (digsOf 8 ((c1 :: t).take 3)))).toUInt8], digsOf 8 ((c1 :: t).take 3) + 1)
        else if c1.toNat = 10 then ([32], (t.takeWhile blank).length + 2)
        else ([c1], 2)
    else ([], 0)

/-- What Unescape hands on. -/
def unescVal (s : ByteArray) : Value := .tuple #[.string ⟨(unescList s.data.toList).1.toArray⟩, .int .i64 ((unescList s.data.toList).2 : Int)]

set_option maxHeartbeats 800000 in
set_option maxRecDepth 100000 in
theorem unesc_none (s : ByteArray) (w : World) (hE : s.toList.isEmpty = true) :
    Calls Try.prog 21 #[.string s] w fun e w' => e = .returned (unescVal s) ∧ w = w' := by
  have H := Lib.hid (show unescVal s = .tuple #[.string ⟨#[]⟩, .int .i64 0] by unfold unescVal; rw [(empty_iff s).1 hE]; rfl)
  go_enter Try.func21, Try.ntmps21
  go_wp2
  go_ret2
  exact ⟨by rw [H.out]; rfl, rfl⟩

set_option maxHeartbeats 800000 in
set_option maxRecDepth 100000 in
theorem unesc_plain (s : ByteArray) (c0 : UInt8) (w : World) (hE : s.toList.isEmpty = false) (hp : (0 : Int) < (s.size : Int)) (h0 : s[0]'(by omega) = c0) (hc : ¬ (c0.toNat : Int) = 92) (H : Hid (unescVal s = .tuple #[.string ⟨#[]⟩, .int .i64 0])) :
    Calls Try.prog 21 #[.string s] w fun e w' => e = .returned (unescVal s) ∧ w = w' := by
  go_enter Try.func21, Try.ntmps21
  go_wp2
  go_ret2
  exact ⟨by rw [H.out]; rfl, rfl⟩

set_option maxHeartbeats 800000 in
set_option maxRecDepth 100000 in
theorem unesc_one (s : ByteArray) (c0 : UInt8) (w : World) (hE : s.toList.isEmpty = false) (hp : (0 : Int) < (s.size : Int)) (h0 : s[0]'(by omega) = c0) (hc : (c0.toNat : Int) = 92) (hs : (s.toList == [92]) = true) (H : Hid (unescVal s = .tuple #[.string ⟨#[92]⟩, .int .i64 1])) :
    Calls Try.prog 21 #[.string s] w fun e w' => e = .returned (unescVal s) ∧ w = w' := by
  go_enter Try.func21, Try.ntmps21
  go_wp2
  go_ret2
  exact ⟨by rw [H.out]; rfl, rfl⟩
set_option maxHeartbeats 800000 in
set_option maxRecDepth 100000 in
theorem unesc_letter (s : ByteArray) (c0 c1 : UInt8) (k : Nat) (w : World) (hs4 : s.size ≤ 400) (hE : s.toList.isEmpty = false) (hp : (0 : Int) < (s.size : Int)) (hp1 : (1 : Int) < (s.size : Int)) (h0 : s[0]'(by omega) = c0) (h1 : s[1]'(by omega) = c1) (hc : (c0.toNat : Int) = 92) (hs : (s.toList == [92]) = false) (hk : k < 7) (hl : letterOf c1 = k) (H : Hid (unescVal s = .tuple #[.string (meant.extract k (k + 1)), .int .i64 2])) :
    Calls Try.prog 21 #[.string s] w fun e w' => e = .returned (unescVal s) ∧ w = w' := by
  have hL := letter_any c1
  rw [hl] at hL
  have hw : wrap64 ((k : Int) + 1) = (k : Int) + 1 := wrap64_add1 (by omega)
  have hk0 : (0 : Int) ≤ (k : Int) := by omega
  have hk7 : (k : Int) + 1 ≤ 7 := by omega
  go_enter Try.func21, Try.ntmps21
  go_wp2_with (go_at_call 55; refine (hL _).mono ?_; rintro e w' ⟨rfl, rfl⟩)
  go_ret2
  exact ⟨by rw [H.out]; rfl, rfl⟩
set_option maxHeartbeats 800000 in
set_option maxRecDepth 100000 in
theorem unesc_other (s R : ByteArray) (c0 c1 : UInt8) (w : World) (hs4 : s.size ≤ 400) (hE : s.toList.isEmpty = false) (hp : (0 : Int) < (s.size : Int)) (hp1 : (1 : Int) < (s.size : Int)) (h0 : s[0]'(by omega) = c0) (h1 : s[1]'(by omega) = c1) (hc : (c0.toNat : Int) = 92) (hs : (s.toList == [92]) = false) (hl : letterOf c1 = -1)
    (hR : s.extract 1 s.size = R) (hRp : (0 : Int) < (R.size : Int)) (hR0 : R[0]'(by omega) = c1) (hx : ¬ (c1.toNat : Int) = 120) (ho : (decide ((48 : Int) ≤ (c1.toNat : Int)) && decide ((c1.toNat : Int) ≤ 55)) = false) (hn : ¬ (c1.toNat : Int) = 10) (H : Hid (unescVal s = .tuple #[.string (s.extract 1 2), .int .i64 2])) :
    Calls Try.prog 21 #[.string s] w fun e w' => e = .returned (unescVal s) ∧ w = w' := by
  have hL := letter_any c1
  rw [hl] at hL
  have hc256 := c1.toNat_lt
  have hp2 : (2 : Int) ≤ (s.size : Int) := by omega
  by_cases g1 : (48 : Int) ≤ (c1.toNat : Int)
  · have g2 : ¬ (c1.toNat : Int) ≤ 55 := fun h => by simp [g1, h] at ho
    clear ho
    go_enter Try.func21, Try.ntmps21
    go_wp2_with (go_at_call 55; refine (hL _).mono ?_; rintro e w' ⟨rfl, rfl⟩)
    go_ret2
    exact ⟨by rw [H.out]; rfl, rfl⟩
  · clear ho
    go_enter Try.func21, Try.ntmps21
    go_wp2_with (go_at_call 55; refine (hL _).mono ?_; rintro e w' ⟨rfl, rfl⟩)
    go_ret2
    exact ⟨by rw [H.out]; rfl, rfl⟩

set_option maxHeartbeats 800000 in
set_option maxRecDepth 100000 in
theorem unesc_x (s R R2 : ByteArray) (c0 c1 : UInt8) (w : World) (hs4 : s.size ≤ 400) (hE : s.toList.isEmpty = false) (hp : (0 : Int) < (s.size : Int)) (hp1 : (1 : Int) < (s.size : Int)) (h0 : s[0]'(by omega) = c0) (h1 : s[1]'(by omega) = c1) (hc : (c0.toNat : Int) = 92) (hs : (s.toList == [92]) = false) (hl : letterOf c1 = -1)
    (hR : s.extract 1 s.size = R) (hRp : (0 : Int) < (R.size : Int)) (hR0 : R[0]'(by omega) = c1) (hx : (c1.toNat : Int) = 120) (hR2 : R.extract 1 R.size = R2) (h24 : R2.size ≤ 400) (hk : digsOf 16 (R2.data.toList.take 2) = 0) (H : Hid (unescVal s = .tuple #[.string (s.extract 1 2), .int .i64 2])) :
    Calls Try.prog 21 #[.string s] w fun e w' => e = .returned (unescVal s) ∧ w = w' := by
  have hL := letter_any c1
  rw [hl, hx] at hL
  have hD := fun W => digits_any R2 16 2 W h24 (by omega) (by omega)
  rw [hk] at hD
  have hc256 := c1.toNat_lt
  have hp2 : (2 : Int) ≤ (s.size : Int) := by omega
  have hRp1 : (1 : Int) ≤ (R.size : Int) := by omega
  go_enter Try.func21, Try.ntmps21
  go_wp2_with (first | (go_at_call 55; refine (hL _).mono ?_; rintro e w' ⟨rfl, rfl⟩) | (go_at_call 56; refine (hD _).mono ?_; rintro e w' ⟨rfl, rfl⟩))
  go_ret2
  exact ⟨by rw [H.out]; rfl, rfl⟩

end Go.Proofs.Ytneklmalkmeohaa
