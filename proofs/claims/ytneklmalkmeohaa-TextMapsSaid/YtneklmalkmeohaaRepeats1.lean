/- Repeat, of the program and of the reference; long; Replace. -/
import Derived.Test.YtneklmalkmeohaaRepeat
import Derived.Test.YtneklmalkmeohaaFinds3
import Derived.Lib.AppendStr
import Derived.Deep.LoopGhost
namespace Go.Proofs.Ytneklmalkmeohaa
open Go.RowKit Go.Lib

/-- The copies of a text: none if they are too long. -/
def repText (l : List UInt8) (n : Int) : List UInt8 := if 65536 < n.toNat * l.length then [] else repeatL l n.toNat
def repErr (l : List UInt8) (n : Int) : Int := if 65536 < n.toNat * l.length then 4 else 0
/-- A text, or none if it is too long. -/
def longText (l : List UInt8) : List UInt8 := if 65536 < l.length then [] else l
def longErr (l : List UInt8) : Int := if 65536 < l.length then 4 else 0

theorem long_any (S : ByteArray) (w : World) :
    Calls Try.prog 68 #[.string S] w fun e w' => e = .returned (.tuple #[.string ⟨(longText S.data.toList).toArray⟩, .int .i64 (longErr S.data.toList)]) ∧ w = w' := by
  have hz : S.data.toList.length = S.size := (Lib.size_eq S).symm
  by_cases h : 65536 < S.size
  · have h1 : (65536 : Int) < (S.size : Int) := by omega
    have H := Lib.hid (show longText S.data.toList = [] by unfold longText; rw [hz, if_pos h])
    have H2 := Lib.hid (show longErr S.data.toList = 4 by unfold longErr; rw [hz, if_pos h])
    clear hz h
    go_enter Try.func68, Try.ntmps68
    go_wp2
    go_ret2
    exact ⟨by rw [H.out, H2.out]; rfl, rfl⟩
  · have h1 : ¬ (65536 : Int) < (S.size : Int) := by omega
    have H := Lib.hid (show longText S.data.toList = S.data.toList by unfold longText; rw [hz, if_neg h])
    have H2 := Lib.hid (show longErr S.data.toList = 0 by unfold longErr; rw [hz, if_neg h])
    clear hz h
    go_enter Try.func68, Try.ntmps68
    go_wp2
    go_ret2
    exact ⟨by rw [H.out, H2.out]; rfl, rfl⟩

theorem conv_own {base : Nat} {v : Value} {l : List UInt8} {w : World} (h : w.ownsRow base 5 1 v l.length (byteCells l)) : (convert 56 9 v).run Try.prog w = .ok (.string ⟨l.toArray⟩) w := by
  rcases h.2 with ⟨rfl, h0⟩ | ⟨g, cap, cur, rfl, _⟩
  · have : l = [] := List.eq_nil_of_length_eq_zero h0
    subst this
    exact run_convert_bytes_nil w 56 5 Try.underlying56 Try.underlying5 0 0 9 Try.underlying9
  · exact run_convert_bytes_back w 56 9 5 ⟨g, 0, none⟩ cap l Try.underlying56 Try.underlying5 Try.underlying9 (fun j hj => h.cells (g := g) rfl j _ (by simp [byteCells, hj]))

set_option maxHeartbeats 800000 in
set_option maxRecDepth 100000 in
theorem repeat_any (s : ByteArray) (n : Int) (w : World) (hs : s.size ≤ 400) :
    Calls Try.prog 39 #[.string s, .int .i64 n] w fun e w' => e = .returned (.tuple #[.string ⟨(repText s.data.toList n).toArray⟩, .int .i64 (repErr s.data.toList n)]) ∧ Below w.heap.size w w' := by
  by_cases hn : n < 1
  · have hz : n.toNat = 0 := by omega
    have H := Lib.hid (show repText s.data.toList n = [] by unfold repText; rw [hz]; simp [repeatL])
    have H2 := Lib.hid (show repErr s.data.toList n = 0 by unfold repErr; rw [hz]; simp)
    clear hz
    go_enter Try.func39, Try.ntmps39
    go_wp2
    go_ret2
    exact ⟨by rw [H.out, H2.out]; rfl, Below.refl _ _⟩
  by_cases hE : s.toList.isEmpty = true
  · have hnil := (empty_iff s).1 hE
    have H := Lib.hid (show repText s.data.toList n = [] by unfold repText; rw [hnil]; simp [repeatL_nil])
    have H2 := Lib.hid (show repErr s.data.toList n = 0 by unfold repErr; rw [hnil]; simp)
    clear hnil
    go_enter Try.func39, Try.ntmps39
    go_wp2
    go_ret2
    exact ⟨by rw [H.out, H2.out]; rfl, Below.refl _ _⟩
  have hE' : s.toList.isEmpty = false := by simpa using hE
  have hpos : 0 < s.size := by
    rcases Nat.eq_zero_or_pos s.size with h | h
    · exact absurd ((empty_iff s).2 (List.eq_nil_of_length_eq_zero (by rw [← Lib.size_eq]; exact h))) hE
    · exact h
  clear hE
  obtain ⟨c, rfl⟩ : ∃ c : Nat, n = c := ⟨n.toNat, by omega⟩
  have hlen : s.data.toList.length = s.size := (Lib.size_eq s).symm
  have hquo : (65536 : Int) / (s.size : Int) = ((65536 / s.size : Nat) : Int) := by rw [Int.natCast_ediv]; rfl
  by_cases hbig : 65536 < c * s.size
  · have hgt : (c : Int) > 65536 / (s.size : Int) := by
      rw [hquo]
      have := (Nat.div_lt_iff_lt_mul hpos).2 hbig
      omega
    have H := Lib.hid (show repText s.data.toList c = [] by unfold repText; rw [hlen, Int.toNat_natCast, if_pos hbig])
    have H2 := Lib.hid (show repErr s.data.toList c = 4 by unfold repErr; rw [hlen, Int.toNat_natCast, if_pos hbig])
    clear hlen hquo
    go_enter Try.func39, Try.ntmps39
    go_wp2
    go_ret2
    exact ⟨by rw [H.out, H2.out]; rfl, Below.refl _ _⟩
  · have hle : ¬ (c : Int) > 65536 / (s.size : Int) := by
      rw [hquo]
      have := Nat.not_lt.1 (fun h => hbig ((Nat.div_lt_iff_lt_mul hpos).1 h))
      omega
    have H := Lib.hid (show repText s.data.toList c = repeatL s.data.toList c by unfold repText; rw [hlen, Int.toNat_natCast, if_neg hbig])
    have H2 := Lib.hid (show repErr s.data.toList c = 0 by unfold repErr; rw [hlen, Int.toNat_natCast, if_neg hbig])
    have hrep : Calls Try.prog 67 #[.string s, .int .i64 c] w fun e w' => e = .returned (.string ⟨(repeatL s.data.toList c).toArray⟩) ∧ Below w.heap.size w w' := by
      by_cases h1 : c = 1
      · subst h1
        exact (repeat_one s w).mono fun e w' ⟨he, hw⟩ => ⟨by rw [he, repeatL_one], hw ▸ Below.refl _ _⟩
      · exact repeat_main s c w (by omega) (by rw [Nat.mul_comm]; omega) hpos
    clear hlen hquo
    go_enter Try.func39, Try.ntmps39
    go_wp2_with (go_at_call 67; refine hrep.mono ?_; rintro e w' ⟨rfl, hb⟩)
    go_ret2
    exact ⟨by rw [H.out, H2.out]; rfl, hb⟩
end Go.Proofs.Ytneklmalkmeohaa
