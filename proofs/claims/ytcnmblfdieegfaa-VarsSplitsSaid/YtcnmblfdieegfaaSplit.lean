/- Split: what the program answers. -/
import Derived.Test.YtcnmblfdieegfaaShelf
import Derived.Test.YtcnmblfdieegfaaBase
import Derived.Lib.IndexBytes
namespace Go.Proofs.Ytcnmblfdieegfaa
open Go.RowKit Go.Lib

/-- The first round bracket; whether the word is that of an element; what Split hands on. -/
def openOf (s : ByteArray) : Int := indexByte s.data.toList 40
def isElem (s : ByteArray) : Bool := decide (0 ≤ openOf s) && (s.data.toList.getLast? == some 41)
def splitVal (s : ByteArray) : Value :=
  if isElem s = true then .tuple #[.string (s.extract 0 (openOf s).toNat), .string (s.extract ((openOf s).toNat + 1) (s.size - 1)), .bool true] else .tuple #[.string s, .string ⟨#[]⟩, .bool false]

theorem open_any (s : ByteArray) (w : World) : Calls Try.prog 26 #[.string s, .int .u8 40] w fun e w' => e = .returned (.int .i64 (openOf s)) ∧ w = w' :=
  (Try.strings_IndexByte s 40 w).mono fun _ _ ⟨he, hw⟩ => ⟨he, hw.symm⟩

theorem open_lt {s : ByteArray} {k : Nat} (h : openOf s = k) : k < s.size := by
  have := (indexByte_some h).1
  rw [Lib.size_eq]
  exact (List.getElem?_eq_some_iff.1 this).1

theorem last_at (s : ByteArray) (j : Nat) (h : s.size = j + 1) : s.data.toList.getLast? = some (s[j]'(by omega)) := by
  have hl : s.data.toList.length = j + 1 := by rw [← Lib.size_eq]; exact h
  rw [List.getLast?_eq_getElem?, hl, Nat.add_sub_cancel, List.getElem?_eq_getElem (by omega)]
  rfl

set_option maxHeartbeats 800000 in
set_option maxRecDepth 100000 in
theorem split_any (s : ByteArray) (w : World) (hs : s.size ≤ 400) :
    Calls Try.prog 6 #[.string s] w fun e w' => e = .returned (splitVal s) ∧ ∃ n, w' = w.drewN n := by
  have hO := fun W => open_any s W
  have hge := indexByte_ge s.data.toList 40
  have hge' : -1 ≤ openOf s := hge
  by_cases hn : openOf s < 0
  · have hm : openOf s = -1 := by omega
    have H := Lib.hid (show splitVal s = .tuple #[.string s, .string ⟨#[]⟩, .bool false] by unfold splitVal isElem; rw [hm]; simp)
    rw [hm] at hO
    clear hge hge' hn hm
    go_enter Try.func6, Try.ntmps6
    go_wp2_with (go_at_call 26; refine (hO _).mono ?_; rintro e w' ⟨rfl, rfl⟩)
    go_ret3
    exact ⟨by rw [H.out]; rfl, 0, rfl⟩
  · have hp : 0 ≤ openOf s := by omega
    obtain ⟨k, hk⟩ : ∃ k : Nat, openOf s = k := ⟨(openOf s).toNat, by omega⟩
    have hlt := open_lt hk
    obtain ⟨j, hj⟩ : ∃ j, s.size = j + 1 := ⟨s.size - 1, by omega⟩
    have hjl : j < s.size := by omega
    have hla := last_at s j hj
    obtain ⟨c, hc⟩ : ∃ c, s[j]'hjl = c := ⟨_, rfl⟩
    rw [hc] at hla
    rw [hk] at hO
    have hp0 : (0 : Int) ≤ (j : Int) := by omega
    have hp1 : (j : Int) < (s.size : Int) := by omega
    have hp2 : (s.size : Int) - 1 = (j : Int) := by omega
    have hpw : wrap64 (j : Int) = (j : Int) := by unfold wrap64; omega
    have hc256 := c.toNat_lt
    by_cases h41 : c.toNat = 41
    · have h41' : (c.toNat : Int) = 41 := by omega
      have hc41 : c = 41 := UInt8.toNat_inj.1 h41
      have H := Lib.hid (show splitVal s = .tuple #[.string (s.extract 0 k), .string (s.extract (k + 1) j), .bool true] by
        unfold splitVal isElem
        rw [hla, hk, hc41]
        simp [hj])
      have hkj : k ≠ j := by
        rintro rfl
        have h1 := (indexByte_some hk).1
        have hl : s.data.toList.length = k + 1 := by rw [← Lib.size_eq]; exact hj
        rw [List.getElem?_eq_getElem (by omega)] at h1
        have h2 : s[k] = 40 := Option.some.inj h1
        rw [hc, hc41] at h2
        exact absurd h2 (by decide)
      have HC := Lib.hid hc
      have hk0 : ¬ (k : Int) < 0 := by omega
      have hk1 : (0 : Int) ≤ (k : Int) := by omega
      have hk2 : (k : Int) ≤ (s.size : Int) := by omega
      have hk3 : (k : Int) + 1 ≤ (j : Int) := by omega
      have hk4 : (0 : Int) ≤ (k : Int) + 1 := by omega
      have hk5 : (j : Int) ≤ (s.size : Int) := by omega
      have hk6 : ((k : Int) + 1).toNat = k + 1 := by omega
      clear hge hge' hp hn hk hla hj h41 hc41 hkj
      go_enter Try.func6, Try.ntmps6
      go_wp2_with (go_at_call 26; refine (hO _).mono ?_; rintro e w' ⟨rfl, rfl⟩)
      go_region
      go_wp2
      go_ret3
      exact ⟨by rw [H.out]; rfl, 1, rfl⟩
    · have h41' : ¬ (c.toNat : Int) = 41 := by omega
      have hc41 : ¬ c = 41 := fun h => h41 (by rw [h]; rfl)
      have H := Lib.hid (show splitVal s = .tuple #[.string s, .string ⟨#[]⟩, .bool false] by
        unfold splitVal isElem
        rw [hla, hk]
        simp [hc41])
      have HC := Lib.hid hc
      have HN := Lib.hid (show ((c.toNat : Int) != 41) = true by simpa using h41')
      have hk0 : ¬ (k : Int) < 0 := by omega
      clear hge hge' hp hk hla hj h41 hc41
      go_enter Try.func6, Try.ntmps6
      go_wp2_with (go_at_call 26; refine (hO _).mono ?_; rintro e w' ⟨rfl, rfl⟩)
      all_goals first | (go_ret3; exact ⟨by rw [H.out]; rfl, 0, rfl⟩) | (exfalso; rename_i h _ _; simp [HN.out] at h)
end Go.Proofs.Ytcnmblfdieegfaa
