/- Split of the reference. -/
import Derived.Test.YtcnmblfdieegfaaSplit
import Derived.Test.YtcnmblfdieegfaaFirst
namespace Go.Proofs.Ytcnmblfdieegfaa
open Go.RowKit Go.Lib

theorem first_open (l : List UInt8) : firstOf l [40] 0 = indexByte l 40 := by
  unfold firstOf
  rw [if_neg (by simp)]
  have hi := indexByte_ge l 40
  simp only [Int.toNat_zero, List.drop_zero, index_one]
  split <;> omega

theorem refOpen_any (s : ByteArray) (w : World) (hs : s.size ≤ 400) : Calls Try.prog 27 #[.string ⟨#[40]⟩, .string s, .int .i64 0] w fun e w' => e = .returned (.int .i64 (openOf s)) ∧ w = w' :=
  (refFirst_any ⟨#[40]⟩ s 0 w (by decide) hs).mono fun _ _ ⟨he, hw⟩ => ⟨by rw [he]; exact congrArg (fun x => Ending.returned (Value.int .i64 x)) (first_open _), hw⟩

set_option maxHeartbeats 800000 in
set_option maxRecDepth 100000 in
theorem refSplit_any (s : ByteArray) (w : World) (hs : s.size ≤ 400) :
    Calls Try.prog 7 #[.string s] w fun e w' => e = .returned (splitVal s) ∧ ∃ n, w' = w.drewN n := by
  have hO := fun W => refOpen_any s W hs
  have hge := indexByte_ge s.data.toList 40
  have hge' : -1 ≤ openOf s := hge
  by_cases hn : openOf s < 0
  · have hm : openOf s = -1 := by omega
    have H := Lib.hid (show splitVal s = .tuple #[.string s, .string ⟨#[]⟩, .bool false] by unfold splitVal isElem; rw [hm]; simp)
    rw [hm] at hO
    clear hge hge' hn hm
    go_enter Try.func7, Try.ntmps7
    go_wp2_with (go_at_call 27; refine (hO _).mono ?_; rintro e w' ⟨rfl, rfl⟩)
    go_ret3
    exact ⟨by rw [H.out]; rfl, 0, rfl⟩
  · have hp : 0 ≤ openOf s := by omega
    obtain ⟨k, hk⟩ : ∃ k : Nat, openOf s = k := ⟨(openOf s).toNat, by omega⟩
    have hlt := open_lt hk
    obtain ⟨j, hj⟩ : ∃ j, s.size = j + 1 := ⟨s.size - 1, by omega⟩
    have hjl : j < s.size := by omega
    have hla := last_at s j hj
    obtain ⟨c, hc⟩ : ∃ c, s[j]'hjl = c := ⟨_, rfl⟩
    rw [hc] at hla
    rw [hk] at hO
    have hp0 : (0 : Int) ≤ (j : Int) := by omega
    have hp1 : (j : Int) < (s.size : Int) := by omega
    have hp2 : (s.size : Int) - 1 = (j : Int) := by omega
    have hpw : wrap64 (j : Int) = (j : Int) := by unfold wrap64; omega
    have hc256 := c.toNat_lt
    by_cases h41 : c.toNat = 41
    · have h41' : (c.toNat : Int) = 41 := by omega
      have hc41 : c = 41 := UInt8.toNat_inj.1 h41
      have H := Lib.hid (show splitVal s = .tuple #[.string (s.extract 0 k), .string (s.extract (k + 1) j), .bool true] by
        unfold splitVal isElem
        rw [hla, hk, hc41]
        simp [hj])
      have hkj : k ≠ j := by
        rintro rfl
        have h1 := (indexByte_some hk).1
        have hl : s.data.toList.length = k + 1 := by rw [← Lib.size_eq]; exact hj
        rw [List.getElem?_eq_getElem (by omega)] at h1
        have h2 : s[k] = 40 := Option.some.inj h1
        rw [hc, hc41] at h2
        exact absurd h2 (by decide)
      have HC := Lib.hid hc
      have hk0 : ¬ (k : Int) < 0 := by omega
      have hk1 : (0 : Int) ≤ (k : Int) := by omega
      have hk2 : (k : Int) ≤ (s.size : Int) := by omega
      have hk3 : (k : Int) + 1 ≤ (j : Int) := by omega
      have hk4 : (0 : Int) ≤ (k : Int) + 1 := by omega
      have hk5 : (j : Int) ≤ (s.size : Int) := by omega
      have hk6 : ((k : Int) + 1).toNat = k + 1 := by omega
      clear hge hge' hp hn hk hla hj h41 hc41 hkj
      go_enter Try.func7, Try.ntmps7
      go_wp2_with (go_at_call 27; refine (hO _).mono ?_; rintro e w' ⟨rfl, rfl⟩)
      go_region
      go_wp2
      go_ret3
      exact ⟨by rw [H.out]; rfl, 1, rfl⟩
    · have h41' : ¬ (c.toNat : Int) = 41 := by omega
      have hc41 : ¬ c = 41 := fun h => h41 (by rw [h]; rfl)
      have H := Lib.hid (show splitVal s = .tuple #[.string s, .string ⟨#[]⟩, .bool false] by
        unfold splitVal isElem
        rw [hla, hk]
        simp [hc41])
      have HC := Lib.hid hc
      have HN := Lib.hid (show ((c.toNat : Int) != 41) = true by simpa using h41')
      have hk0 : ¬ (k : Int) < 0 := by omega
      clear hge hge' hp hk hla hj h41 hc41
      go_enter Try.func7, Try.ntmps7
      go_wp2_with (go_at_call 27; refine (hO _).mono ?_; rintro e w' ⟨rfl, rfl⟩)
      all_goals first | (go_ret3; exact ⟨by rw [H.out]; rfl, 0, rfl⟩) | (exfalso; rename_i h _ _; simp [HN.out] at h)
end Go.Proofs.Ytcnmblfdieegfaa
