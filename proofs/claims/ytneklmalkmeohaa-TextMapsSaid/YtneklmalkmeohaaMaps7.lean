/- Long of any texts; mapping a key to itself. -/
import Derived.Test.YtneklmalkmeohaaMaps5
import Derived.Test.YtneklmalkmeohaaLong
namespace Go.Proofs.Ytneklmalkmeohaa
open Go.RowKit Go.Lib

theorem fits_self {l k : List UInt8} (h : fitsKey false l k = true) : k ++ l.drop k.length = l := by
  unfold fitsKey at h
  rw [Bool.and_eq_true] at h
  have h2 := List.isPrefixOf_iff_prefix.1 h.2
  unfold fd at h2
  simp only [Bool.false_eq_true, if_false] at h2
  obtain ⟨m, rfl⟩ := h2
  simp

theorem mapAll_self (k : ByteArray) : ∀ (n : Nat) (out l : List UInt8), l.length ≤ n → out.length + l.length ≤ 65536 → mapAll false [k, k] n out l = some (out ++ l)
  | 0, out, l, hn, _ => by
    have : l = [] := List.eq_nil_of_length_eq_zero (by omega)
    subst this
    simp [mapAll]
  | n + 1, out, [], _, _ => by simp [mapAll]
  | n + 1, out, c :: l, hn, hs => by
    rw [mapAll]
    by_cases hf : fitsKey false (c :: l) k.data.toList = true
    · have e : findPair false (c :: l) [k, k] = some (k.size, k) := by rw [findPair, if_pos hf]
      obtain ⟨h1, h2, _⟩ := findPair_le e
      have hself := fits_self hf
      rw [← Lib.size_eq] at hself
      have hkl : k.data.toList.length = k.size := (Lib.size_eq k).symm
      rw [List.length_cons] at hn hs h2
      rw [e]
      simp only
      rw [if_pos (by rw [List.length_append, hkl]; omega), mapAll_self k n _ _ (by rw [List.length_drop, List.length_cons]; omega) (by rw [List.length_append, List.length_drop, List.length_cons, hkl]; omega), List.append_assoc, hself]
    · have e : findPair false (c :: l) [k, k] = none := by rw [findPair, if_neg hf]; rfl
      rw [List.length_cons] at hn hs
      rw [e]
      simp only
      rw [if_pos (by rw [List.length_append]; simp; omega), mapAll_self k n _ _ (by omega) (by rw [List.length_append]; simp; omega), List.append_assoc]
      rfl

theorem mapVal_self (s k : ByteArray) (hs : s.size ≤ 400) : mapVal s [k, k] false = .tuple #[.string s, .int .i64 0] := by
  unfold mapVal
  rw [if_neg (by simp), mapAll_self k s.size [] s.data.toList (by rw [← Lib.size_eq]; exact Nat.le_refl _) (by rw [← Lib.size_eq]; simp; omega)]
  simp

/-- Whether one of the texts is too long. -/
def anyLong (ps : List ByteArray) : Bool := ps.any fun p => decide (400 < p.size)

set_option maxHeartbeats 800000 in
set_option maxRecDepth 100000 in
theorem long_all (ps : List ByteArray) (ao : Option Addr) (cap : Nat) (w : World) (hP : Strs w ao ps) (hn : ps.length ≤ 20) :
    Calls Try.prog 9 #[.slice ao ps.length cap] w fun e w' => e = .returned (.bool (anyLong ps)) ∧ w = w' := by
  have h0 : (0 : Int) ≤ (ps.length : Int) := by omega
  go_enter Try.func9, Try.ntmps9
  go_wp2_with fail
  go_loopg [7] ps.length (fun g v wx => ∃ k : Nat, v = .int .i64 k ∧ k + g = ps.length ∧ (∀ q (h : q < ps.length), q < k → ps[q].size ≤ 400) ∧ w = wx)
  case atStart => exact ⟨0, rfl, by omega, fun q h hq => by omega, rfl⟩
  case round =>
    obtain ⟨k, rfl, hkg, hno, rfl⟩ := hrel
    by_cases hk : k < ps.length
    · have hk1 : (k : Int) < (ps.length : Int) := by omega
      have hk0 : (0 : Int) ≤ (k : Int) := by omega
      obtain ⟨ad, rfl, hc⟩ := hP k hk
      obtain ⟨p, hp⟩ : ∃ p, ps[k] = p := ⟨_, rfl⟩
      rw [hp] at hc
      by_cases h4 : 400 < p.size
      · have h41 : (p.size : Int) > 400 := by omega
        have H := Lib.hid (show anyLong ps = true by
          unfold anyLong
          rw [List.any_eq_true]
          exact ⟨p, hp ▸ List.getElem_mem hk, by simpa using h4⟩)
        clear hno hp
        go_wp2
        go_ret
        exact ⟨by rw [H.out]; rfl, rfl⟩
      · have h41 : ¬ (p.size : Int) > 400 := by omega
        have HNO := Lib.hid (show ∀ q (h : q < ps.length), q < k + 1 → ps[q].size ≤ 400 from fun q h hq => by
          rcases Nat.lt_succ_iff_lt_or_eq.1 hq with h1 | h1
          · exact hno q h h1
          · subst h1
            rw [hp]
            omega)
        clear hno hp
        obtain ⟨g, rfl⟩ : ∃ g, gk = g + 1 := ⟨gk - 1, by omega⟩
        go_wp2
        go_roundg g
        case measure => omega
        case rel => exact ⟨k + 1, rfl, by omega, HNO.out, rfl⟩
    · have hk1 : ¬ (k : Int) < (ps.length : Int) := by omega
      have H := Lib.hid (show anyLong ps = false by
        unfold anyLong
        rw [List.any_eq_false]
        intro p hp
        obtain ⟨q, hq, rfl⟩ := List.getElem_of_mem hp
        have := hno q hq (by omega)
        simpa using this)
      clear hno
      go_wp2
      go_ret
      exact ⟨by rw [H.out]; rfl, rfl⟩
end Go.Proofs.Ytneklmalkmeohaa
