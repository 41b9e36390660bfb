/- has, Trim of the reference. -/
import Derived.Test.YtneklmalkmeohaaForms2
namespace Go.Proofs.Ytneklmalkmeohaa
open Go.RowKit Go.Lib

/-- Whether a text has a byte. -/
def hasOf (l : List UInt8) (c : UInt8) : Bool := decide (c ∈ l)

set_option maxHeartbeats 1600000 in
set_option maxRecDepth 100000 in
theorem has_any (s : ByteArray) (c : UInt8) (w : World) (hs : s.size ≤ 400) :
    Calls Try.prog 64 #[.string s, .int .u8 (c.toNat : Int)] w fun e w' => e = .returned (.bool (hasOf s.data.toList c)) ∧ w = w' := by
  have hlen : s.data.toList.length = s.size := (Lib.size_eq s).symm
  go_enter Try.func64, Try.ntmps64
  go_wp2
  go_loopg [8] s.size (fun g v wx => ∃ k : Nat, v = .int .i64 k ∧ k + g = s.size ∧ c ∉ s.data.toList.take k ∧ w = wx)
  case atStart => exact ⟨0, rfl, by omega, by simp, rfl⟩
  case round =>
    obtain ⟨k, rfl, hkg, hno, rfl⟩ := hrel
    by_cases hk : k < s.size
    · have hk1 : (k : Int) < (s.size : Int) := by omega
      have hk0 : (0 : Int) ≤ (k : Int) := by omega
      have hl : k < s.data.toList.length := by omega
      by_cases he : s[k] = c
      · have H := Lib.hid (show hasOf s.data.toList c = true by
          unfold hasOf
          simp only [decide_eq_true_eq]
          rw [← he]
          exact List.getElem_mem hl)
        have hq : ((s[k].toNat : Int) == (c.toNat : Int)) = true := by rw [he]; simp
        clear hno
        go_wp2
        go_ret
        exact ⟨by rw [H.out]; rfl, rfl⟩
      · have hq : ((s[k].toNat : Int) == (c.toNat : Int)) = false := by
          simp only [beq_eq_false_iff_ne, ne_eq]
          intro h
          exact he (UInt8.toNat_inj.1 (by omega))
        have HN := Lib.hid (show c ∉ s.data.toList.take (k + 1) by
          rw [List.take_succ_eq_append_getElem hl]
          simp only [List.mem_append, List.mem_singleton, not_or]
          exact ⟨hno, fun h => he h.symm⟩)
        obtain ⟨g, rfl⟩ : ∃ g, gk = g + 1 := ⟨gk - 1, by omega⟩
        clear hno
        go_wp2
        go_roundg g
        case measure => omega
        case rel => exact ⟨k + 1, rfl, by omega, HN.out, rfl⟩
    · have hk1 : ¬ (k : Int) < (s.size : Int) := by omega
      have H := Lib.hid (show hasOf s.data.toList c = false by
        unfold hasOf
        rw [List.take_of_length_le (by omega)] at hno
        simpa using hno)
      clear hno
      go_wp2
      go_ret
      exact ⟨by rw [H.out]; rfl, rfl⟩
end Go.Proofs.Ytneklmalkmeohaa
