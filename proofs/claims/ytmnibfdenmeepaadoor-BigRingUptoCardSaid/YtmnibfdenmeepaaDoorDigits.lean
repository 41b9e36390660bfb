/- The digits of a number, as the program writes them. -/
import Derived.Test.YtmnibfdenmeepaaDoorChunk
import Derived.Lib.Strings
namespace Go.Proofs.YtmnibfdenmeepaaDoor
open Go.RowKit Go.Shelf Big

theorem Tryd.info5 : (Tryd.prog.info? 5).map (fun i => (i.zero, i.size, i.bytes)) = some (some (.int .u8 0), 1, 1) := by kernel_rfl
theorem conv_own {base : Nat} {v : Value} {l : List UInt8} {w : World} (h : w.ownsRow base 5 1 v l.length (Lib.byteCells l)) : (convert 114 9 v).run Tryd.prog w = .ok (.string ⟨l.toArray⟩) w := by
  rcases h.2 with ⟨rfl, h0⟩ | ⟨g, cap, cur, rfl, _⟩
  · have : l = [] := List.eq_nil_of_length_eq_zero h0
    subst this
    exact run_convert_bytes_nil w 114 5 Tryd.underlying114 Tryd.underlying5 0 0 9 Tryd.underlying9
  · exact run_convert_bytes_back w 114 9 5 ⟨g, 0, none⟩ cap l Tryd.underlying114 Tryd.underlying5 Tryd.underlying9 (fun j hj => h.cells (g := g) rfl j _ (by simp [Lib.byteCells, hj]))
theorem slice_of_own {w : World} {base : Nat} {e : TypeId} {size n : Nat} {v : Value} {xs : List Value} (h : w.ownsRow base e size v n xs) : ∃ ao c, v = .slice ao n c := by
  rcases h.2 with ⟨rfl, rfl⟩ | ⟨g, cap, cur, rfl, _⟩
  · exact ⟨_, _, rfl⟩
  · exact ⟨_, _, rfl⟩
/-- Rows of different types are in different blocks. -/
theorem own_apart {w : World} {B1 B2 n1 n2 : Nat} {v1 v2 : Value} {xs ys : List Value} {s1 s2 : Nat} {e1 e2 : TypeId} (h1 : w.ownsRow B1 e1 s1 v1 n1 xs) (h2 : w.ownsRow B2 e2 s2 v2 n2 ys) (hne : e1 ≠ e2) : v1.ownBlock = none ∨ v1.ownBlock ≠ v2.ownBlock := by
  rcases h1.2 with ⟨rfl, _⟩ | ⟨g, cap, cur, rfl, _, hg, _⟩
  · exact .inl rfl
  · rcases h2.2 with ⟨rfl, _⟩ | ⟨g', cap', cur', rfl, _, hg', _⟩
    · exact .inr (by simp [Value.ownBlock])
    · refine .inr ?_
      intro e
      simp [Value.ownBlock] at e
      subst e
      rw [hg] at hg'
      simp at hg'
      exact hne hg'.2

/-- Turned round up to a place, from both ends. -/
def Rv (L M : List UInt8) (i : Nat) : Prop := M.length = L.length ∧ ∀ k, k < L.length → M[k]? = if k < i ∨ L.length ≤ k + i then L[L.length - 1 - k]? else L[k]?
theorem Rv.start (L : List UInt8) : Rv L L 0 := ⟨rfl, fun k hk => by rw [if_neg (by omega)]⟩
theorem Rv.done {L M : List UInt8} {i : Nat} (h : Rv L M i) (hi : L.length ≤ 2 * i + 1) : M = L.reverse := by
  apply List.ext_getElem?
  intro k
  by_cases hk : k < L.length
  · rw [h.2 k hk, List.getElem?_reverse hk]
    split
    · rfl
    · have : L.length - 1 - k = k := by omega
      rw [this]
  · rw [List.getElem?_eq_none (by rw [h.1]; omega), List.getElem?_eq_none (by simp; omega)]
theorem Rv.step {L M : List UInt8} {i j : Nat} (h : Rv L M i) (hj : i + j + 1 = L.length) (hij : i < j) (a b : UInt8) (ha : M[i]? = some a) (hb : M[j]? = some b) : Rv L ((M.set i b).set j a) (i + 1) := by
  refine ⟨by simp [h.1], ?_⟩
  intro k hk
  have hi := h.2 i (by omega)
  have hjj := h.2 j (by omega)
  rw [if_neg (by omega)] at hi hjj
  rw [ha] at hi
  rw [hb] at hjj
  by_cases k1 : k = j
  · subst k1
    rw [List.getElem?_set_self (by simp [h.1]; omega), if_pos (by omega), show L.length - 1 - k = i by omega]
    exact hi
  · rw [List.getElem?_set_ne (by omega)]
    by_cases k2 : k = i
    · subst k2
      rw [List.getElem?_set_self (by rw [h.1]; omega), if_pos (by omega), show L.length - 1 - k = j by omega]
      exact hjj
    · rw [List.getElem?_set_ne (by omega), h.2 k hk]
      by_cases h1 : k < i ∨ L.length ≤ k + i
      · rw [if_pos h1, if_pos (by omega)]
      · rw [if_neg h1, if_neg (by omega)]

/-- One digit more. -/
theorem lims_more {b c n r : Nat} (hb : 2 ≤ b) (h : 0 < r ∨ 0 < n) : lims b (r + b ^ (c + 1) * n) = r % b :: lims b (r / b + b ^ c * n) := by
  have hp : 0 < b ^ (c + 1) := Nat.pow_pos (by omega)
  have hpos : 0 < r + b ^ (c + 1) * n := by
    rcases h with h | h
    · omega
    · have := Nat.mul_pos hp h; omega
  rw [lims_pos hb hpos]
  have e : r + b ^ (c + 1) * n = r + b * (b ^ c * n) := by rw [Nat.pow_succ, Nat.mul_comm (b ^ c) b, Nat.mul_assoc]
  rw [e, Nat.add_mul_mod_self_left, Nat.add_mul_div_left _ _ (by omega)]

theorem chr_int (d : Nat) (h : d < 36) : ((⟨#[48, 49, 50, 51, 52, 53, 54, 55, 56, 57, 97, 98, 99, 100, 101, 102, 103, 104, 105, 106, 107, 108, 109, 110, 111, 112, 113, 114, 115, 116, 117, 118, 119, 120, 121, 122]⟩ : ByteArray)[d]? ) = some (chr d) := by
  have : ∀ d : Fin 36, ((⟨#[48, 49, 50, 51, 52, 53, 54, 55, 56, 57, 97, 98, 99, 100, 101, 102, 103, 104, 105, 106, 107, 108, 109, 110, 111, 112, 113, 114, 115, 116, 117, 118, 119, 120, 121, 122]⟩ : ByteArray)[d.val]? ) = some (chr d.val) := by decide +kernel
  exact this ⟨d, h⟩
theorem chr_get (d : Nat) (h : d < 36) (h' : d < (⟨#[48, 49, 50, 51, 52, 53, 54, 55, 56, 57, 97, 98, 99, 100, 101, 102, 103, 104, 105, 106, 107, 108, 109, 110, 111, 112, 113, 114, 115, 116, 117, 118, 119, 120, 121, 122]⟩ : ByteArray).size) : (⟨#[48, 49, 50, 51, 52, 53, 54, 55, 56, 57, 97, 98, 99, 100, 101, 102, 103, 104, 105, 106, 107, 108, 109, 110, 111, 112, 113, 114, 115, 116, 117, 118, 119, 120, 121, 122]⟩ : ByteArray)[d]'h' = chr d := by
  have := chr_int d h
  rw [getElem?_pos _ d h'] at this
  exact Option.some.inj this
end Go.Proofs.YtmnibfdenmeepaaDoor
