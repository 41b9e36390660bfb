/- The length of a number in bits; whether it has too many digits. -/
import Derived.Test.YtmnibfdenmeepaaDoorReadP
import Derived.Test.YtmnibfdenmeepaaDoorShelf
namespace Go.Proofs.YtmnibfdenmeepaaDoor
open Go.RowKit Go.Shelf Big

theorem bitLen_aux : ∀ (f x : Nat), x < 2 ^ f → x < 2 ^ Lib.bitLenAux f x ∧ (0 < x → 2 ^ (Lib.bitLenAux f x - 1) ≤ x ∧ 0 < Lib.bitLenAux f x) ∧ Lib.bitLenAux f x ≤ f
  | 0, x, h => by
    have : x = 0 := by simpa using h
    subst this
    simp [Lib.bitLenAux]
  | f + 1, x, h => by
    rw [Lib.bitLenAux]
    by_cases h0 : x = 0
    · subst h0; simp
    · rw [if_neg h0]
      have ⟨a, b, c⟩ := bitLen_aux f (x / 2) (by rw [Nat.pow_succ] at h; omega)
      refine ⟨?_, ?_, by omega⟩
      · rw [Nat.add_comm 1, Nat.pow_succ]; omega
      · intro _
        refine ⟨?_, by omega⟩
        rw [Nat.add_sub_cancel_left]
        by_cases hx : 0 < x / 2
        · obtain ⟨b1, b2⟩ := b hx
          have e : Lib.bitLenAux f (x / 2) = (Lib.bitLenAux f (x / 2) - 1) + 1 := by omega
          rw [e, Nat.pow_succ]
          omega
        · have : x / 2 = 0 := by omega
          rw [this]
          have hz : Lib.bitLenAux f 0 = 0 := by cases f <;> simp [Lib.bitLenAux]
          rw [hz]
          simp
          omega
theorem bitLen_is (x : Nat) (h : x < 4294967296) (h0 : 0 < x) : x < 2 ^ Lib.bitLen x ∧ 2 ^ (Lib.bitLen x - 1) ≤ x ∧ 0 < Lib.bitLen x ∧ Lib.bitLen x ≤ 32 := by
  have ⟨a, b, _⟩ := bitLen_aux 64 x (by omega)
  obtain ⟨b1, b2⟩ := b h0
  refine ⟨a, b1, b2, ?_⟩
  rcases Nat.lt_or_ge 32 (Lib.bitLen x) with hl | hl
  · have : 2 ^ 32 ≤ 2 ^ (Lib.bitLen x - 1) := Nat.pow_le_pow_right (by omega) (by omega)
    have hb1 : 2 ^ (Lib.bitLen x - 1) ≤ x := b1
    omega
  · exact hl

/-- How many bits a number has. -/
def blen (n : Nat) : Nat := if n = 0 then 0 else Nat.log2 n + 1
theorem blen_eq {n L : Nat} (h1 : n < 2 ^ L) (h2 : 2 ^ (L - 1) ≤ n) (h0 : 0 < n) (hL : 0 < L) : blen n = L := by
  unfold blen
  rw [if_neg (by omega)]
  have := (Nat.log2_eq_iff (n := n) (k := L - 1) (by omega)).2 ⟨h2, by rw [Nat.sub_add_cancel hL]; exact h1⟩
  omega
theorem blen_lt (n : Nat) : n < 2 ^ blen n := by
  unfold blen
  split
  · rename_i h; subst h; decide
  · rename_i h
    exact ((Nat.log2_eq_iff h).1 rfl).2
theorem blen_ge {n : Nat} (h : 0 < n) : 2 ^ (blen n - 1) ≤ n := by
  unfold blen
  rw [if_neg (by omega), Nat.add_sub_cancel]
  exact ((Nat.log2_eq_iff (by omega)).1 rfl).1
theorem blen_len {n k : Nat} (h : (lims 4294967296 n).length ≤ k) : blen n ≤ 32 * k := by
  rcases Nat.eq_zero_or_pos n with rfl | hn
  · simp [blen]
  · have h1 := (lims_len_le w32_ge n _).1 h
    have h2 := blen_ge hn
    rcases Nat.lt_or_ge (32 * k) (blen n) with h3 | h3
    · have e : (4294967296 : Nat) ^ k = 2 ^ (32 * k) := by rw [Nat.pow_mul]
      rw [e] at h1
      have h4 : 2 ^ (32 * k) ≤ 2 ^ (blen n - 1) := Nat.pow_le_pow_right (by omega) (by omega)
      exact absurd (Nat.lt_of_lt_of_le h1 (Nat.le_trans h4 h2)) (Nat.lt_irrefl _)
    · exact h3
theorem blen_le {n : Nat} (h : (lims 4294967296 n).length ≤ 100000) : blen n ≤ 3200000 := blen_len h
set_option maxRecDepth 100000 in
set_option maxHeartbeats 800000 in
theorem length_any (B n : Nat) (v : Value) (w : World) (h : NatIs w B v n) (hl : (lims 4294967296 n).length ≤ 100000) :
    Calls Tryd.prog 115 #[v] w fun e w' => e = .returned (.int .i64 (blen n : Int)) ∧ w = w' := by
  rcases Nat.eq_zero_or_pos n with rfl | hn
  · obtain ⟨ao, c, rfl⟩ := h.slice
    rw [lims_zero]
    go_enter Tryd.func115, Tryd.ntmps115
    go_wp2
    go_ret
    exact ⟨rfl, rfl⟩
  · obtain ⟨ao, c, rfl, hr⟩ := h.reads hl
    have hne : lims 4294967296 n ≠ [] := fun e => by have := (lims_nil w32_ge).1 e; omega
    have hlast := lims_last w32_ge n hne
    have hsm := lims_lt w32_ge n
    have hev := ev_lims w32_ge n
    have htake := ev_take_succ 4294967296 (lims 4294967296 n) ((lims 4294967296 n).length - 1)
    have hlow := ev_take_lt (B := 4294967296) (by decide) hsm ((lims 4294967296 n).length - 1)
    have hgetl := lims_getD w32_ge n ((lims 4294967296 n).length - 1)
    have hpos : 0 < (lims 4294967296 n).length := List.length_pos_iff.2 hne
    rw [Nat.sub_add_cancel hpos, List.take_length, hev] at htake
    have htop : (lims 4294967296 n).getD ((lims 4294967296 n).length - 1) 0 = (lims 4294967296 n).getLast hne := by
      rw [List.getD_eq_getElem?_getD, List.getElem?_eq_getElem (by omega), List.getLast_eq_getElem]; rfl
    rw [htop] at htake hgetl
    have htl := hsm _ (List.getLast_mem hne)
    revert hlast htake hlow hgetl htl hpos hr hl
    generalize (lims 4294967296 n).getLast hne = top
    generalize ev 4294967296 (List.take ((lims 4294967296 n).length - 1) (lims 4294967296 n)) = low
    generalize (lims 4294967296 n).length = la
    intro hl hr hlast htake hlow hgetl hpos htl
    obtain ⟨g, rfl, hg, hc⟩ := hr.2.1 (la - 1) (by omega)
    rw [← hgetl] at hc
    obtain ⟨b1, b2, b3, b4⟩ := bitLen_is top htl (by omega)
    have HL := Lib.hid (show n < 2 ^ (32 * (la - 1) + Lib.bitLen top) ∧ 2 ^ (32 * (la - 1) + Lib.bitLen top - 1) ≤ n by
      have e : (4294967296 : Nat) ^ (la - 1) = 2 ^ (32 * (la - 1)) := by rw [Nat.pow_mul]
      rw [e] at htake hlow
      have e2 : 32 * (la - 1) + Lib.bitLen top - 1 = 32 * (la - 1) + (Lib.bitLen top - 1) := by omega
      rw [e2, Nat.pow_add, Nat.pow_add]
      have h1 : 2 ^ (32 * (la - 1)) * (top + 1) ≤ 2 ^ (32 * (la - 1)) * 2 ^ Lib.bitLen top := Nat.mul_le_mul_left _ b1
      have h2 : 2 ^ (32 * (la - 1)) * 2 ^ (Lib.bitLen top - 1) ≤ 2 ^ (32 * (la - 1)) * top := Nat.mul_le_mul_left _ b2
      rw [Nat.mul_add, Nat.mul_one] at h1
      omega)
    have hlz := Tryd.bits_LeadingZeros32 (top : Int) w (by omega) (by omega)
    rw [Int.toNat_natCast] at hlz
    obtain ⟨bl, hbl⟩ : ∃ bl, Lib.bitLen top = bl := ⟨_, rfl⟩
    rw [hbl] at HL hlz b3 b4
    have hi1 : (la : Int) - 1 = ((la - 1 : Nat) : Int) := by omega
    obtain ⟨k, hk⟩ : ∃ k, la - 1 = k := ⟨_, rfl⟩
    rw [hk] at hi1 hc HL
    have hk2 : (k : Int) < (la : Int) := by omega
    have hlE : ((la : Int) == 0) = false := by simp; omega
    have hfin : 32 * (la : Int) - (32 - (bl : Int)) = ((32 * k + bl : Nat) : Int) := by omega
    have HF := Lib.hid hfin
    have HB := Lib.hid (blen_eq HL.out.1 HL.out.2 hn (by omega))
    have Hi1 := Lib.hid hi1
    have HZ := Lib.hid hlz
    clear hfin hlz htake hlow hgetl hbl b1 b2 hk hr htop hev h hsm hlast htl
    go_enter Tryd.func115, Tryd.ntmps115
    go_wp2_with (go_at_call 130; refine HZ.out.mono ?_; rintro e w' ⟨rfl, rfl⟩)
    go_ret
    refine ⟨?_, rfl⟩
    rw [HB.out, ← HF.out]
    rfl

/-- The least number that has more digits than a number may have. -/
def k600 : Nat := 600
def k1987 : Nat := 1987
def k2008 : Nat := 2008
def lim600 : Nat := 10 ^ k600
def tooL (n : Nat) : Bool := decide (lim600 ≤ n)
theorem tooL_digs {n : Nat} (hn : 0 < n) : (600 < (digs 10 n).length) ↔ tooL n = true := by
  have h : (digs 10 n).length = (lims 10 n).length := by unfold digs; rw [if_neg (by omega)]; simp
  have h2 := lims_len_le (B := 10) (by omega) n k600
  have h3 : (10 : Nat) ^ k600 = lim600 := rfl
  have h4 : k600 = 600 := rfl
  rw [h3] at h2
  unfold tooL
  rw [h, decide_eq_true_eq]
  omega
theorem p1 : 2 ^ k1987 ≤ lim600 := by decide +kernel
theorem p2 : lim600 ≤ 2 ^ k2008 := by decide +kernel
theorem tooL_short {n L : Nat} (h : n < 2 ^ L) (hL : L ≤ 1987) : tooL n = false := by
  have h1 : 2 ^ L ≤ 2 ^ k1987 := Nat.pow_le_pow_right (by omega) hL
  exact decide_eq_false (Nat.not_le.2 (Nat.lt_of_lt_of_le h (Nat.le_trans h1 p1)))
theorem tooL_long {n L : Nat} (h : 2 ^ (L - 1) ≤ n) (hL : 2009 ≤ L) : tooL n = true := by
  have h1 : 2 ^ k2008 ≤ 2 ^ (L - 1) := Nat.pow_le_pow_right (by omega) (by unfold k2008; omega)
  exact decide_eq_true (Nat.le_trans p2 (Nat.le_trans h1 h))
theorem lims10_len {n L : Nat} (h : n < 2 ^ L) (hL : L ≤ 4000000) : (lims 10 n).length ≤ 4000000 := by
  have h1 : n < 10 ^ L := Nat.lt_of_lt_of_le h (Nat.pow_le_pow_left (by omega) L)
  have := (lims_len_le (B := 10) (by omega) n L).2 h1
  omega
/-- What tooLong answers, by the length in bits and the digits. -/
theorem tooL_cases (n : Nat) : (blen n < 1988 ∧ tooL n = false) ∨ (2008 < blen n ∧ tooL n = true) ∨ (1988 ≤ blen n ∧ blen n ≤ 2008 ∧ 0 < n ∧ tooL n = decide (600 < (digs 10 n).length)) := by
  rcases Nat.lt_or_ge (blen n) 1988 with h | h
  · exact .inl ⟨h, tooL_short (blen_lt n) (by omega)⟩
  · have hn : 0 < n := by
      rcases Nat.eq_zero_or_pos n with h0 | h0
      · subst h0; simp [blen] at h
      · exact h0
    rcases Nat.lt_or_ge 2008 (blen n) with h2 | h2
    · exact .inr (.inl ⟨h2, tooL_long (blen_ge hn) h2⟩)
    · refine .inr (.inr ⟨h, h2, hn, ?_⟩)
      have := tooL_digs hn
      cases ht : tooL n with
      | true => rw [ht] at this; exact (decide_eq_true (this.2 rfl)).symm
      | false => rw [ht] at this; exact (decide_eq_false (fun h => by have := this.1 h; cases this)).symm

set_option maxRecDepth 100000 in
set_option maxHeartbeats 800000 in
theorem tooLong_any (B n : Nat) (v : Value) (w : World) (h : NatIs w B v n) (hl : (lims 4294967296 n).length ≤ 100000) :
    Calls Tryd.prog 113 #[v] w fun e w' => e = .returned (.bool (tooL n)) ∧ Below w.heap.size w w' := by
  have hlen := length_any B n v w h hl
  have hdp := fun (hn : 0 < n) (h4 : blen n ≤ 2008) => digits_pos B v 10 n w h hn (by omega) (by omega) hl (lims10_len (blen_lt n) (by omega))
  have hc := tooL_cases n
  obtain ⟨ao, c, rfl⟩ := h.slice
  obtain ⟨la, hla⟩ : ∃ la, (lims 4294967296 n).length = la := ⟨_, rfl⟩
  rw [hla] at hlen hdp ⊢
  clear hla h hl
  revert hlen hdp hc
  generalize tooL n = t
  generalize blen n = L
  generalize digs 10 n = D
  intro hc hdp hlen
  have HD := Lib.hid hdp
  clear hdp
  rcases hc with ⟨h1, rfl⟩ | ⟨h1, rfl⟩ | ⟨h1, h2, h3, ht⟩
  · go_enter Tryd.func113, Tryd.ntmps113
    go_wp2_with (go_at_call 115; refine hlen.mono ?_; rintro e w' ⟨rfl, rfl⟩)
    go_ret
    exact ⟨rfl, Below.refl _ _⟩
  · have g : 1988 ≤ L := by omega
    go_enter Tryd.func113, Tryd.ntmps113
    go_wp2_with (go_at_call 115; refine hlen.mono ?_; rintro e w' ⟨rfl, rfl⟩)
    go_ret
    exact ⟨rfl, Below.refl _ _⟩
  · have HT := Lib.hid ht
    have hlD : (⟨D.toArray⟩ : ByteArray).size = D.length := by simp [ByteArray.size]
    clear ht
    go_enter Tryd.func113, Tryd.ntmps113
    go_wp2_with (first | (go_at_call 115; refine hlen.mono ?_; rintro e w' ⟨rfl, rfl⟩) | (go_at_call 93; refine (HD.out h3 h2).mono ?_; rintro e w1 ⟨rfl, hb1⟩))
    all_goals
      go_ret
      refine ⟨?_, hb1⟩
      rw [HT.out]
      show Ending.returned (.bool (decide (2008 < (L : Int)) || decide (600 < (D.length : Int)))) = _
      have e1 : decide (2008 < (L : Int)) = false := by simp; omega
      have e2 : decide (600 < (D.length : Int)) = decide (600 < D.length) := by
        by_cases h : 600 < D.length
        · rw [decide_eq_true h, decide_eq_true (by omega)]
        · rw [decide_eq_false h, decide_eq_false (by omega)]
      rw [e1, e2, Bool.false_or]
end Go.Proofs.YtmnibfdenmeepaaDoor
