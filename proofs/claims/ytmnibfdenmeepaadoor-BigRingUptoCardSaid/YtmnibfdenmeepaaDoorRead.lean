/- How numbers are read and written: plain mathematics. -/
import Derived.Test.YtmnibfdenmeepaaDoorNat
namespace Big

/-- What a digit is worth; 99 for another byte. -/
def dg (c : UInt8) : Nat := if 48 ≤ c.toNat ∧ c.toNat ≤ 57 then c.toNat - 48 else if 97 ≤ c.toNat ∧ c.toNat ≤ 122 then c.toNat - 87 else if 65 ≤ c.toNat ∧ c.toNat ≤ 90 then c.toNat - 55 else 99
/-- A white byte. -/
def wht (c : UInt8) : Bool := decide (9 ≤ c.toNat ∧ c.toNat ≤ 13) || decide (c.toNat = 32)
def strip (l : List UInt8) : List UInt8 := ((l.dropWhile wht).reverse.dropWhile wht).reverse
/-- The number that digits are. -/
def rdn (b : Nat) (l : List UInt8) : Nat := l.foldl (fun a c => a * b + dg c) 0
def okn (b : Nat) (l : List UInt8) : Bool := !l.isEmpty && l.all (fun c => decide (dg c < b))
def basOf : List UInt8 → Nat × List UInt8
  | 48 :: 120 :: r => (16, r)
  | 48 :: 111 :: r => (8, r)
  | 48 :: 98 :: r => (2, r)
  | l => (10, l)
def sgnOf : List UInt8 → Bool × List UInt8
  | 45 :: r => (true, r)
  | 43 :: r => (false, r)
  | l => (false, l)
def sgI (s : Bool) (n : Nat) : Int := if s then -(n : Int) else n
/-- The number that a text is. -/
def numOf (l : List UInt8) : Option Int :=
  if okn (basOf (sgnOf (strip l)).2).1 (basOf (sgnOf (strip l)).2).2 then some (sgI (sgnOf (strip l)).1 (rdn (basOf (sgnOf (strip l)).2).1 (basOf (sgnOf (strip l)).2).2)) else none

/-- The byte of a digit. -/
def chr (d : Nat) : UInt8 := if d < 10 then UInt8.ofNat (48 + d) else UInt8.ofNat (87 + d)
def digs (b n : Nat) : List UInt8 := if n = 0 then [48] else ((lims b n).map chr).reverse
def txt (z : Int) : List UInt8 := if z < 0 then 45 :: digs 10 z.natAbs else digs 10 z.natAbs

theorem chr_toNat (d : Nat) (h : d < 36) : (chr d).toNat = if d < 10 then 48 + d else 87 + d := by
  unfold chr
  split
  · rw [UInt8.toNat_ofNat']; omega
  · rw [UInt8.toNat_ofNat']; omega
theorem dg_chr (d : Nat) (h : d < 36) : dg (chr d) = d := by
  have := chr_toNat d h
  unfold dg
  rw [this]
  by_cases h1 : d < 10
  · rw [if_pos h1, if_pos (by omega)]; omega
  · rw [if_neg h1, if_neg (by omega), if_pos (by omega)]; omega
theorem rdn_snoc (b : Nat) (l : List UInt8) (c : UInt8) : rdn b (l ++ [c]) = rdn b l * b + dg c := by
  unfold rdn; rw [List.foldl_append]; rfl
theorem rdn_ev (b : Nat) (l : List UInt8) : rdn b l = ev b (l.map dg).reverse := by
  have h : ∀ r : List UInt8, rdn b r.reverse = ev b (r.map dg) := by
    intro r
    induction r with
    | nil => rfl
    | cons c r ih =>
      rw [List.reverse_cons, rdn_snoc, ih]
      show _ = dg c + b * ev b (r.map dg)
      rw [Nat.mul_comm]; omega
  have := h l.reverse
  rw [List.reverse_reverse] at this
  rw [this, List.map_reverse]
theorem rdn_digs {b : Nat} (hb : 2 ≤ b) (hb' : b ≤ 36) (n : Nat) : rdn b (digs b n) = n := by
  rw [rdn_ev]
  unfold digs
  split
  · rename_i h
    subst h
    rfl
  · rw [← List.map_reverse, List.reverse_reverse, List.map_map]
    have : (lims b n).map (dg ∘ chr) = lims b n := by
      conv => rhs; rw [← List.map_id (lims b n)]
      apply List.map_congr_left
      intro d hd
      have := lims_lt hb n d hd
      exact dg_chr d (by omega)
    rw [this, ev_lims hb]
theorem digs_ne (b n : Nat) (hb : 2 ≤ b) : digs b n ≠ [] := by
  unfold digs
  split
  · simp
  · rename_i h
    intro e
    have : lims b n = [] := by simpa using e
    exact h ((lims_nil hb).1 this)
theorem digs_mem {b : Nat} (hb : 2 ≤ b) (hb' : b ≤ 36) (n : Nat) : ∀ c ∈ digs b n, ∃ d, d < b ∧ c = chr d := by
  unfold digs
  split
  · intro c hc
    refine ⟨0, by omega, ?_⟩
    rw [show chr 0 = 48 from rfl]
    simpa using hc
  · intro c hc
    simp only [List.mem_reverse, List.mem_map] at hc
    obtain ⟨d, hd, rfl⟩ := hc
    exact ⟨d, lims_lt hb n d hd, rfl⟩
theorem digs_ok {b : Nat} (hb : 2 ≤ b) (hb' : b ≤ 36) (n : Nat) : okn b (digs b n) = true := by
  unfold okn
  have h := digs_ne b n hb
  simp only [Bool.and_eq_true, Bool.not_eq_true', List.all_eq_true, decide_eq_true_eq]
  refine ⟨by simpa using h, ?_⟩
  intro c hc
  obtain ⟨d, hd, rfl⟩ := digs_mem hb hb' n c hc
  rw [dg_chr d (by omega)]
  exact hd
theorem wht_chr (d : Nat) (h : d < 36) : wht (chr d) = false := by
  have := chr_toNat d h
  unfold wht
  rw [this]
  split <;> simp <;> omega
theorem strip_id (l : List UInt8) (h : ∀ c ∈ l, wht c = false) : strip l = l := by
  have e : ∀ l : List UInt8, (∀ c ∈ l, wht c = false) → l.dropWhile wht = l := by
    intro l h
    cases l with
    | nil => rfl
    | cons c l => rw [List.dropWhile_cons_of_neg (by rw [h c (by simp)]; simp)]
  unfold strip
  rw [e l h, e l.reverse (by intro c hc; exact h c (by simpa using hc)), List.reverse_reverse]
theorem digs_head {n : Nat} (hn : 0 < n) : ∃ d r, digs 10 n = chr d :: r ∧ d < 10 ∧ d ≠ 0 := by
  have hl := lims_last (B := 10) (by omega) n
  have hne : lims 10 n ≠ [] := fun e => by have := (lims_nil (by omega)).1 e; omega
  have hd := lims_lt (B := 10) (by omega) n ((lims 10 n).getLast hne) (List.getLast_mem hne)
  refine ⟨(lims 10 n).getLast hne, (((lims 10 n).dropLast).map chr).reverse, ?_, hd, hl hne⟩
  unfold digs
  rw [if_neg (by omega)]
  conv => lhs; rw [← List.dropLast_concat_getLast hne]
  rw [List.map_append, List.reverse_append]
  rfl
theorem bas_digs (n : Nat) : basOf (digs 10 n) = (10, digs 10 n) := by
  rcases Nat.eq_zero_or_pos n with rfl | hn
  · rfl
  · obtain ⟨d, r, e, h1, h2⟩ := digs_head hn
    rw [e]
    have := chr_toNat d (by omega)
    unfold basOf
    split
    · rename_i h
      have h3 : chr d = 48 := (List.cons.inj h).1
      rw [h3] at this
      rw [if_pos h1] at this
      simp at this
      omega
    · rename_i h
      have h3 : chr d = 48 := (List.cons.inj h).1
      rw [h3] at this
      rw [if_pos h1] at this
      simp at this
      omega
    · rename_i h
      have h3 : chr d = 48 := (List.cons.inj h).1
      rw [h3] at this
      rw [if_pos h1] at this
      simp at this
      omega
    · rfl
theorem sgn_digs (n : Nat) : sgnOf (digs 10 n) = (false, digs 10 n) := by
  obtain ⟨c, r, e⟩ : ∃ c r, digs 10 n = c :: r := by
    cases h : digs 10 n with
    | nil => exact absurd h (digs_ne 10 n (by omega))
    | cons c r => exact ⟨c, r, rfl⟩
  obtain ⟨d, hd, hc⟩ := digs_mem (b := 10) (by omega) (by omega) n c (by rw [e]; simp)
  have := chr_toNat d (by omega)
  rw [if_pos hd] at this
  rw [e, hc]
  unfold sgnOf
  split
  · rename_i h
    have h3 : chr d = 45 := (List.cons.inj h).1
    rw [h3] at this
    simp at this
    omega
  · rename_i h
    have h3 : chr d = 43 := (List.cons.inj h).1
    rw [h3] at this
    simp at this
    omega
  · rfl
theorem digs_white (b n : Nat) (hb : 2 ≤ b) (hb' : b ≤ 36) : ∀ c ∈ digs b n, wht c = false := by
  intro c hc
  obtain ⟨d, hd, rfl⟩ := digs_mem hb hb' n c hc
  exact wht_chr d (by omega)
/-- What is written is read. -/
theorem numOf_txt (z : Int) : numOf (txt z) = some z := by
  unfold numOf txt
  by_cases hz : z < 0
  · rw [if_pos hz]
    have hs : strip (45 :: digs 10 z.natAbs) = 45 :: digs 10 z.natAbs := strip_id _ (by
      intro c hc
      rcases List.mem_cons.1 hc with rfl | hc
      · rfl
      · exact digs_white 10 _ (by omega) (by omega) c hc)
    rw [hs]
    have hg : sgnOf (45 :: digs 10 z.natAbs) = (true, digs 10 z.natAbs) := rfl
    rw [hg]
    simp only [bas_digs, digs_ok (b := 10) (by omega) (by omega), rdn_digs (b := 10) (by omega) (by omega), if_true]
    unfold sgI
    rw [if_pos rfl]
    congr 1
    omega
  · rw [if_neg hz]
    have hs : strip (digs 10 z.natAbs) = digs 10 z.natAbs := strip_id _ (digs_white 10 _ (by omega) (by omega))
    rw [hs, sgn_digs]
    simp only [bas_digs, digs_ok (b := 10) (by omega) (by omega), rdn_digs (b := 10) (by omega) (by omega), if_true]
    unfold sgI
    rw [if_neg (by simp)]
    congr 1
    omega
end Big
