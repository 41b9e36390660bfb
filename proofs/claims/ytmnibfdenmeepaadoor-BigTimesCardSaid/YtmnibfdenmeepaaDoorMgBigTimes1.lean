/- The texts Nat Read, one behind the other. -/
/- Numbers as lists of digits of a base, the lowest first: plain mathematics. -/
namespace Big

/-- The value of digits, the lowest first. -/
def ev (B : Nat) : List Nat → Nat
  | [] => 0
  | d :: l => d + B * ev B l

/-- The digits of a number, the lowest first, none of them behind the highest that is not 0. -/
def lims (B n : Nat) : List Nat :=
  if _h : n = 0 ∨ B < 2 then [] else n % B :: lims B (n / B)
termination_by n
decreasing_by exact Nat.div_lt_self (by omega) (by omega)

theorem lims_zero (B : Nat) : lims B 0 = [] := by rw [lims]; simp
theorem lims_pos {B n : Nat} (hB : 2 ≤ B) (hn : 0 < n) : lims B n = n % B :: lims B (n / B) := by
  rw [lims, dif_neg (by omega)]
theorem ev_lims {B : Nat} (hB : 2 ≤ B) (n : Nat) : ev B (lims B n) = n := by
  induction n using Nat.strongRecOn with
  | ind n ih =>
    by_cases hn : n = 0
    · subst hn; rw [lims_zero]; rfl
    · rw [lims_pos hB (by omega)]
      show n % B + B * ev B (lims B (n / B)) = n
      rw [ih _ (Nat.div_lt_self (by omega) (by omega))]
      exact Nat.mod_add_div n B
theorem lims_lt {B : Nat} (hB : 2 ≤ B) (n : Nat) : ∀ d ∈ lims B n, d < B := by
  induction n using Nat.strongRecOn with
  | ind n ih =>
    by_cases hn : n = 0
    · subst hn; rw [lims_zero]; simp
    · rw [lims_pos hB (by omega)]
      intro d hd
      rcases List.mem_cons.1 hd with rfl | hd
      · exact Nat.mod_lt _ (by omega)
      · exact ih _ (Nat.div_lt_self (by omega) (by omega)) d hd
theorem lims_nil {B n : Nat} (hB : 2 ≤ B) : lims B n = [] ↔ n = 0 := by
  constructor
  · intro h
    have := ev_lims hB n
    rw [h] at this
    exact this.symm
  · rintro rfl; exact lims_zero B
theorem ev_append (B : Nat) (a b : List Nat) : ev B (a ++ b) = ev B a + B ^ a.length * ev B b := by
  induction a with
  | nil => simp [ev]
  | cons d l ih =>
    show d + B * ev B (l ++ b) = d + B * ev B l + B ^ (l.length + 1) * ev B b
    rw [ih, Nat.mul_add, Nat.pow_succ, Nat.add_assoc, ← Nat.mul_assoc, Nat.mul_comm B (B ^ l.length)]
theorem ev_lt {B : Nat} {l : List Nat} (h : ∀ d ∈ l, d < B) : ev B l < B ^ l.length := by
  induction l with
  | nil => simp [ev]
  | cons d l ih =>
    have h1 := h d (by simp)
    have h2 := ih (fun x hx => h x (by simp [hx]))
    show d + B * ev B l < B ^ (l.length + 1)
    have h3 : B * (ev B l + 1) ≤ B * B ^ l.length := Nat.mul_le_mul_left _ h2
    rw [Nat.pow_succ, Nat.mul_comm _ B]
    rw [Nat.mul_add] at h3
    omega
theorem ev_take_succ (B : Nat) (l : List Nat) (k : Nat) : ev B (l.take (k + 1)) = ev B (l.take k) + B ^ k * l.getD k 0 := by
  by_cases h : k < l.length
  · rw [List.take_succ_eq_append_getElem h, ev_append]
    have : (l.take k).length = k := by simp; omega
    rw [this]
    simp [ev, List.getD_eq_getElem?_getD, h]
  · rw [List.take_of_length_le (by omega), List.take_of_length_le (by omega)]
    simp [List.getD_eq_getElem?_getD, List.getElem?_eq_none (Nat.le_of_not_lt h)]
theorem ev_take_lt {B : Nat} (hB : 0 < B) {l : List Nat} (h : ∀ d ∈ l, d < B) (k : Nat) : ev B (l.take k) < B ^ k := by
  have h1 : ev B (l.take k) < B ^ (l.take k).length := ev_lt (fun d hd => h d (List.mem_of_mem_take hd))
  have h2 : B ^ (l.take k).length ≤ B ^ k := Nat.pow_le_pow_right hB (by simp; omega)
  omega
theorem ev_set (B : Nat) (l : List Nat) (k v : Nat) (h : k < l.length) : ev B (l.set k v) + B ^ k * l.getD k 0 = ev B l + B ^ k * v := by
  induction l generalizing k with
  | nil => simp at h
  | cons d l ih =>
    cases k with
    | zero => simp [ev]; omega
    | succ k =>
      have := ih k (by simpa using h)
      simp only [List.set_cons_succ, ev, List.getD_cons_succ, Nat.pow_succ]
      have e1 : B * (ev B (l.set k v) + B ^ k * l.getD k 0) = B * (ev B l + B ^ k * v) := by rw [this]
      rw [Nat.mul_add, Nat.mul_add, ← Nat.mul_assoc, ← Nat.mul_assoc, Nat.mul_comm B (B ^ k)] at e1
      omega
theorem ev_replicate (B n : Nat) : ev B (List.replicate n 0) = 0 := by
  induction n with
  | zero => rfl
  | succ n ih => rw [List.replicate_succ, ev, ih]; simp
theorem ev_cons (B d : Nat) (l : List Nat) : ev B (d :: l) = d + B * ev B l := rfl
theorem ev_snoc (B : Nat) (l : List Nat) (d : Nat) : ev B (l ++ [d]) = ev B l + B ^ l.length * d := by
  rw [ev_append]; simp [ev]

/-- Digits whose last one is not 0 are those of their value. -/
theorem lims_ev {B : Nat} (hB : 2 ≤ B) : ∀ {l : List Nat}, (∀ d ∈ l, d < B) → (∀ h : l ≠ [], l.getLast h ≠ 0) → lims B (ev B l) = l
  | [], _, _ => lims_zero B
  | d :: l, h, hz => by
    have hd := h d (by simp)
    have ih := lims_ev hB (l := l) (fun x hx => h x (by simp [hx])) (fun hn => by
      have := hz (by simp)
      rwa [List.getLast_cons hn] at this)
    have hpos : 0 < ev B (d :: l) := by
      rw [ev_cons]
      by_cases hl : l = []
      · subst hl
        have := hz (by simp)
        simp at this
        omega
      · have : ev B l ≠ 0 := by
          intro e
          rw [e, lims_zero] at ih
          exact hl ih.symm
        have : 0 < B * ev B l := Nat.mul_pos (by omega) (by omega)
        omega
    rw [lims_pos hB hpos, ev_cons]
    have e1 : (d + B * ev B l) % B = d := by rw [Nat.add_mul_mod_self_left, Nat.mod_eq_of_lt hd]
    have e2 : (d + B * ev B l) / B = ev B l := by rw [Nat.add_mul_div_left _ _ (by omega), Nat.div_eq_of_lt hd]; simp
    rw [e1, e2, ih]

theorem lims_last {B : Nat} (hB : 2 ≤ B) (n : Nat) : ∀ h : lims B n ≠ [], (lims B n).getLast h ≠ 0 := by
  induction n using Nat.strongRecOn with
  | ind n ih =>
    intro h
    by_cases hn : n = 0
    · subst hn; exact absurd (lims_zero B) h
    · have e := lims_pos hB (Nat.pos_of_ne_zero hn)
      have hlt := Nat.div_lt_self (Nat.pos_of_ne_zero hn) (by omega : 1 < B)
      by_cases hq : lims B (n / B) = []
      · have h0 := (lims_nil hB).1 hq
        have : n % B = n := Nat.mod_eq_of_lt (by
          rcases Nat.lt_or_ge n B with h | h
          · exact h
          · have := Nat.div_pos h (by omega : 0 < B); omega)
        simp only [e, hq, this]
        simpa using hn
      · have := ih _ hlt hq
        simp only [e]
        rwa [List.getLast_cons hq]

theorem lims_len_le {B : Nat} (hB : 2 ≤ B) (n k : Nat) : (lims B n).length ≤ k ↔ n < B ^ k := by
  constructor
  · intro h
    have h1 := ev_lt (lims_lt hB n)
    rw [ev_lims hB] at h1
    exact Nat.lt_of_lt_of_le h1 (Nat.pow_le_pow_right (by omega) h)
  · intro h
    induction k generalizing n with
    | zero => simp at h; subst h; simp [lims_zero]
    | succ k ih =>
      by_cases hn : n = 0
      · subst hn; simp [lims_zero]
      · rw [lims_pos hB (by omega)]
        have := ih (n / B) (by rw [Nat.div_lt_iff_lt_mul (by omega)]; rwa [Nat.pow_succ] at h)
        simp; exact this

theorem lims_getD {B : Nat} (hB : 2 ≤ B) (n k : Nat) : (lims B n).getD k 0 = n / B ^ k % B := by
  induction k generalizing n with
  | zero =>
    by_cases hn : n = 0
    · subst hn; simp [lims_zero]
    · rw [lims_pos hB (by omega)]; simp
  | succ k ih =>
    by_cases hn : n = 0
    · subst hn; simp [lims_zero]
    · rw [lims_pos hB (by omega), List.getD_cons_succ, ih, Nat.div_div_eq_div_mul, Nat.pow_succ, Nat.mul_comm B]

/-- What is left of digits where zeros at the end are taken away down to a digit that is not 0. -/
theorem lims_take {B : Nat} (hB : 2 ≤ B) {l : List Nat} (h : ∀ d ∈ l, d < B) {k : Nat} (hk : k ≤ l.length) (he : ev B (l.take k) = ev B l) (hz : 0 < k → l.getD (k - 1) 0 ≠ 0) : lims B (ev B l) = l.take k := by
  rw [← he]
  refine lims_ev hB (fun d hd => h d (List.mem_of_mem_take hd)) ?_
  intro hn
  have hk0 : 0 < k := by
    rcases Nat.eq_zero_or_pos k with rfl | h
    · simp at hn
    · exact h
  have := hz hk0
  rw [List.getLast_eq_getElem]
  have hl : (l.take k).length = k := by simp; omega
  simp only [hl]
  rw [List.getElem_take]
  rwa [List.getD_eq_getElem?_getD, List.getElem?_eq_getElem (by omega)] at this

/-- One digit less, a zero. -/
theorem ev_take_pred (B : Nat) (l : List Nat) (k : Nat) (hk : 0 < k) (hz : l.getD (k - 1) 0 = 0) : ev B (l.take (k - 1)) = ev B (l.take k) := by
  have := ev_take_succ B l (k - 1)
  rw [Nat.sub_add_cancel hk, hz] at this
  omega

theorem lims_inj {B : Nat} (hB : 2 ≤ B) {m n : Nat} (h : lims B m = lims B n) : m = n := by
  rw [← ev_lims hB m, h, ev_lims hB]

/-- The order of two numbers. -/
def cmp (a b : Nat) : Int := if a < b then -1 else if b < a then 1 else 0

theorem cmp_step {P A C p q : Nat} (hA : A < P) (hC : C < P) : cmp (A + P * p) (C + P * q) = if q < p then 1 else if p < q then -1 else cmp A C := by
  unfold cmp
  rcases Nat.lt_trichotomy p q with h | h | h
  · have : P * (p + 1) ≤ P * q := Nat.mul_le_mul_left _ h
    rw [Nat.mul_add] at this
    rw [if_pos (by omega), if_neg (by omega), if_pos h]
  · subst h
    rw [if_neg (Nat.lt_irrefl p), if_neg (Nat.lt_irrefl p)]
    by_cases h1 : A < C
    · rw [if_pos (by omega), if_pos h1]
    · rw [if_neg (by omega), if_neg h1]
      by_cases h2 : C < A
      · rw [if_pos (by omega), if_pos h2]
      · rw [if_neg (by omega), if_neg h2]
  · have : P * (q + 1) ≤ P * p := Nat.mul_le_mul_left _ h
    rw [Nat.mul_add] at this
    rw [if_neg (by omega), if_pos (by omega), if_pos h]
end Big
/- How numbers are read and written: plain mathematics. -/
namespace Big

/-- What a digit is worth; 99 for another byte. -/
def dg (c : UInt8) : Nat := if 48 ≤ c.toNat ∧ c.toNat ≤ 57 then c.toNat - 48 else if 97 ≤ c.toNat ∧ c.toNat ≤ 122 then c.toNat - 87 else if 65 ≤ c.toNat ∧ c.toNat ≤ 90 then c.toNat - 55 else 99
/-- A white byte. -/
def wht (c : UInt8) : Bool := decide (9 ≤ c.toNat ∧ c.toNat ≤ 13) || decide (c.toNat = 32)
def strip (l : List UInt8) : List UInt8 := ((l.dropWhile wht).reverse.dropWhile wht).reverse
/-- The number that digits are. -/
def rdn (b : Nat) (l : List UInt8) : Nat := l.foldl (fun a c => a * b + dg c) 0
def okn (b : Nat) (l : List UInt8) : Bool := !l.isEmpty && l.all (fun c => decide (dg c < b))
def basOf : List UInt8 → Nat × List UInt8
  | 48 :: 120 :: r => (16, r)
  | 48 :: 111 :: r => (8, r)
  | 48 :: 98 :: r => (2, r)
  | l => (10, l)
def sgnOf : List UInt8 → Bool × List UInt8
  | 45 :: r => (true, r)
  | 43 :: r => (false, r)
  | l => (false, l)
def sgI (s : Bool) (n : Nat) : Int := if s then -(n : Int) else n
/-- The number that a text is. -/
def numOf (l : List UInt8) : Option Int :=
  if okn (basOf (sgnOf (strip l)).2).1 (basOf (sgnOf (strip l)).2).2 then some (sgI (sgnOf (strip l)).1 (rdn (basOf (sgnOf (strip l)).2).1 (basOf (sgnOf (strip l)).2).2)) else none

/-- The byte of a digit. -/
def chr (d : Nat) : UInt8 := if d < 10 then UInt8.ofNat (48 + d) else UInt8.ofNat (87 + d)
def digs (b n : Nat) : List UInt8 := if n = 0 then [48] else ((lims b n).map chr).reverse
def txt (z : Int) : List UInt8 := if z < 0 then 45 :: digs 10 z.natAbs else digs 10 z.natAbs

theorem chr_toNat (d : Nat) (h : d < 36) : (chr d).toNat = if d < 10 then 48 + d else 87 + d := by
  unfold chr
  split
  · rw [UInt8.toNat_ofNat']; omega
  · rw [UInt8.toNat_ofNat']; omega
theorem dg_chr (d : Nat) (h : d < 36) : dg (chr d) = d := by
  have := chr_toNat d h
  unfold dg
  rw [this]
  by_cases h1 : d < 10
  · rw [if_pos h1, if_pos (by omega)]; omega
  · rw [if_neg h1, if_neg (by omega), if_pos (by omega)]; omega
theorem rdn_snoc (b : Nat) (l : List UInt8) (c : UInt8) : rdn b (l ++ [c]) = rdn b l * b + dg c := by
  unfold rdn; rw [List.foldl_append]; rfl
theorem rdn_ev (b : Nat) (l : List UInt8) : rdn b l = ev b (l.map dg).reverse := by
  have h : ∀ r : List UInt8, rdn b r.reverse = ev b (r.map dg) := by
    intro r
    induction r with
    | nil => rfl
    | cons c r ih =>
      rw [List.reverse_cons, rdn_snoc, ih]
      show _ = dg c + b * ev b (r.map dg)
      rw [Nat.mul_comm]; omega
  have := h l.reverse
  rw [List.reverse_reverse] at this
  rw [this, List.map_reverse]
theorem rdn_digs {b : Nat} (hb : 2 ≤ b) (hb' : b ≤ 36) (n : Nat) : rdn b (digs b n) = n := by
  rw [rdn_ev]
  unfold digs
  split
  · rename_i h
    subst h
    rfl
  · rw [← List.map_reverse, List.reverse_reverse, List.map_map]
    have : (lims b n).map (dg ∘ chr) = lims b n := by
      conv => rhs; rw [← List.map_id (lims b n)]
      apply List.map_congr_left
      intro d hd
      have := lims_lt hb n d hd
      exact dg_chr d (by omega)
    rw [this, ev_lims hb]
theorem digs_ne (b n : Nat) (hb : 2 ≤ b) : digs b n ≠ [] := by
  unfold digs
  split
  · simp
  · rename_i h
    intro e
    have : lims b n = [] := by simpa using e
    exact h ((lims_nil hb).1 this)
theorem digs_mem {b : Nat} (hb : 2 ≤ b) (hb' : b ≤ 36) (n : Nat) : ∀ c ∈ digs b n, ∃ d, d < b ∧ c = chr d := by
  unfold digs
  split
  · intro c hc
    refine ⟨0, by omega, ?_⟩
    rw [show chr 0 = 48 from rfl]
    simpa using hc
  · intro c hc
    simp only [List.mem_reverse, List.mem_map] at hc
    obtain ⟨d, hd, rfl⟩ := hc
    exact ⟨d, lims_lt hb n d hd, rfl⟩
theorem digs_ok {b : Nat} (hb : 2 ≤ b) (hb' : b ≤ 36) (n : Nat) : okn b (digs b n) = true := by
  unfold okn
  have h := digs_ne b n hb
  simp only [Bool.and_eq_true, Bool.not_eq_true', List.all_eq_true, decide_eq_true_eq]
  refine ⟨by simpa using h, ?_⟩
  intro c hc
  obtain ⟨d, hd, rfl⟩ := digs_mem hb hb' n c hc
  rw [dg_chr d (by omega)]
  exact hd
theorem wht_chr (d : Nat) (h : d < 36) : wht (chr d) = false := by
  have := chr_toNat d h
  unfold wht
  rw [this]
  split <;> simp <;> omega
theorem strip_id (l : List UInt8) (h : ∀ c ∈ l, wht c = false) : strip l = l := by
  have e : ∀ l : List UInt8, (∀ c ∈ l, wht c = false) → l.dropWhile wht = l := by
    intro l h
    cases l with
    | nil => rfl
    | cons c l => rw [List.dropWhile_cons_of_neg (by rw [h c (by simp)]; simp)]
  unfold strip
  rw [e l h, e l.reverse (by intro c hc; exact h c (by simpa using hc)), List.reverse_reverse]
theorem digs_head {n : Nat} (hn : 0 < n) : ∃ d r, digs 10 n = chr d :: r ∧ d < 10 ∧ d ≠ 0 := by
  have hl := lims_last (B := 10) (by omega) n
  have hne : lims 10 n ≠ [] := fun e => by have := (lims_nil (by omega)).1 e; omega
  have hd := lims_lt (B := 10) (by omega) n ((lims 10 n).getLast hne) (List.getLast_mem hne)
  refine ⟨(lims 10 n).getLast hne, (((lims 10 n).dropLast).map chr).reverse, ?_, hd, hl hne⟩
  unfold digs
  rw [if_neg (by omega)]
  conv => lhs; rw [← List.dropLast_concat_getLast hne]
  rw [List.map_append, List.reverse_append]
  rfl
theorem bas_digs (n : Nat) : basOf (digs 10 n) = (10, digs 10 n) := by
  rcases Nat.eq_zero_or_pos n with rfl | hn
  · rfl
  · obtain ⟨d, r, e, h1, h2⟩ := digs_head hn
    rw [e]
    have := chr_toNat d (by omega)
    unfold basOf
    split
    · rename_i h
      have h3 : chr d = 48 := (List.cons.inj h).1
      rw [h3] at this
      rw [if_pos h1] at this
      simp at this
      omega
    · rename_i h
      have h3 : chr d = 48 := (List.cons.inj h).1
      rw [h3] at this
      rw [if_pos h1] at this
      simp at this
      omega
    · rename_i h
      have h3 : chr d = 48 := (List.cons.inj h).1
      rw [h3] at this
      rw [if_pos h1] at this
      simp at this
      omega
    · rfl
theorem sgn_digs (n : Nat) : sgnOf (digs 10 n) = (false, digs 10 n) := by
  obtain ⟨c, r, e⟩ : ∃ c r, digs 10 n = c :: r := by
    cases h : digs 10 n with
    | nil => exact absurd h (digs_ne 10 n (by omega))
    | cons c r => exact ⟨c, r, rfl⟩
  obtain ⟨d, hd, hc⟩ := digs_mem (b := 10) (by omega) (by omega) n c (by rw [e]; simp)
  have := chr_toNat d (by omega)
  rw [if_pos hd] at this
  rw [e, hc]
  unfold sgnOf
  split
  · rename_i h
    have h3 : chr d = 45 := (List.cons.inj h).1
    rw [h3] at this
    simp at this
    omega
  · rename_i h
    have h3 : chr d = 43 := (List.cons.inj h).1
    rw [h3] at this
    simp at this
    omega
  · rfl
theorem digs_white (b n : Nat) (hb : 2 ≤ b) (hb' : b ≤ 36) : ∀ c ∈ digs b n, wht c = false := by
  intro c hc
  obtain ⟨d, hd, rfl⟩ := digs_mem hb hb' n c hc
  exact wht_chr d (by omega)
/-- What is written is read. -/
theorem numOf_txt (z : Int) : numOf (txt z) = some z := by
  unfold numOf txt
  by_cases hz : z < 0
  · rw [if_pos hz]
    have hs : strip (45 :: digs 10 z.natAbs) = 45 :: digs 10 z.natAbs := strip_id _ (by
      intro c hc
      rcases List.mem_cons.1 hc with rfl | hc
      · rfl
      · exact digs_white 10 _ (by omega) (by omega) c hc)
    rw [hs]
    have hg : sgnOf (45 :: digs 10 z.natAbs) = (true, digs 10 z.natAbs) := rfl
    rw [hg]
    simp only [bas_digs, digs_ok (b := 10) (by omega) (by omega), rdn_digs (b := 10) (by omega) (by omega), if_true]
    unfold sgI
    rw [if_pos rfl]
    congr 1
    omega
  · rw [if_neg hz]
    have hs : strip (digs 10 z.natAbs) = digs 10 z.natAbs := strip_id _ (digs_white 10 _ (by omega) (by omega))
    rw [hs, sgn_digs]
    simp only [bas_digs, digs_ok (b := 10) (by omega) (by omega), rdn_digs (b := 10) (by omega) (by omega), if_true]
    unfold sgI
    rw [if_neg (by simp)]
    congr 1
    omega
end Big
