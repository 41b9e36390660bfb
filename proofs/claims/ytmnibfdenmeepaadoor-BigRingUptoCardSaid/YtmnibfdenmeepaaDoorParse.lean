/- parse of the program. -/
import Derived.Test.YtmnibfdenmeepaaDoorOfDig
namespace Go.Proofs.YtmnibfdenmeepaaDoor
open Go.RowKit Go.Shelf Big

/-- What ofDigits answers. -/
def OfIs (B b : Nat) (below : Bool) (l : List UInt8) (w' : World) (e : Ending) : Prop :=
  (okn b l = false ∧ noNum e) ∨ (okn b l = true ∧ IsNum B (below && decide (0 < rdn b l)) (rdn b l) w' e)
theorem ofDigits_any (s : ByteArray) (b : Nat) (below : Bool) (w : World) (hs : s.size ≤ 1000) (hb : 2 ≤ b) (hb2 : b ≤ 36) :
    Calls Tryd.prog 96 #[.string s, .int .i64 (b : Int), .bool below] w fun e w' => OfIs w.heap.size b below s.data.toList w' e ∧ Below w.heap.size w w' := by
  cases h : okn b s.data.toList with
  | false => exact (ofDigits_no s b below w hs hb hb2 h).mono fun e w' ⟨h1, h2⟩ => ⟨.inl ⟨h, h1⟩, h2⟩
  | true => exact (ofDigits_ok s b below w hs hb hb2 h).mono fun e w' ⟨h1, h2⟩ => ⟨.inr ⟨h, h1⟩, h2⟩
theorem OfIs.form {B b : Nat} {sg : Bool} {l : List UInt8} {w' : World} {e : Ending} (h : OfIs B b sg l w' e) :
    ∃ (s : Bool) (av : Option Addr) (n c : Nat) (lg od t : Bool), e = .returned (.tuple #[.agg #[.bool s, .slice av n c, .bool lg, .bool od], .bool t]) ∧
      ∀ (k : Nat) (x y z u : Value), k < B → OfIs B b sg l ((((w'.setCell ⟨k, 0, none⟩ x).setCell ⟨k, 1, none⟩ y).setCell ⟨k, 2, none⟩ z).setCell ⟨k, 3, none⟩ u) e := by
  rcases h with ⟨h1, h2⟩ | ⟨h1, v, h2, hn⟩
  · exact ⟨false, none, 0, 0, false, false, false, h2, fun k x y z u _ => .inl ⟨h1, h2⟩⟩
  · obtain ⟨av, c, rfl⟩ := hn.slice
    exact ⟨_, av, _, c, _, _, true, h2, fun k x y z u hk => .inr ⟨h1, _, h2, hn.far4 hk x y z u⟩⟩
theorem OfIs.mono {B B' b : Nat} {sg : Bool} {l : List UInt8} {w' : World} {e : Ending} (h : OfIs B b sg l w' e) (hB : B' ≤ B) : OfIs B' b sg l w' e := by
  rcases h with h | ⟨h1, v, h2, hn⟩
  · exact .inl h
  · exact .inr ⟨h1, v, h2, NatIs.mono hn hB⟩
/-- What parse answers. -/
def ParseIs (B : Nat) (l : List UInt8) (w' : World) (e : Ending) : Prop :=
  (numOf l = none ∧ noNum e) ∨ (∃ z : Int, numOf l = some z ∧ IsNum B (decide (z < 0)) z.natAbs w' e)
theorem parseIs_of {B b : Nat} {sg : Bool} {l r : List UInt8} {w' : World} {e : Ending} (hs : (sgnOf (strip l)).1 = sg) (hb : basOf (sgnOf (strip l)).2 = (b, r)) (h : OfIs B b sg r w' e) : ParseIs B l w' e := by
  unfold ParseIs numOf
  rw [hb, hs]
  rcases h with ⟨h1, h2⟩ | ⟨h1, h2⟩
  · left
    rw [if_neg (by rw [h1]; simp)]
    exact ⟨rfl, h2⟩
  · right
    rw [if_pos h1]
    refine ⟨_, rfl, ?_⟩
    have e1 : decide (sgI sg (rdn b r) < 0) = (sg && decide (0 < rdn b r)) := by
      unfold sgI
      cases sg <;> simp
    have e2 : (sgI sg (rdn b r)).natAbs = rdn b r := by
      unfold sgI
      cases sg <;> simp
    rw [e1, e2]
    exact h2

theorem last_split (T : ByteArray) (j : Nat) (h : j < T.size) (hj : T.size = j + 1) : T.data.toList.reverse = T[j] :: (T.data.toList.take j).reverse := by
  have hl : T.data.toList.length = T.size := (Lib.size_eq T).symm
  have h' : j < T.data.toList.length := by omega
  have h2 := List.take_succ_eq_append_getElem h'
  rw [List.take_of_length_le (by omega)] at h2
  conv => lhs; rw [h2]
  rw [List.reverse_append]
  rfl
def stripR (l : List UInt8) : List UInt8 := (l.reverse.dropWhile wht).reverse
theorem strip_eq (l : List UInt8) : strip l = stripR (l.dropWhile wht) := rfl

theorem one_more (S : ByteArray) (_h : 0 < S.size) : (S.extract 1 S.size).data.toList = S.data.toList.drop 1 := by
  rw [Lib.extract_data, List.take_of_length_le (by rw [List.length_drop, ← Lib.size_eq]; exact Nat.le_refl _)]
theorem two_more (S : ByteArray) (_h : 1 < S.size) : (S.extract 2 S.size).data.toList = S.data.toList.drop 2 := by
  rw [Lib.extract_data, List.take_of_length_le (by rw [List.length_drop, ← Lib.size_eq]; exact Nat.le_refl _)]
theorem u8_ne (c : UInt8) (n : Nat) (hn : n < 256) (h : c.toNat ≠ n) : c ≠ UInt8.ofNat n := by
  rintro rfl
  exact h (by rw [UInt8.toNat_ofNat']; omega)
theorem u8_of (c : UInt8) (n : Nat) (h : c.toNat = n) : c = UInt8.ofNat n := by
  rw [← h]; exact (UInt8.ofNat_toNat).symm
/-- The sign, by the first byte. -/
theorem sgn_cases (S : ByteArray) : (S.toList.isEmpty = true ∧ sgnOf S.data.toList = (false, S.data.toList)) ∨
    (∃ h : 0 < S.size, S[0].toNat = 45 ∧ sgnOf S.data.toList = (true, (S.extract 1 S.size).data.toList)) ∨
    (∃ h : 0 < S.size, S[0].toNat ≠ 45 ∧ S[0].toNat = 43 ∧ sgnOf S.data.toList = (false, (S.extract 1 S.size).data.toList)) ∨
    (∃ h : 0 < S.size, S[0].toNat ≠ 45 ∧ S[0].toNat ≠ 43 ∧ sgnOf S.data.toList = (false, S.data.toList)) := by
  by_cases hE : S.toList.isEmpty = true
  · refine .inl ⟨hE, ?_⟩
    rw [(empty_iff S).1 hE]; rfl
  · have hp := size_pos hE
    have hsp := head_split S hp
    by_cases h1 : S[0].toNat = 45
    · refine .inr (.inl ⟨hp, h1, ?_⟩)
      rw [one_more S hp]
      conv => lhs; rw [hsp, u8_of _ _ h1]
      rfl
    · by_cases h2 : S[0].toNat = 43
      · refine .inr (.inr (.inl ⟨hp, h1, h2, ?_⟩))
        rw [one_more S hp]
        conv => lhs; rw [hsp, u8_of _ _ h2]
        rfl
      · refine .inr (.inr (.inr ⟨hp, h1, h2, ?_⟩))
        have n1 := u8_ne _ 45 (by omega) h1
        have n2 := u8_ne _ 43 (by omega) h2
        rw [hsp]
        generalize S[0] = c at n1 n2
        unfold sgnOf
        split
        · rename_i h; exact absurd (List.cons.inj h).1 n1
        · rename_i h; exact absurd (List.cons.inj h).1 n2
        · rfl

/-- The base, by the first two bytes. -/
theorem bas_cases (S : ByteArray) : (S.size ≤ 1 ∧ basOf S.data.toList = (10, S.data.toList)) ∨
    (∃ h : 1 < S.size, S[0].toNat ≠ 48 ∧ basOf S.data.toList = (10, S.data.toList)) ∨
    (∃ h : 1 < S.size, S[0].toNat = 48 ∧ S[1].toNat = 120 ∧ basOf S.data.toList = (16, (S.extract 2 S.size).data.toList)) ∨
    (∃ h : 1 < S.size, S[0].toNat = 48 ∧ S[1].toNat = 111 ∧ basOf S.data.toList = (8, (S.extract 2 S.size).data.toList)) ∨
    (∃ h : 1 < S.size, S[0].toNat = 48 ∧ S[1].toNat = 98 ∧ basOf S.data.toList = (2, (S.extract 2 S.size).data.toList)) ∨
    (∃ h : 1 < S.size, S[0].toNat = 48 ∧ S[1].toNat ≠ 120 ∧ S[1].toNat ≠ 111 ∧ S[1].toNat ≠ 98 ∧ basOf S.data.toList = (10, S.data.toList)) := by
  rcases Nat.lt_or_ge 1 S.size with hp | hp
  · have hl : 1 < S.data.toList.length := by rw [← Lib.size_eq]; exact hp
    have hsp : S.data.toList = S[0] :: S[1] :: S.data.toList.drop 2 := by
      have h1 := head_split S (by omega)
      have h2 := List.drop_eq_getElem_cons hl
      rw [h2] at h1
      exact h1
    by_cases h0 : S[0].toNat = 48
    · by_cases h1 : S[1].toNat = 120
      · refine .inr (.inr (.inl ⟨hp, h0, h1, ?_⟩))
        rw [two_more S hp]
        conv => lhs; rw [hsp, u8_of _ _ h0, u8_of _ _ h1]
        rfl
      · by_cases h2 : S[1].toNat = 111
        · refine .inr (.inr (.inr (.inl ⟨hp, h0, h2, ?_⟩)))
          rw [two_more S hp]
          conv => lhs; rw [hsp, u8_of _ _ h0, u8_of _ _ h2]
          rfl
        · by_cases h3 : S[1].toNat = 98
          · refine .inr (.inr (.inr (.inr (.inl ⟨hp, h0, h3, ?_⟩))))
            rw [two_more S hp]
            conv => lhs; rw [hsp, u8_of _ _ h0, u8_of _ _ h3]
            rfl
          · refine .inr (.inr (.inr (.inr (.inr ⟨hp, h0, h1, h2, h3, ?_⟩))))
            have n1 := u8_ne _ 120 (by omega) h1
            have n2 := u8_ne _ 111 (by omega) h2
            have n3 := u8_ne _ 98 (by omega) h3
            rw [hsp]
            generalize S[1] = c at n1 n2 n3
            generalize S[0] = d
            unfold basOf
            split
            · rename_i h; exact absurd (List.cons.inj (List.cons.inj h).2).1 n1
            · rename_i h; exact absurd (List.cons.inj (List.cons.inj h).2).1 n2
            · rename_i h; exact absurd (List.cons.inj (List.cons.inj h).2).1 n3
            · rfl
    · refine .inr (.inl ⟨hp, h0, ?_⟩)
      have n0 := u8_ne _ 48 (by omega) h0
      rw [hsp]
      generalize S[0] = d at n0
      unfold basOf
      split
      · rename_i h; exact absurd (List.cons.inj h).1 n0
      · rename_i h; exact absurd (List.cons.inj h).1 n0
      · rename_i h; exact absurd (List.cons.inj h).1 n0
      · rfl
  · refine .inl ⟨hp, ?_⟩
    have hl : S.data.toList.length ≤ 1 := by rw [← Lib.size_eq]; exact hp
    revert hl
    generalize S.data.toList = l
    intro hl
    match l, hl with
    | [], _ => rfl
    | [c], _ =>
      unfold basOf
      split <;> simp_all

set_option maxRecDepth 100000 in
set_option maxHeartbeats 8000000 in
theorem parse_any (s : ByteArray) (w : World) (hs : s.size ≤ 1000) :
    Calls Tryd.prog 57 #[.string s] w fun e w' => ParseIs w.heap.size s.data.toList w' e ∧ Below w.heap.size w w' := by
  go_enter Tryd.func57, Tryd.ntmps57
  go_upto_block 0 with fail
  go_cut [0] from 6 to 14 (fun v0 wx => wx = w.alloc (.cells #[.bool false, .slice none 0 0, .bool false, .bool false] 46) ∧ ∃ S : ByteArray, v0 = .string S ∧ S.size ≤ 1000 ∧ S.data.toList = s.data.toList.dropWhile wht)
  case first =>
    go_wp2_with fail
    go_loopg [0] s.size (fun g v0 wx => wx = w.alloc (.cells #[.bool false, .slice none 0 0, .bool false, .bool false] 46) ∧ ∃ S : ByteArray, v0 = .string S ∧ S.size = g ∧ g ≤ 1000 ∧ S.data.toList.dropWhile wht = s.data.toList.dropWhile wht)
    case atStart => exact ⟨rfl, s, rfl, rfl, hs, rfl⟩
    case round =>
      obtain ⟨rfl, S, rfl, hg, hg4, hT⟩ := hrel
      have HT := Lib.hid hT
      clear hT
      by_cases hE : S.toList.isEmpty = true
      · go_wp2
        go_meet
        refine ⟨rfl, S, rfl, by omega, ?_⟩
        rw [← HT.out, (empty_iff S).1 hE]
        rfl
      have hp := size_pos hE
      have hE' : S.toList.isEmpty = false := by simpa using hE
      clear hE
      have hp1 : (0 : Int) < (S.size : Int) := by omega
      have hp2 : (1 : Int) ≤ (S.size : Int) := by omega
      obtain ⟨c, hc0⟩ : ∃ c, S[0] = c := ⟨_, rfl⟩
      have HC0 := Lib.hid hc0
      have hc := fun W => white_any c W
      cases hh : wht c with
      | true =>
        simp only [hh] at hc
        have HC := Lib.hid hc
        have HN := Lib.hid (show (S.extract 1 S.size).data.toList.dropWhile wht = s.data.toList.dropWhile wht by
          rw [← HT.out, Lib.extract_data, List.take_of_length_le (by rw [List.length_drop, ← Lib.size_eq]; exact Nat.le_refl _)]
          conv => rhs; rw [head_split S hp, List.dropWhile_cons_of_pos (by rw [hc0]; exact hh)])
        obtain ⟨g, rfl⟩ : ∃ g, gk = g + 1 := ⟨gk - 1, by omega⟩
        have HG := Lib.hid hg
        clear hc hh hc0 hg
        go_wp2_with (go_at_call 106; rw [HC0.out]; refine (HC.out _).mono ?_; rintro e w' ⟨rfl, rfl⟩)
        go_roundg g
        case measure => omega
        case rel => exact ⟨rfl, S.extract 1 S.size, rfl, by have := HG.out; simp; omega, by omega, HN.out⟩
      | false =>
        simp only [hh] at hc
        have HC := Lib.hid hc
        have HN := Lib.hid (show S.data.toList = s.data.toList.dropWhile wht by
          rw [← HT.out]
          conv => rhs; rw [head_split S hp, List.dropWhile_cons_of_neg (by rw [hc0, hh]; simp), ← head_split S hp])
        clear hc hh hc0
        go_wp2_with (go_at_call 106; rw [HC0.out]; refine (HC.out _).mono ?_; rintro e w' ⟨rfl, rfl⟩)
        go_meet
        exact ⟨rfl, S, rfl, by omega, HN.out⟩
  case rest =>
    obtain ⟨rfl, S1, rfl, hS1, hD⟩ := hcut
    have HD := Lib.hid hD
    clear hD
    go_upto_block 2 with fail
    go_cut [0] from 15 to 29 (fun v0 wx => wx = w.alloc (.cells #[.bool false, .slice none 0 0, .bool false, .bool false] 46) ∧ ∃ S : ByteArray, v0 = .string S ∧ S.size ≤ 1000 ∧ S.data.toList = strip s.data.toList)
    case first =>
      go_wp2_with fail
      go_loopg [0] S1.size (fun g v0 wx => wx = w.alloc (.cells #[.bool false, .slice none 0 0, .bool false, .bool false] 46) ∧ ∃ T : ByteArray, v0 = .string T ∧ T.size = g ∧ g ≤ 1000 ∧ stripR T.data.toList = strip s.data.toList)
      case atStart => exact ⟨rfl, S1, rfl, rfl, hS1, by rw [strip_eq, HD.out]⟩
      case round =>
        obtain ⟨rfl, T, rfl, hg, hg4, hT⟩ := hrel
        have HT := Lib.hid hT
        clear hT
        by_cases hE : T.toList.isEmpty = true
        · go_wp2
          go_meet
          refine ⟨rfl, T, rfl, by omega, ?_⟩
          rw [← HT.out, (empty_iff T).1 hE]
          rfl
        have hp := size_pos hE
        have hE' : T.toList.isEmpty = false := by simpa using hE
        clear hE
        obtain ⟨j, hj⟩ : ∃ j, T.size = j + 1 := ⟨T.size - 1, by omega⟩
        have hjl : j < T.size := by omega
        have hp0 : (0 : Int) ≤ (j : Int) := by omega
        have hp1 : (j : Int) < (T.size : Int) := by omega
        have hp2 : (T.size : Int) - 1 = (j : Int) := by omega
        have hp3 : (j : Int) ≤ (T.size : Int) := by omega
        have hpw : wrap64 (j : Int) = (j : Int) := by unfold wrap64; omega
        obtain ⟨c, hc0⟩ : ∃ c, T[j] = c := ⟨_, rfl⟩
        have HC0 := Lib.hid hc0
        have hc := fun W => white_any c W
        have HJ := Lib.hid hj
        have HG := Lib.hid hg
        cases hh : wht c with
        | true =>
          simp only [hh] at hc
          have HC := Lib.hid hc
          have HN := Lib.hid (show stripR (T.extract 0 j).data.toList = strip s.data.toList by
            rw [← HT.out, Lib.extract_data, List.drop_zero, Nat.sub_zero]
            unfold stripR
            conv => rhs; rw [last_split T j hjl hj, List.dropWhile_cons_of_pos (by rw [hc0]; exact hh)])
          obtain ⟨g, rfl⟩ : ∃ g, gk = g + 1 := ⟨gk - 1, by omega⟩
          clear hc hh hj hg hc0
          go_wp2_with (go_at_call 106; rw [HC0.out]; refine (HC.out _).mono ?_; rintro e w' ⟨rfl, rfl⟩)
          go_roundg g
          case measure => omega
          case rel => exact ⟨rfl, T.extract 0 j, rfl, by have := HG.out; have := HJ.out; simp; omega, by omega, HN.out⟩
        | false =>
          simp only [hh] at hc
          have HC := Lib.hid hc
          have HN := Lib.hid (show T.data.toList = strip s.data.toList by
            rw [← HT.out]
            unfold stripR
            rw [last_split T j hjl hj, List.dropWhile_cons_of_neg (by rw [hc0, hh]; simp), ← last_split T j hjl hj, List.reverse_reverse])
          clear hc hh hj hg hc0
          go_wp2_with (go_at_call 106; rw [HC0.out]; refine (HC.out _).mono ?_; rintro e w' ⟨rfl, rfl⟩)
          go_meet
          exact ⟨rfl, T, rfl, by have := HG.out; omega, HN.out⟩
    case rest =>
      obtain ⟨rfl, S, rfl, hS, hT⟩ := hcut
      have HT := Lib.hid hT
      clear hT
      go_upto_region 6 with fail
      go_cut [41] from 30 to 41 (fun v41 wx => wx = w.alloc (.cells #[.bool false, .slice none 0 0, .bool false, .bool false] 46) ∧ ∃ t : Bool, v41 = .bool t ∧ ((t = false ∧ sgnOf S.data.toList = (false, S.data.toList)) ∨ (t = true ∧ ∃ (_h : 0 < S.size) (sg : Bool), (S[0].toNat = if sg then 45 else 43) ∧ sgnOf S.data.toList = (sg, (S.extract 1 S.size).data.toList))))
      case first =>
        rcases sgn_cases S with ⟨he, hsg⟩ | ⟨hp, h45, hsg⟩ | ⟨hp, h45, h43, hsg⟩ | ⟨hp, h45, h43, hsg⟩
        · have HS := Lib.hid hsg
          clear hsg
          go_wp2
          go_meet
          exact ⟨rfl, false, rfl, .inl ⟨rfl, HS.out⟩⟩
        all_goals
          have hE' : S.toList.isEmpty = false := by
            cases h : S.toList.isEmpty with
            | false => rfl
            | true => have h1 := (empty_iff S).1 h; have h2 := Lib.size_eq S; rw [h1] at h2; have h3 : S.size = 0 := h2; omega
          have hpI : (0 : Int) < (S.size : Int) := by omega
          have HS := Lib.hid hsg
          have HP := Lib.hid hp
          clear hsg
        · have g1 : (S[0].toNat : Int) = 45 := by omega
          have H45 := Lib.hid h45
          clear h45
          go_wp2
          go_meet
          exact ⟨rfl, true, rfl, .inr ⟨rfl, HP.out, true, H45.out, HS.out⟩⟩
        · have g1 : ((S[0].toNat : Int) == 45) = false := by simp; omega
          have g2 : (S[0].toNat : Int) = 43 := by omega
          have g2' : ((S[0].toNat : Int) == 43) = true := by simp; omega
          have n1 : ¬ (S[0].toNat : Int) = 45 := by omega
          have H43 := Lib.hid h43
          have G := Lib.hid (And.intro g1 g2')
          clear h45 h43
          go_wp2
          go_meet
          exact ⟨rfl, true, by first | rfl | (simp only [Value.bool.injEq, Bool.or_eq_true, beq_iff_eq]; exact .inr g2), .inr ⟨rfl, HP.out, false, H43.out, HS.out⟩⟩
        · have g1 : ((S[0].toNat : Int) == 45) = false := by simp; omega
          have g2 : ((S[0].toNat : Int) == 43) = false := by simp; omega
          have n1 : ¬ (S[0].toNat : Int) = 45 := by omega
          have n2 : ¬ (S[0].toNat : Int) = 43 := by omega
          have G := Lib.hid (And.intro g1 g2)
          clear h45 h43
          go_wp2
          go_meet
          exact ⟨rfl, false, by first | rfl | (simp only [Value.bool.injEq, Bool.or_eq_false_iff, beq_eq_false_iff_ne]; exact ⟨n1, n2⟩), .inl ⟨rfl, HS.out⟩⟩
      case rest =>
        obtain ⟨rfl, t, rfl, hor⟩ := hcut
        have HOR := Lib.hid hor
        clear hor
        go_upto_if 41 with fail
        go_cut [0, 4] from 42 to 46 (fun v0 v4 wx => wx = w.alloc (.cells #[.bool false, .slice none 0 0, .bool false, .bool false] 46) ∧ ∃ (X : ByteArray) (sg : Bool), v0 = .string X ∧ v4 = .bool sg ∧ X.size ≤ 1000 ∧ sgnOf S.data.toList = (sg, X.data.toList))
        case first =>
          cases t with
          | false =>
            have HS := Lib.hid (show sgnOf S.data.toList = (false, S.data.toList) by
              rcases HOR.out with ⟨_, h⟩ | ⟨h, _⟩
              · exact h
              · cases h)
            go_wp2
            go_meet
            exact ⟨rfl, S, false, rfl, rfl, hS, HS.out⟩
          | true =>
            obtain ⟨hp, sg, hc, hsg⟩ : ∃ (_h : 0 < S.size) (sg : Bool), (S[0].toNat = if sg then 45 else 43) ∧ sgnOf S.data.toList = (sg, (S.extract 1 S.size).data.toList) := by
              rcases HOR.out with ⟨h, _⟩ | ⟨_, h⟩
              · cases h
              · exact h
            have HS := Lib.hid hsg
            have hpI : (0 : Int) < (S.size : Int) := by omega
            have hpI1 : (1 : Int) ≤ (S.size : Int) := by omega
            clear hsg
            cases sg with
            | true =>
              have g1 : (S[0].toNat : Int) = 45 := by simp at hc; omega
              clear hc
              go_wp2
              go_meet
              exact ⟨rfl, S.extract 1 S.size, true, rfl, by first | rfl | simp [g1], by simp; omega, HS.out⟩
            | false =>
              have g1 : (S[0].toNat : Int) = 43 := by simp at hc; omega
              clear hc
              go_wp2
              go_meet
              exact ⟨rfl, S.extract 1 S.size, false, rfl, by first | rfl | simp [g1], by simp; omega, HS.out⟩
        case rest =>
          obtain ⟨rfl, X, sg, rfl, rfl, hX, hsg⟩ := hcut
          have HSG := Lib.hid (show (sgnOf (strip s.data.toList)).1 = sg ∧ (sgnOf (strip s.data.toList)).2 = X.data.toList by rw [← HT.out, hsg]; exact ⟨rfl, rfl⟩)
          clear hsg
          rcases bas_cases X with ⟨hp, hb⟩ | ⟨hp, h0, hb⟩ | ⟨hp, h0, h1, hb⟩ | ⟨hp, h0, h1, hb⟩ | ⟨hp, h0, h1, hb⟩ | ⟨hp, h0, h1, h2, h3, hb⟩
          · have HB := Lib.hid hb
            have hof : ∀ W, Calls Tryd.prog 96 #[.string X, .int .i64 10, .bool sg] W fun e w' => OfIs W.heap.size 10 sg (X).data.toList w' e ∧ Below W.heap.size W w' := fun W => ofDigits_any X 10 sg W hX (by omega) (by omega)
            have HO := Lib.hid hof
            have hpI : ¬ (1 : Int) < (X.size : Int) := by omega
            have hpN : ¬ 1 < X.size := by omega
            clear hb hof
            go_wp2_with (go_at_call 96; refine (HO.out _).mono ?_; rintro e w3 ⟨hofis, hb3⟩; obtain ⟨sb, av, nv, cv, lg, od, tt, rfl, hfar⟩ := hofis.form; have hz3 := hb3.size; obtain ⟨q0, q1, q2, q3, q4, q5, q6, q7⟩ := ((Has.new w 46 #[.bool false, .slice none 0 0, .bool false, .bool false]).below hb3).four)
            refine bodyPost_ret (v := .tuple #[.agg #[.bool sb, .slice av nv cv, .bool lg, .bool od], .bool tt]) (by simp [results, Tryd.results57, go_sem, World.cell?_setCell_same', q0, q1, q2, q3]) rfl ⟨parseIs_of HSG.out.1 (by rw [HSG.out.2]; exact HB.out) ((hfar w.heap.size _ _ _ _ (by simp)).mono (by simp)), Below.four (((Below.refl w.heap.size w).alloc (Nat.le_refl _) _).trans (hb3.mono (by simp))) (Nat.le_refl _) _ _ _ _⟩
          · have HB := Lib.hid hb
            have hof : ∀ W, Calls Tryd.prog 96 #[.string X, .int .i64 10, .bool sg] W fun e w' => OfIs W.heap.size 10 sg (X).data.toList w' e ∧ Below W.heap.size W w' := fun W => ofDigits_any X 10 sg W hX (by omega) (by omega)
            have HO := Lib.hid hof
            have hpI : (1 : Int) < (X.size : Int) := by omega
            have hpJ : (2 : Int) ≤ (X.size : Int) := by omega
            have g0 : ((X[0].toNat : Int) == 48) = false := by simp; omega
            have g0' : ¬ (X[0].toNat : Int) = 48 := by omega
            clear hb hof
            go_wp2_with (go_at_call 96; refine (HO.out _).mono ?_; rintro e w3 ⟨hofis, hb3⟩; obtain ⟨sb, av, nv, cv, lg, od, tt, rfl, hfar⟩ := hofis.form; have hz3 := hb3.size; obtain ⟨q0, q1, q2, q3, q4, q5, q6, q7⟩ := ((Has.new w 46 #[.bool false, .slice none 0 0, .bool false, .bool false]).below hb3).four)
            refine bodyPost_ret (v := .tuple #[.agg #[.bool sb, .slice av nv cv, .bool lg, .bool od], .bool tt]) (by simp [results, Tryd.results57, go_sem, World.cell?_setCell_same', q0, q1, q2, q3]) rfl ⟨parseIs_of HSG.out.1 (by rw [HSG.out.2]; exact HB.out) ((hfar w.heap.size _ _ _ _ (by simp)).mono (by simp)), Below.four (((Below.refl w.heap.size w).alloc (Nat.le_refl _) _).trans (hb3.mono (by simp))) (Nat.le_refl _) _ _ _ _⟩
          · have HB := Lib.hid hb
            have hof : ∀ W, Calls Tryd.prog 96 #[.string (X.extract 2 X.size), .int .i64 16, .bool sg] W fun e w' => OfIs W.heap.size 16 sg ((X.extract 2 X.size)).data.toList w' e ∧ Below W.heap.size W w' := fun W => ofDigits_any (X.extract 2 X.size) 16 sg W (by simp; omega) (by omega) (by omega)
            have HO := Lib.hid hof
            have hpI : (1 : Int) < (X.size : Int) := by omega
            have hpJ : (2 : Int) ≤ (X.size : Int) := by omega
            have g0 : (X[0].toNat : Int) = 48 := by omega
            have g1 : (X[1].toNat : Int) = 120 := by omega
            clear hb hof
            go_wp2_with (go_at_call 96; refine (HO.out _).mono ?_; rintro e w3 ⟨hofis, hb3⟩; obtain ⟨sb, av, nv, cv, lg, od, tt, rfl, hfar⟩ := hofis.form; have hz3 := hb3.size; obtain ⟨q0, q1, q2, q3, q4, q5, q6, q7⟩ := ((Has.new w 46 #[.bool false, .slice none 0 0, .bool false, .bool false]).below hb3).four)
            refine bodyPost_ret (v := .tuple #[.agg #[.bool sb, .slice av nv cv, .bool lg, .bool od], .bool tt]) (by simp [results, Tryd.results57, go_sem, World.cell?_setCell_same', q0, q1, q2, q3]) rfl ⟨parseIs_of HSG.out.1 (by rw [HSG.out.2]; exact HB.out) ((hfar w.heap.size _ _ _ _ (by simp)).mono (by simp)), Below.four (((Below.refl w.heap.size w).alloc (Nat.le_refl _) _).trans (hb3.mono (by simp))) (Nat.le_refl _) _ _ _ _⟩
          · have HB := Lib.hid hb
            have hof : ∀ W, Calls Tryd.prog 96 #[.string (X.extract 2 X.size), .int .i64 8, .bool sg] W fun e w' => OfIs W.heap.size 8 sg ((X.extract 2 X.size)).data.toList w' e ∧ Below W.heap.size W w' := fun W => ofDigits_any (X.extract 2 X.size) 8 sg W (by simp; omega) (by omega) (by omega)
            have HO := Lib.hid hof
            have hpI : (1 : Int) < (X.size : Int) := by omega
            have hpJ : (2 : Int) ≤ (X.size : Int) := by omega
            have g0 : (X[0].toNat : Int) = 48 := by omega
            have g1 : (X[1].toNat : Int) = 111 := by omega
            clear hb hof
            go_wp2_with (go_at_call 96; refine (HO.out _).mono ?_; rintro e w3 ⟨hofis, hb3⟩; obtain ⟨sb, av, nv, cv, lg, od, tt, rfl, hfar⟩ := hofis.form; have hz3 := hb3.size; obtain ⟨q0, q1, q2, q3, q4, q5, q6, q7⟩ := ((Has.new w 46 #[.bool false, .slice none 0 0, .bool false, .bool false]).below hb3).four)
            refine bodyPost_ret (v := .tuple #[.agg #[.bool sb, .slice av nv cv, .bool lg, .bool od], .bool tt]) (by simp [results, Tryd.results57, go_sem, World.cell?_setCell_same', q0, q1, q2, q3]) rfl ⟨parseIs_of HSG.out.1 (by rw [HSG.out.2]; exact HB.out) ((hfar w.heap.size _ _ _ _ (by simp)).mono (by simp)), Below.four (((Below.refl w.heap.size w).alloc (Nat.le_refl _) _).trans (hb3.mono (by simp))) (Nat.le_refl _) _ _ _ _⟩
          · have HB := Lib.hid hb
            have hof : ∀ W, Calls Tryd.prog 96 #[.string (X.extract 2 X.size), .int .i64 2, .bool sg] W fun e w' => OfIs W.heap.size 2 sg ((X.extract 2 X.size)).data.toList w' e ∧ Below W.heap.size W w' := fun W => ofDigits_any (X.extract 2 X.size) 2 sg W (by simp; omega) (by omega) (by omega)
            have HO := Lib.hid hof
            have hpI : (1 : Int) < (X.size : Int) := by omega
            have hpJ : (2 : Int) ≤ (X.size : Int) := by omega
            have g0 : (X[0].toNat : Int) = 48 := by omega
            have g1 : (X[1].toNat : Int) = 98 := by omega
            clear hb hof
            go_wp2_with (go_at_call 96; refine (HO.out _).mono ?_; rintro e w3 ⟨hofis, hb3⟩; obtain ⟨sb, av, nv, cv, lg, od, tt, rfl, hfar⟩ := hofis.form; have hz3 := hb3.size; obtain ⟨q0, q1, q2, q3, q4, q5, q6, q7⟩ := ((Has.new w 46 #[.bool false, .slice none 0 0, .bool false, .bool false]).below hb3).four)
            refine bodyPost_ret (v := .tuple #[.agg #[.bool sb, .slice av nv cv, .bool lg, .bool od], .bool tt]) (by simp [results, Tryd.results57, go_sem, World.cell?_setCell_same', q0, q1, q2, q3]) rfl ⟨parseIs_of HSG.out.1 (by rw [HSG.out.2]; exact HB.out) ((hfar w.heap.size _ _ _ _ (by simp)).mono (by simp)), Below.four (((Below.refl w.heap.size w).alloc (Nat.le_refl _) _).trans (hb3.mono (by simp))) (Nat.le_refl _) _ _ _ _⟩
          · have HB := Lib.hid hb
            have hof : ∀ W, Calls Tryd.prog 96 #[.string X, .int .i64 10, .bool sg] W fun e w' => OfIs W.heap.size 10 sg (X).data.toList w' e ∧ Below W.heap.size W w' := fun W => ofDigits_any X 10 sg W hX (by omega) (by omega)
            have HO := Lib.hid hof
            have hpI : (1 : Int) < (X.size : Int) := by omega
            have hpJ : (2 : Int) ≤ (X.size : Int) := by omega
            have g0 : (X[0].toNat : Int) = 48 := by omega
            have g1 : ((X[1].toNat : Int) == 120) = false := by simp; omega
            have g1' : ¬ (X[1].toNat : Int) = 120 := by omega
            have g2 : ((X[1].toNat : Int) == 111) = false := by simp; omega
            have g2' : ¬ (X[1].toNat : Int) = 111 := by omega
            have g3 : ((X[1].toNat : Int) == 98) = false := by simp; omega
            have g3' : ¬ (X[1].toNat : Int) = 98 := by omega
            clear hb hof
            go_wp2_with (go_at_call 96; refine (HO.out _).mono ?_; rintro e w3 ⟨hofis, hb3⟩; obtain ⟨sb, av, nv, cv, lg, od, tt, rfl, hfar⟩ := hofis.form; have hz3 := hb3.size; obtain ⟨q0, q1, q2, q3, q4, q5, q6, q7⟩ := ((Has.new w 46 #[.bool false, .slice none 0 0, .bool false, .bool false]).below hb3).four)
            refine bodyPost_ret (v := .tuple #[.agg #[.bool sb, .slice av nv cv, .bool lg, .bool od], .bool tt]) (by simp [results, Tryd.results57, go_sem, World.cell?_setCell_same', q0, q1, q2, q3]) rfl ⟨parseIs_of HSG.out.1 (by rw [HSG.out.2]; exact HB.out) ((hfar w.heap.size _ _ _ _ (by simp)).mono (by simp)), Below.four (((Below.refl w.heap.size w).alloc (Nat.le_refl _) _).trans (hb3.mono (by simp))) (Nat.le_refl _) _ _ _ _⟩
end Go.Proofs.YtmnibfdenmeepaaDoor
