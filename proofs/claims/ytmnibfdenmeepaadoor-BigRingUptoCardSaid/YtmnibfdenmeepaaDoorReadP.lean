/- read of the program: the number that digits are. -/
import Derived.Test.YtmnibfdenmeepaaDoorTimesPlus
namespace Go.Proofs.YtmnibfdenmeepaaDoor
open Go.RowKit Go.Shelf Big

theorem rdn_append (b : Nat) (l r : List UInt8) : rdn b (l ++ r) = rdn b l * b ^ r.length + rdn b r := by
  have h : ∀ (r : List UInt8) (a : Nat), r.foldl (fun a c => a * b + dg c) a = a * b ^ r.length + r.foldl (fun a c => a * b + dg c) 0 := by
    intro r
    induction r with
    | nil => intro a; simp
    | cons c r ih =>
      intro a
      simp only [List.foldl_cons, List.length_cons]
      rw [ih (a * b + dg c), ih (0 * b + dg c), Nat.pow_succ, Nat.add_mul, Nat.zero_mul, Nat.zero_add, Nat.mul_assoc, Nat.mul_comm b]
      omega
  unfold rdn
  rw [List.foldl_append, h r]
theorem rdn_lt {b : Nat} {l : List UInt8} (h : ∀ c ∈ l, dg c < b) : rdn b l < b ^ l.length := by
  rw [rdn_ev]
  have := ev_lt (B := b) (l := (l.map dg).reverse) (by intro d hd; simp only [List.mem_reverse, List.mem_map] at hd; obtain ⟨c, hc, rfl⟩ := hd; exact h c hc)
  simpa using this
theorem rdn_zero {b : Nat} (l : List UInt8) : rdn b (48 :: l) = rdn b l := by
  unfold rdn
  simp [dg]
/-- All are digits of a base. -/
def Okb (b : Nat) (l : List UInt8) : Prop := ∀ c ∈ l, dg c < b
theorem okb_drop {b : Nat} {l : List UInt8} (h : Okb b l) (k : Nat) : Okb b (l.drop k) := fun c hc => h c (List.mem_of_mem_drop hc)
theorem okb_take {b : Nat} {l : List UInt8} (h : Okb b l) (k : Nat) : Okb b (l.take k) := fun c hc => h c (List.mem_of_mem_take hc)
theorem empty_iff (n : ByteArray) : n.toList.isEmpty = true ↔ n.data.toList = [] := by rw [Lib.toList_data]; simp
theorem head_split (S : ByteArray) (h : 0 < S.size) : S.data.toList = S[0] :: S.data.toList.drop 1 := by
  have hl : 0 < S.data.toList.length := by rw [← Lib.size_eq]; exact h
  have h2 := List.drop_eq_getElem_cons hl
  rw [List.drop_zero] at h2
  exact h2
theorem size_pos {S : ByteArray} (hE : ¬ S.toList.isEmpty = true) : 0 < S.size := by
  rcases Nat.eq_zero_or_pos S.size with h | h
  · exact absurd ((empty_iff S).2 (List.eq_nil_of_length_eq_zero (by rw [← Lib.size_eq]; exact h))) hE
  · exact h
theorem take_snoc (s : ByteArray) (k : Nat) (h : k < s.size) : s.data.toList.take (k + 1) = s.data.toList.take k ++ [s[k]] := by
  rw [List.take_succ_eq_append_getElem (by rw [← Lib.size_eq]; exact h)]; rfl
theorem u8_eq (c : UInt8) (h : (c.toNat : Int) = 48) : c = 48 := UInt8.toNat_inj.1 (by have : (48 : UInt8).toNat = 48 := rfl; omega)
theorem lims_short {n k : Nat} (h : n < 4294967296 ^ k) (hk : k ≤ 100000) : (lims 4294967296 n).length ≤ 100000 := Nat.le_trans ((lims_len_le w32_ge n k).2 h) hk
theorem pow_short (b k : Nat) (hb : b ≤ 36) : b ^ k ≤ 4294967296 ^ k := Nat.pow_le_pow_left (by omega) k

set_option maxRecDepth 100000 in
set_option maxHeartbeats 8000000 in
theorem read_any (s : ByteArray) (b : Nat) (w : World) (hs : s.size ≤ 1000) (hb : 2 ≤ b) (hb2 : b ≤ 36) (hok : Okb b s.data.toList) :
    Calls Tryd.prog 121 #[.string s, .int .i64 (b : Int)] w fun e w' => (∃ v, e = .returned (.tuple #[v, .bool false]) ∧ NatIs w' w.heap.size v (rdn b s.data.toList)) ∧ Below w.heap.size w w' := by
  have HOK := Lib.hid hok
  clear hok
  go_enter Tryd.func121, Tryd.ntmps121
  go_upto_block 0 with fail
  go_cut [0] from 12 to 20 (fun v0 wx => w = wx ∧ ∃ S : ByteArray, v0 = .string S ∧ S.size ≤ 1000 ∧ rdn b S.data.toList = rdn b s.data.toList ∧ Okb b S.data.toList)
  case first =>
    go_wp2_with fail
    go_loopg [0] s.size (fun g v0 wx => w = wx ∧ ∃ S : ByteArray, v0 = .string S ∧ S.size = g ∧ g ≤ 1000 ∧ rdn b S.data.toList = rdn b s.data.toList ∧ Okb b S.data.toList)
    case atStart => exact ⟨rfl, s, rfl, rfl, hs, rfl, HOK.out⟩
    case round =>
      obtain ⟨rfl, S, rfl, hg, hg2, hR, hO⟩ := hrel
      have HR := Lib.hid hR
      have HO := Lib.hid hO
      have HG := Lib.hid hg
      have hSz : S.size ≤ 1000 := by omega
      clear hR hO hg
      by_cases hE : S.toList.isEmpty = true
      · go_wp2
        go_meet
        exact ⟨rfl, S, rfl, hSz, HR.out, HO.out⟩
      · have hp := size_pos hE
        have hE' : S.toList.isEmpty = false := by simpa using hE
        have hpI : (0 : Int) < (S.size : Int) := by omega
        have hp1 : (1 : Int) ≤ (S.size : Int) := by omega
        clear hE
        by_cases h48 : (S[0].toNat : Int) = 48
        · have HN := Lib.hid (show rdn b (S.extract 1 S.size).data.toList = rdn b s.data.toList ∧ Okb b (S.extract 1 S.size).data.toList by
            rw [Lib.extract_data, List.take_of_length_le (by rw [List.length_drop, ← Lib.size_eq]; exact Nat.le_refl _)]
            refine ⟨?_, okb_drop HO.out 1⟩
            rw [← HR.out]
            conv => rhs; rw [head_split S hp, u8_eq _ h48, rdn_zero])
          obtain ⟨g, rfl⟩ : ∃ g, gk = g + 1 := ⟨gk - 1, by have := HG.out; omega⟩
          go_wp2
          go_roundg g
          case measure => omega
          case rel => exact ⟨rfl, S.extract 1 S.size, rfl, by have := HG.out; simp; omega, by omega, HN.out.1, HN.out.2⟩
        · have h48E : ((S[0].toNat : Int) == 48) = false := by simpa using h48
          go_wp2
          go_meet
          exact ⟨rfl, S, rfl, hSz, HR.out, HO.out⟩
  case rest =>
    obtain ⟨rfl, S0, rfl, hS0, hR0, hO0⟩ := hcut
    have HR0 := Lib.hid hR0
    have HO0 := Lib.hid hO0
    clear hR0 hO0
    go_wp2_with (go_at_call 117; refine (chunk_any b _ hb hb2).mono ?_; rintro e w' ⟨⟨k, m, hk1, hk2, hk3, hm, rfl⟩, rfl⟩; have Hm := Lib.hid hm; clear hm)
    go_loopg [0, 4] S0.size (fun g v0 v4 wx => ∃ (S : ByteArray) (a : Nat), v0 = .string S ∧ S.size = g ∧ g ≤ 1000 ∧ NatIs wx w.heap.size v4 a ∧ a < b ^ (1000 - g) ∧ rdn b s.data.toList = a * b ^ S.size + rdn b S.data.toList ∧ Okb b S.data.toList ∧ Below w.heap.size w wx)
    case atStart =>
      refine ⟨S0, 0, rfl, rfl, hS0, ?_, Nat.pow_pos (by omega), by rw [HR0.out]; simp, HO0.out, Below.refl _ _⟩
      unfold NatIs
      rw [lims_zero]
      exact World.ownsRow_nil _ _ _ _
    case round =>
      obtain ⟨G, rfl⟩ : ∃ G, G = gk := ⟨_, rfl⟩
      obtain ⟨S, a, rfl, hg, hg2, hna, hab, hR, hO, hB⟩ := hrel
      have HR := Lib.hid hR
      have HO := Lib.hid hO
      have HG := Lib.hid hg
      have hSz : S.size ≤ 1000 := by omega
      have hz := hB.size
      obtain ⟨av, cv, rfl⟩ := hna.slice
      clear hR hO hg
      by_cases hE : S.toList.isEmpty = true
      · have HV := Lib.hid (show rdn b s.data.toList = a by
          have h1 := (empty_iff S).1 hE
          have h2 : S.size = 0 := by rw [Lib.size_eq, h1]; rfl
          rw [HR.out, h1, h2]
          simp [rdn])
        go_wp2
        go_ret2
        rw [HV.out]
        exact ⟨⟨_, rfl, hna⟩, hB⟩
      · have hp := size_pos hE
        have hE' : S.toList.isEmpty = false := by simpa using hE
        clear hE
        by_cases hmn : S.size < k
        case' pos => obtain ⟨n, hn1, hn2, hn3⟩ : ∃ n, n ≤ S.size ∧ n ≤ k ∧ S.size ≤ n := ⟨S.size, by omega, by omega, by omega⟩
        case' neg => obtain ⟨n, hn1, hn2, hn3⟩ : ∃ n, n ≤ S.size ∧ n ≤ k ∧ k ≤ n := ⟨k, by omega, by omega, by omega⟩
        all_goals
          go_wp2_with fail
          go_loopg [9, 10, 36] n (fun gh v9 v10 v36 wx => wr = wx ∧ ∃ i st p : Nat, v36 = .int .i64 (i : Int) ∧ i + gh = n ∧ v9 = .int .u32 (st : Int) ∧ v10 = .int .u32 (p : Int) ∧ b ^ i = st ∧ p = rdn b (S.data.toList.take i) ∧ st < 4294967296 ∧ p < st)
          case atStart => exact ⟨rfl, 0, 1, 0, rfl, by omega, rfl, rfl, rfl, rfl, by omega, by omega⟩
          case round =>
            obtain ⟨rfl, i, st, p, rfl, hig, rfl, rfl, hst, hp2, hst2, hpst⟩ := hrel
            have Hst := Lib.hid hst
            have Hp := Lib.hid hp2
            clear hst hp2
            by_cases hi : i < n
            · have hiS : i < S.size := by omega
              have t1 : (i : Int) < (S.size : Int) := by omega
              have t2 : (i : Int) < (k : Int) := by omega
              have hd := HO.out S[i] (by
                have := List.getElem_mem (l := S.data.toList) (n := i) (by rw [← Lib.size_eq]; exact hiS)
                exact this)
              have hpw : b ^ (i + 1) = st * b := by rw [Nat.pow_succ, Hst.out]
              have hle : b ^ (i + 1) ≤ b ^ k := Nat.pow_le_pow_right (by omega) (by omega)
              rw [Hm.out, hpw] at hle
              have hpb : p * b + b ≤ st * b := by
                have := Nat.mul_le_mul_right b (show p + 1 ≤ st from hpst)
                rw [Nat.add_mul, Nat.one_mul] at this
                exact this
              have htk := take_snoc S i hiS
              obtain ⟨c, hc⟩ : ∃ c, S[i] = c := ⟨_, rfl⟩
              rw [hc] at hd htk
              obtain ⟨d, hde⟩ : ∃ d, dg c = d := ⟨_, rfl⟩
              have hdig := fun W => digit_any c W
              rw [hde] at hd
              simp only [hde] at hdig
              have m1 : (st : Int) * (b : Int) = ((st * b : Nat) : Int) := (Int.natCast_mul _ _).symm
              have m2 : (p : Int) * (b : Int) = ((p * b : Nat) : Int) := (Int.natCast_mul _ _).symm
              have HP := Lib.hid (show p * b + d = rdn b (S.data.toList.take (i + 1)) by rw [htk, rdn_snoc, ← Hp.out, hde])
              have HC := Lib.hid hc
              obtain ⟨Q, hQ⟩ : ∃ Q, st * b = Q := ⟨_, rfl⟩
              obtain ⟨R, hR⟩ : ∃ R, p * b = R := ⟨_, rfl⟩
              rw [hQ] at m1 hle hpb hpw
              rw [hR] at m2 hpb HP
              have HW := Lib.hid hpw
              have HD := Lib.hid hdig
              clear hQ hR hpw hde hc htk hdig
              obtain ⟨gh, rfl⟩ : ∃ gh, gk = gh + 1 := ⟨gk - 1, by omega⟩
              go_wp2_with (go_at_call 120; rw [HC.out]; refine (HD.out _).mono ?_; rintro e w' ⟨rfl, rfl⟩)
              go_roundg gh
              case measure => omega
              case rel => exact ⟨rfl, i + 1, Q, R + d, by go_num, by omega, rfl, by first | rfl | go_num, HW.out, HP.out, by omega, by omega⟩
            · obtain rfl : i = n := by omega
              have hstp : 0 < st := by omega
              have hlen : (lims 4294967296 a).length ≤ 100000 := lims_short (k := 1000 - G) (Nat.lt_of_lt_of_le hab (pow_short b _ hb2)) (by omega)
              have htp := timesPlus_any w.heap.size a st p _ wr hna hlen hstp hst2 (by omega) hz
              have hin : 0 < i := by omega
              have HN := Lib.hid (show ∀ X : ByteArray, X = S.extract i S.size → X.size = G - i ∧ rdn b s.data.toList = (a * st + p) * b ^ X.size + rdn b X.data.toList ∧ Okb b X.data.toList by
                rintro X rfl
                obtain ⟨x, rfl⟩ : ∃ x, x = i := ⟨_, rfl⟩
                have hsz : (S.extract x S.size).size = G - x := by have := HG.out; simp; omega
                have hda : (S.extract x S.size).data.toList = S.data.toList.drop x := by
                  rw [Lib.extract_data, List.take_of_length_le (by rw [List.length_drop, ← Lib.size_eq]; exact Nat.le_refl _)]
                refine ⟨hsz, ?_, by rw [hda]; exact okb_drop HO.out x⟩
                rw [hsz, hda, HR.out, Hp.out]
                have h1 : rdn b S.data.toList = rdn b (S.data.toList.take x) * b ^ (S.data.toList.drop x).length + rdn b (S.data.toList.drop x) := by
                  conv => lhs; rw [← List.take_append_drop x S.data.toList]
                  exact rdn_append _ _ _
                have h2 : (S.data.toList.drop x).length = G - x := by rw [List.length_drop, ← Lib.size_eq, HG.out]
                rw [h1, h2, HG.out, show G = x + (G - x) by have := HG.out; omega, Nat.pow_add, Hst.out, show x + (G - x) - x = G - x by omega, Nat.add_mul, Nat.mul_assoc]
                omega)
              have hX : ByteArray.empty = S.extract S.size S.size := by simp
              have HX := Lib.hid hX
              have HGi := Lib.hid (show G - i < G by have := HG.out; omega)
              clear hX
              have hlt : a * st + p < b ^ (1000 - (G - i)) := by
                have h1 : 1000 - (G - i) = (1000 - G) + i := by have := HG.out; omega
                rw [h1, Nat.pow_add, Hst.out]
                have h2 : (a + 1) * st ≤ b ^ (1000 - G) * st := Nat.mul_le_mul_right _ hab
                rw [Nat.add_mul, Nat.one_mul] at h2
                omega
              obtain ⟨A, hA⟩ : ∃ A, a * st + p = A := ⟨_, rfl⟩
              rw [hA] at htp HN hlt
              clear hA hna Hst Hp
              go_wp2_with (go_at_call 135; refine htp.mono ?_; rintro e w5 ⟨⟨v5, rfl, hn5⟩, hb5⟩; obtain ⟨a5, c5, rfl⟩ := hn5.slice)
              go_roundg (G - i)
              case measure => exact HGi.out
              case rel =>
                have HM := HN.out _ (show _ = S.extract i S.size by first | exact HX.out.trans (by rw [show i = S.size by omega]) | exact (show S.extract k S.size = S.extract i S.size by rw [show i = k by omega]))
                exact ⟨_, A, rfl, HM.1, by omega, hn5, hlt, HM.2.1, HM.2.2, hB.trans hb5⟩
end Go.Proofs.YtmnibfdenmeepaaDoor
