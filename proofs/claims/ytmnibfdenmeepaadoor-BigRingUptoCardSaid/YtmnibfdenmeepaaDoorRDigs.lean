/- digits of the reference. -/
import Derived.Test.YtmnibfdenmeepaaDoorRTimes
namespace Go.Proofs.YtmnibfdenmeepaaDoor
open Go.RowKit Go.Shelf Big

def k1200 : Nat := 1200
/-- What reading digits of a base answers: exact, or far too long. -/
def DigRes (B b : Nat) (l : List UInt8) (w' : World) (e : Ending) : Prop :=
  ∃ v n, e = .returned (.tuple #[v, .bool (okn b l)]) ∧ DecIs w' B v n ∧ (okn b l = true → n = rdn b l ∨ (10 ^ k1200 ≤ n ∧ n ≤ rdn b l))
theorem take_snoc' (s : ByteArray) (i : Nat) (h : i < s.size) : s.data.toList.take (i + 1) = s.data.toList.take i ++ [s[i]] := by
  rw [List.take_succ_eq_append_getElem (by rw [← Lib.size_eq]; exact h)]
  rfl
theorem dec_far {n : Nat} (h : 1200 < (lims 10 n).length) : 10 ^ k1200 ≤ n := by
  rcases Nat.lt_or_ge n (10 ^ k1200) with h1 | h1
  · have := (lims_len_le ten_ge n k1200).2 h1
    have e : k1200 = 1200 := rfl
    omega
  · exact h1

set_option maxRecDepth 100000 in
set_option maxHeartbeats 4000000 in
theorem rdigits_any (s : ByteArray) (b : Nat) (w : World) (hs : s.size ≤ 1000000000000) (hb2 : 2 ≤ b) (hb : b ≤ 36) :
    Calls Tryd.prog 97 #[.string s, .int .i64 (b : Int)] w fun e w' => DigRes w.heap.size b s.data.toList w' e ∧ Below w.heap.size w w' := by
  have HDg := Lib.hid (fun c W => rDigit_any c b hb W)
  have hlen : s.data.toList.length = s.size := (Lib.size_eq s).symm
  have HLEN := Lib.hid hlen
  clear hlen
  go_enter Tryd.func97, Tryd.ntmps97
  go_wp2_with fail
  go_loopg [6, 7, 12] s.size (fun g v6 v7 v12 wx => ∃ (i N : Nat) (z : Bool), v12 = .int .i64 (i : Int) ∧ v7 = .bool z ∧ i + g = s.size ∧ (∀ c ∈ s.data.toList.take i, dg c < b) ∧ DecIs wx w.heap.size v6 N ∧ (lims 10 N).length ≤ 2000 ∧ (z = true → rdn b (s.data.toList.take i) = 0 ∧ N = 0) ∧ (N = rdn b (s.data.toList.take i) ∨ (1200 < (lims 10 N).length ∧ N ≤ rdn b (s.data.toList.take i))) ∧ Below w.heap.size w wx)
  case atStart =>
    refine ⟨0, 0, true, rfl, rfl, by omega, by simp, ?_, by rw [lims_zero]; simp, fun _ => ⟨by simp [rdn], rfl⟩, .inl (by simp [rdn]), Below.refl _ _⟩
    unfold DecIs
    rw [lims_zero]
    exact World.ownsRow_nil _ _ _ _
  case round =>
    obtain ⟨i, N, z, rfl, rfl, hig, hok, hd, hNl, hz, hN, hbx⟩ := hrel
    obtain ⟨ao, cc, rfl⟩ := hd.slice
    have HD := Lib.hid hd
    have HB := Lib.hid hbx
    have HOK := Lib.hid hok
    have HZ := Lib.hid hz
    have HN := Lib.hid hN
    have hzx := hbx.size
    clear hd hbx hok hz hN
    by_cases hi : i < s.size
    · have hi1 : (i : Int) < (s.size : Int) := by omega
      have hi0 : (0 : Int) ≤ (i : Int) := by omega
      obtain ⟨c, hc⟩ : ∃ c, s[i] = c := ⟨_, rfl⟩
      have htk := take_snoc' s i hi
      rw [hc] at htk
      have HC := Lib.hid hc
      have HTK := Lib.hid htk
      by_cases hr : rdg c b < 0
      · have HBAD := Lib.hid (okn_bad b s i hi (by rw [hc]; exact dg_ge hr))
        clear htk hc
        go_wp2_with (go_at_call 122; rw [HC.out]; refine (HDg.out _ _).mono ?_; rintro e w' ⟨rfl, rfl⟩)
        go_ret2
        refine ⟨⟨.slice none 0 0, 0, by rw [HBAD.out]; rfl, ?_, fun h => by rw [HBAD.out] at h; cases h⟩, HB.out⟩
        unfold DecIs
        rw [lims_zero]
        exact World.ownsRow_nil _ _ _ _
      · obtain ⟨hd1, hd2⟩ := dg_lt hr
        obtain ⟨d, hdd⟩ : ∃ d, dg c = d := ⟨_, rfl⟩
        have HOKN := Lib.hid (show ∀ c' ∈ s.data.toList.take (i + 1), dg c' < b from fun c' h => by
          rw [htk] at h
          rcases List.mem_append.1 h with h | h
          · exact HOK.out c' h
          · rw [List.mem_singleton] at h
            rw [h]; exact hd1)
        have hrd : rdn b (s.data.toList.take (i + 1)) = rdn b (s.data.toList.take i) * b + d := by rw [htk, rdn_snoc, hdd]
        have HRD := Lib.hid hrd
        rw [hdd] at hd1 hd2
        have HD2 := Lib.hid hd2
        have hd3 : ¬ (d : Int) < 0 := by omega
        have hNle : N ≤ rdn b (s.data.toList.take i) := by rcases HN.out with h | h <;> omega
        have hmul : rdn b (s.data.toList.take i) * 1 ≤ rdn b (s.data.toList.take i) * b := Nat.mul_le_mul_left _ (by omega)
        have HFAR := Lib.hid (fun h : 1200 < (lims 10 N).length => And.intro h (show N ≤ rdn b (s.data.toList.take (i + 1)) by rw [hrd]; omega))
        have HNEXT := Lib.hid (fun h : ¬ 1200 < (lims 10 N).length => show N * b + d = rdn b (s.data.toList.take (i + 1)) ∧ (lims 10 (N * b + d)).length ≤ 2000 from by
          have e : N = rdn b (s.data.toList.take i) := by
            rcases HN.out with h' | h'
            · exact h'
            · exact absurd h'.1 h
          refine ⟨by rw [hrd, ← e], ?_⟩
          have h1 := (lims_len_le ten_ge N k1200).1 (by have e : k1200 = 1200 := rfl; omega)
          have h2 : N * b ≤ 10 ^ k1200 * 36 := Nat.mul_le_mul (Nat.le_of_lt h1) hb
          have h3 := (lims_len_le ten_ge (N * b + d) (k1200 + 2)).2 (by rw [Nat.pow_add]; have := Nat.pow_pos (n := k1200) (show 0 < 10 by omega); omega)
          have e : k1200 = 1200 := rfl
          omega)
        obtain ⟨g, rfl⟩ : ∃ g, gk = g + 1 := ⟨gk - 1, by omega⟩
        obtain ⟨L, hL⟩ : ∃ L, (lims 10 N).length = L := ⟨_, rfl⟩
        rw [hL] at HD hNl ⊢
        have HL := Lib.hid hL
        clear htk hc hrd hdd hr hNle hmul hL
        by_cases hzd : z = true ∧ d = 0
        · obtain ⟨rfl, rfl⟩ := hzd
          obtain ⟨hz1, rfl⟩ := HZ.out rfl
          have HR0 := Lib.hid (show rdn b (s.data.toList.take (i + 1)) = 0 by rw [HRD.out, hz1]; simp)
          clear hz1
          go_wp2_with (go_at_call 122; rw [HC.out]; refine (HDg.out _ _).mono ?_; rintro e w' ⟨rfl, rfl⟩; rw [HD2.out])
          go_roundg g
          case measure => omega
          case rel => exact ⟨i + 1, 0, true, by go_num, rfl, by omega, HOKN.out, HD.out, by rw [HL.out]; omega, fun _ => ⟨HR0.out, rfl⟩, .inl HR0.out.symm, HB.out⟩
        · cases z with
          | false =>
            clear hzd
            by_cases hfar : 1200 < L
            · have hf : (L : Int) > 1200 := by omega
              have HFR := Lib.hid (HFAR.out (by rw [HL.out]; exact hfar))
              go_wp2_with (go_at_call 122; rw [HC.out]; refine (HDg.out _ _).mono ?_; rintro e w' ⟨rfl, rfl⟩; rw [HD2.out])
              go_roundg g
              case measure => omega
              case rel => exact ⟨i + 1, N, false, by go_num, rfl, by omega, HOKN.out, HD.out, by rw [HL.out]; omega, fun h => (by cases h), .inr HFR.out, HB.out⟩
            · have hf : ¬ (L : Int) > 1200 := by omega
              have HNX := Lib.hid (HNEXT.out (by rw [HL.out]; exact hfar))
              go_wp2_with (go_at_call 122; rw [HC.out]; refine (HDg.out _ _).mono ?_; rintro e w' ⟨rfl, rfl⟩; rw [HD2.out])
              refine (natOf_any b wr (by omega)).mono ?_
              rintro e w2 ⟨⟨v2, rfl, hn2⟩, hb2⟩
              have hD2 := HD.out.kept hb2
              have hB2 := Below.behind HB.out hb2
              obtain ⟨a2, c2, rfl⟩ := hn2.slice
              generalize hl2 : (lims 10 b).length = l2 at hn2 ⊢
              have HN2 := Lib.hid hn2
              have HD2' := Lib.hid hD2
              have HL2 := Lib.hid hl2
              clear hb2 hD2 hn2 hl2
              go_wp2_with fail
              refine (rtimes_any _ _ N b _ _ w2 HD2'.out HN2.out (by rw [HL.out]; omega) (by have := (lims_len_le ten_ge b 2).2 (by omega); omega)).mono ?_
              rintro e w3 ⟨⟨v3, rfl, hn3⟩, hb3⟩
              have hB3 := Below.behind hB2 hb3
              obtain ⟨a3, c3, rfl⟩ := hn3.slice
              generalize hl3 : (lims 10 (N * b)).length = l3 at hn3 ⊢
              have HN3 := Lib.hid hn3
              have HL3 := Lib.hid hl3
              clear hb3 hn3 hl3 hB2
              go_wp2_with fail
              refine (natOf_any d w3 (by omega)).mono ?_
              rintro e w4 ⟨⟨v4, rfl, hn4⟩, hb4⟩
              have hB4 := Below.behind hB3 hb4
              have hD4 := HN3.out.kept hb4
              obtain ⟨a4, c4, rfl⟩ := hn4.slice
              generalize hl4 : (lims 10 d).length = l4 at hn4 ⊢
              have HN4 := Lib.hid hn4
              have HD4 := Lib.hid hD4
              clear hb4 hn4 hl4 hD4 hB3
              go_wp2_with fail
              refine (rplus_any _ _ (N * b) d _ _ w4 HD4.out HN4.out ?_ ?_).mono ?_
              · have h1 := HNX.out.2
                have h2 : (lims 10 (N * b)).length ≤ (lims 10 (N * b + d)).length := (lims_len_le ten_ge _ _).2 (Nat.lt_of_le_of_lt (Nat.le_add_right _ _) ((lims_len_le ten_ge _ _).1 (Nat.le_refl _)))
                omega
              · have := (lims_len_le ten_ge d 2).2 (by omega)
                omega
              rintro e w5 ⟨⟨v5, rfl, hn5⟩, hb5⟩
              have hB5 := Below.behind hB4 hb5
              have HN5 := Lib.hid (DecIs.mono hn5 (show w.heap.size ≤ w4.heap.size by have := hB4.size; omega))
              clear hb5 hn5 hB4
              have HB5 := Lib.hid hB5
              clear hB5
              go_wp2
              go_roundg g
              case measure => omega
              case rel => exact ⟨i + 1, N * b + d, false, by go_num, rfl, by omega, HOKN.out, HN5.out, HNX.out.2, fun h => (by cases h), .inl HNX.out.1, HB5.out⟩

          | true =>
            have hdz : ((d : Int) == 0) = false := by
              rw [beq_eq_false_iff_ne]
              intro h
              exact hzd ⟨rfl, by omega⟩
            clear hzd
            by_cases hfar : 1200 < L
            · have hf : (L : Int) > 1200 := by omega
              have HFR := Lib.hid (HFAR.out (by rw [HL.out]; exact hfar))
              go_wp2_with (go_at_call 122; rw [HC.out]; refine (HDg.out _ _).mono ?_; rintro e w' ⟨rfl, rfl⟩; rw [HD2.out])
              go_roundg g
              case measure => omega
              case rel => exact ⟨i + 1, N, false, by go_num, rfl, by omega, HOKN.out, HD.out, by rw [HL.out]; omega, fun h => (by cases h), .inr HFR.out, HB.out⟩
            · have hf : ¬ (L : Int) > 1200 := by omega
              have HNX := Lib.hid (HNEXT.out (by rw [HL.out]; exact hfar))
              go_wp2_with (go_at_call 122; rw [HC.out]; refine (HDg.out _ _).mono ?_; rintro e w' ⟨rfl, rfl⟩; rw [HD2.out])
              refine (natOf_any b wr (by omega)).mono ?_
              rintro e w2 ⟨⟨v2, rfl, hn2⟩, hb2⟩
              have hD2 := HD.out.kept hb2
              have hB2 := Below.behind HB.out hb2
              obtain ⟨a2, c2, rfl⟩ := hn2.slice
              generalize hl2 : (lims 10 b).length = l2 at hn2 ⊢
              have HN2 := Lib.hid hn2
              have HD2' := Lib.hid hD2
              have HL2 := Lib.hid hl2
              clear hb2 hD2 hn2 hl2
              go_wp2_with fail
              refine (rtimes_any _ _ N b _ _ w2 HD2'.out HN2.out (by rw [HL.out]; omega) (by have := (lims_len_le ten_ge b 2).2 (by omega); omega)).mono ?_
              rintro e w3 ⟨⟨v3, rfl, hn3⟩, hb3⟩
              have hB3 := Below.behind hB2 hb3
              obtain ⟨a3, c3, rfl⟩ := hn3.slice
              generalize hl3 : (lims 10 (N * b)).length = l3 at hn3 ⊢
              have HN3 := Lib.hid hn3
              have HL3 := Lib.hid hl3
              clear hb3 hn3 hl3 hB2
              go_wp2_with fail
              refine (natOf_any d w3 (by omega)).mono ?_
              rintro e w4 ⟨⟨v4, rfl, hn4⟩, hb4⟩
              have hB4 := Below.behind hB3 hb4
              have hD4 := HN3.out.kept hb4
              obtain ⟨a4, c4, rfl⟩ := hn4.slice
              generalize hl4 : (lims 10 d).length = l4 at hn4 ⊢
              have HN4 := Lib.hid hn4
              have HD4 := Lib.hid hD4
              clear hb4 hn4 hl4 hD4 hB3
              go_wp2_with fail
              refine (rplus_any _ _ (N * b) d _ _ w4 HD4.out HN4.out ?_ ?_).mono ?_
              · have h1 := HNX.out.2
                have h2 : (lims 10 (N * b)).length ≤ (lims 10 (N * b + d)).length := (lims_len_le ten_ge _ _).2 (Nat.lt_of_le_of_lt (Nat.le_add_right _ _) ((lims_len_le ten_ge _ _).1 (Nat.le_refl _)))
                omega
              · have := (lims_len_le ten_ge d 2).2 (by omega)
                omega
              rintro e w5 ⟨⟨v5, rfl, hn5⟩, hb5⟩
              have hB5 := Below.behind hB4 hb5
              have HN5 := Lib.hid (DecIs.mono hn5 (show w.heap.size ≤ w4.heap.size by have := hB4.size; omega))
              clear hb5 hn5 hB4
              have HB5 := Lib.hid hB5
              clear hB5
              go_wp2
              go_roundg g
              case measure => omega
              case rel => exact ⟨i + 1, N * b + d, false, by go_num, rfl, by omega, HOKN.out, HN5.out, HNX.out.2, fun h => (by cases h), .inl HNX.out.1, HB5.out⟩
    · obtain rfl : i = s.size := by omega
      have hall : s.data.toList.take s.size = s.data.toList := List.take_of_length_le (by rw [HLEN.out]; exact Nat.le_refl _)
      have hok2 := HOK.out
      rw [hall] at hok2
      have hN2 := HN.out
      rw [hall] at hN2
      have HOK2 := Lib.hid (show okn b s.data.toList = !s.data.toList.isEmpty by
        unfold okn
        rw [List.all_eq_true.2 (fun c hc => decide_eq_true (hok2 c hc)), Bool.and_true])
      have HRES := Lib.hid (show N = rdn b s.data.toList ∨ (10 ^ k1200 ≤ N ∧ N ≤ rdn b s.data.toList) from by
        rcases hN2 with h | h
        · exact .inl h
        · exact .inr ⟨dec_far h.1, h.2⟩)
      have hi1 : ¬ (s.size : Int) < (s.size : Int) := by omega
      clear hok2 hN2 hall
      by_cases hE : s.toList.isEmpty = true
      · have HE := Lib.hid ((empty_iff s).1 hE)
        go_wp2
        go_ret2
        exact ⟨⟨_, N, by rw [HOK2.out, HE.out]; rfl, HD.out, fun _ => HRES.out⟩, HB.out⟩
      · have HE := Lib.hid (show s.data.toList.isEmpty = false by
          cases h : s.data.toList.isEmpty with
          | false => rfl
          | true => exact absurd ((empty_iff s).2 (List.isEmpty_iff.1 h)) hE)
        have hE' : s.toList.isEmpty = false := by simpa using hE
        clear hE
        go_wp2
        go_ret2
        exact ⟨⟨_, N, by rw [HOK2.out, HE.out]; rfl, HD.out, fun _ => HRES.out⟩, HB.out⟩
end Go.Proofs.YtmnibfdenmeepaaDoor
