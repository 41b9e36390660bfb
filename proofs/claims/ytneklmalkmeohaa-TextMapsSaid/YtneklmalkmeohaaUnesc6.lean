/- Unescaped of both sides. -/
import Derived.Test.YtneklmalkmeohaaUnesc5
import Derived.Test.YtneklmalkmeohaaMap
namespace Go.Proofs.Ytneklmalkmeohaa
open Go.RowKit Go.Lib

/-- All escaped bytes replaced; the number bounds the steps. -/
def unAll : Nat → List UInt8 → List UInt8
  | 0, _ => []
  | _ + 1, [] => []
  | n + 1, c :: l => if (unescList (c :: l)).2 = 0 then c :: unAll n l else (unescList (c :: l)).1 ++ unAll n ((c :: l).drop (unescList (c :: l)).2)

theorem unAll_nil (n : Nat) : unAll n [] = [] := by cases n <;> rfl

theorem unesc_small (l : List UInt8) : (unescList l).1.length ≤ 1 ∧ (unescList l).2 ≤ l.length := by
  unfold unescList
  split
  · simp
  · rename_i c0 r
    split
    · split
      · simp
      · rename_i c1 t
        obtain ⟨h1a, h1, _, _⟩ := dig_facts 16 2 t
        obtain ⟨h2a, h2, _, _⟩ := dig_facts 8 3 (c1 :: t)
        have h3 := tw_len blank t
        rw [List.length_cons] at h2
        split
        · refine ⟨?_, by simp⟩
          rw [Lib.extract_data, List.length_take]
          omega
        · split
          · split
            · exact ⟨by simp, by simp only [List.length_cons]; omega⟩
            · simp
          · split
            · exact ⟨by simp, by simp only [List.length_cons]; omega⟩
            · split
              · exact ⟨by simp, by simp only [List.length_cons]; omega⟩
              · simp
    · simp

theorem unAll_plain : ∀ (n : Nat) (l : List UInt8), l.length ≤ n → (∀ c ∈ l, c.toNat ≠ 92) → unAll n l = l
  | 0, l, hl, _ => by
    have : l = [] := List.eq_nil_of_length_eq_zero (by omega)
    subst this
    rfl
  | n + 1, [], _, _ => rfl
  | n + 1, c :: l, hl, hc => by
    have h0 := hc c (by simp)
    have e : (unescList (c :: l)).2 = 0 := by unfold unescList; simp [h0]
    rw [unAll, if_pos e, unAll_plain n l (by simpa using hl) (fun x hx => hc x (by simp [hx]))]

set_option maxHeartbeats 1600000 in
set_option maxRecDepth 100000 in
theorem refUnescaped_any (s : ByteArray) (w : World) (hs : s.size ≤ 400) :
    Calls Try.prog 36 #[.string s] w fun e w' => e = .returned (.string ⟨(unAll s.size s.data.toList).toArray⟩) ∧ Below w.heap.size w w' := by
  go_enter Try.func36, Try.ntmps36
  go_wp2_with fail
  go_loopg [0, 3] s.size (fun g a b wx => ∃ S O : ByteArray, a = .string S ∧ b = .string O ∧ S.size ≤ g ∧ O.size + S.size ≤ 400 ∧ O.data.toList ++ unAll g S.data.toList = unAll s.size s.data.toList ∧ Below w.heap.size w wx)
  case atStart => exact ⟨s, ⟨#[]⟩, rfl, rfl, Nat.le_refl _, by show 0 + s.size ≤ 400; omega, rfl, Below.refl _ _⟩
  case round =>
    obtain ⟨S, O, rfl, rfl, hg, hb, hT, hbx⟩ := hrel
    have hSl : S.data.toList.length = S.size := (Lib.size_eq S).symm
    by_cases hE : S.toList.isEmpty = true
    · have HT := Lib.hid (show (⟨(unAll s.size s.data.toList).toArray⟩ : ByteArray) = O by
        rw [← hT, (empty_iff S).1 hE, unAll_nil, List.append_nil])
      clear hT
      go_wp2
      go_ret
      exact ⟨by rw [HT.out]; rfl, hbx⟩
    have hE' : S.toList.isEmpty = false := by simpa using hE
    have hpos : 0 < S.size := by
      rcases Nat.eq_zero_or_pos S.size with h | h
      · exact absurd ((empty_iff S).2 (List.eq_nil_of_length_eq_zero (by omega))) hE
      · exact h
    obtain ⟨g, rfl⟩ : ∃ g, gk = g + 1 := ⟨gk - 1, by omega⟩
    have hsm := unesc_small S.data.toList
    have hv : unescVal S = .tuple #[.string ⟨(unescList S.data.toList).1.toArray⟩, .int .i64 ((unescList S.data.toList).2 : Int)] := rfl
    have hU := fun W => refUnescape_any S W (by omega)
    have hst : unAll (g + 1) S.data.toList = if (unescList S.data.toList).2 = 0 then (S.extract 0 1).data.toList ++ unAll g (S.extract 1 S.size).data.toList else (unescList S.data.toList).1 ++ unAll g (S.data.toList.drop (unescList S.data.toList).2) := by
      rw [Lib.extract_to_end, Lib.extract_data]
      cases hl : S.data.toList with
      | nil => rw [hl] at hSl; simp at hSl; omega
      | cons c l => rw [unAll]; rfl
    rw [hst] at hT
    obtain ⟨C, hC⟩ : ∃ C : ByteArray, (⟨(unescList S.data.toList).1.toArray⟩ : ByteArray) = C := ⟨_, rfl⟩
    have hCl : C.data.toList = (unescList S.data.toList).1 := by rw [← hC]
    have hCs : C.size ≤ 1 := by rw [Lib.size_eq, hCl]; exact hsm.1
    obtain ⟨n, hn⟩ : ∃ n, (unescList S.data.toList).2 = n := ⟨_, rfl⟩
    rw [hC, hn] at hv
    rw [hn] at hT hsm
    rw [← hCl] at hT
    rw [hv] at hU
    clear hv hC hn hCl hst hE
    have hp0 : (0 : Int) < (S.size : Int) := by omega
    have hp1 : (1 : Int) ≤ (S.size : Int) := by omega
    by_cases hn0 : n = 0
    · subst hn0
      rw [if_pos rfl, ← List.append_assoc] at hT
      have HT := Lib.hid (show (O ++ S.extract 0 1).data.toList ++ unAll g (S.extract 1 S.size).data.toList = unAll s.size s.data.toList by rw [← hT]; simp)
      have HU := Lib.hid hU
      clear hT hU hsm
      go_wp2_with (go_at_call 22; refine (HU.out _).mono ?_; rintro e w' ⟨rfl, hbw⟩)
      go_roundg g
      case measure => omega
      case rel => exact ⟨S.extract 1 S.size, O ++ S.extract 0 1, rfl, rfl, by simp; omega, by simp; omega, HT.out, hbx.trans (hbw.mono hbx.size)⟩
    · rw [if_neg hn0, ← List.append_assoc] at hT
      have HT := Lib.hid (show (O ++ C).data.toList ++ unAll g (S.extract n S.size).data.toList = unAll s.size s.data.toList by rw [← hT, Lib.extract_to_end]; simp)
      have HU := Lib.hid hU
      have hni : ¬ (n : Int) = 0 := by omega
      have hn1 : (n : Int) ≤ (S.size : Int) := by omega
      have hn2 : (0 : Int) ≤ (n : Int) := by omega
      have HS := Lib.hid hsm.2
      clear hT hU hsm
      go_wp2_with (go_at_call 22; refine (HU.out _).mono ?_; rintro e w' ⟨rfl, hbw⟩)
      go_roundg g
      case measure => omega
      case rel => exact ⟨S.extract n S.size, O ++ C, rfl, rfl, by simp; omega, by have := HS.out; simp; omega, HT.out, hbx.trans (hbw.mono hbx.size)⟩

theorem builder_below {B b : Nat} {bs : List Value} {W W' : World} (h : Lib.IsBuilder 64 5 B b bs W) (hb : Below W.heap.size W W') : Lib.IsBuilder 64 5 B b bs W' := by
  have at_ : ∀ p, Lib.BuilderAt 64 5 B b p bs W → Lib.BuilderAt 64 5 B b p bs W' := fun p ⟨hB, v, hbk, hown, hne⟩ =>
    ⟨hB, v, (hb.block b (Array.getElem?_eq_some_iff.1 hbk).1).trans hbk, hown.kept (row := none) ⟨hb.os, hb.tape, hb.output, hb.size, fun k hk _ => hb.block k hk⟩ (Classical.em _), hne⟩
  rcases h with h | h
  · exact .inl (at_ _ h)
  · exact .inr (at_ _ h)

set_option maxHeartbeats 1600000 in
set_option maxRecDepth 100000 in
theorem unescaped_any (s : ByteArray) (w : World) (hs : s.size ≤ 400) :
    Calls Try.prog 35 #[.string s] w fun e w' => e = .returned (.string ⟨(unAll s.size s.data.toList).toArray⟩) ∧ Below w.heap.size w w' := by
  have hI : ∀ W, Calls Try.prog 55 #[.string s, .int .u8 92] W fun e w' => e = .returned (.int .i64 (indexByte s.data.toList 92)) ∧ W = w' := fun W => (Try.strings_IndexByte s 92 W).mono fun e w' ⟨he, hw⟩ => ⟨he, hw.symm⟩
  have hge := indexByte_ge s.data.toList 92
  by_cases hi : indexByte s.data.toList 92 < 0
  · have hi1 : indexByte s.data.toList 92 = -1 := by omega
    have HA := Lib.hid (show (⟨(unAll s.size s.data.toList).toArray⟩ : ByteArray) = s by
      rw [unAll_plain s.size s.data.toList (by rw [← Lib.size_eq]; exact Nat.le_refl _) (fun c hc h => by
        obtain ⟨k, hk, e⟩ := List.getElem_of_mem hc
        refine indexByte_none hi1 k ?_
        rw [List.getElem?_eq_getElem hk, e]
        exact congrArg some (UInt8.toNat_inj.1 h))])
    rw [hi1] at hI
    clear hge hi hi1
    go_enter Try.func35, Try.ntmps35
    go_wp2_with (go_at_call 55; refine (hI _).mono ?_; rintro e w' ⟨rfl, rfl⟩)
    go_ret
    exact ⟨by rw [HA.out]; rfl, Below.refl _ _⟩
  have hb0 : Lib.IsBuilder 64 5 w.heap.size w.heap.size [] (w.alloc (.cells #[.pointer none, .slice none 0 0] 64)) := .inl ⟨Nat.le_refl _, _, Has.new w 64 _, World.ownsRow_nil _ _ _ _, by simp [Value.ownBlock]⟩
  have hB0 : Below w.heap.size w (w.alloc (.cells #[.pointer none, .slice none 0 0] 64)) := (Below.refl _ w).alloc (Nat.le_refl _) _
  go_enter Try.func35, Try.ntmps35
  go_wp2_with (go_at_call 55; refine (hI _).mono ?_; rintro e w' ⟨rfl, rfl⟩)
  clear hI
  go_loopg [0] s.size (fun g a wx => ∃ (S : ByteArray) (O : List UInt8), a = .string S ∧ S.size ≤ g ∧ O.length + S.size ≤ 400 ∧ O ++ unAll g S.data.toList = unAll s.size s.data.toList ∧ Lib.IsBuilder 64 5 w.heap.size w.heap.size (byteCells O) wx ∧ Below w.heap.size w wx)
  case atStart => exact ⟨s, [], rfl, Nat.le_refl _, by show 0 + s.size ≤ 400; omega, rfl, hb0, hB0⟩
  case round =>
    obtain ⟨S, O, rfl, hg, hb, hT, hbd, hbx⟩ := hrel
    have hSl : S.data.toList.length = S.size := (Lib.size_eq S).symm
    have HBX := Lib.hid hbx
    have HBD := Lib.hid hbd
    have hz := hbx.size
    clear hbx hbd hb0 hB0
    by_cases hE : S.toList.isEmpty = true
    · have HT := Lib.hid (show unAll s.size s.data.toList = O by
        rw [← hT, (empty_iff S).1 hE, unAll_nil, List.append_nil])
      clear hT
      go_wp2_with (go_at_call 66; refine (Try.Builder_String_any w.heap.size w.heap.size O _ HBD.out hz).mono ?_; rintro e w' ⟨rfl, hbw⟩)
      go_ret
      exact ⟨by rw [HT.out]; rfl, HBX.out.trans hbw⟩
    have hE' : S.toList.isEmpty = false := by simpa using hE
    have hpos : 0 < S.size := by
      rcases Nat.eq_zero_or_pos S.size with h | h
      · exact absurd ((empty_iff S).2 (List.eq_nil_of_length_eq_zero (by omega))) hE
      · exact h
    obtain ⟨g, rfl⟩ : ∃ g, gk = g + 1 := ⟨gk - 1, by omega⟩
    have hsm := unesc_small S.data.toList
    have hv : unescVal S = .tuple #[.string ⟨(unescList S.data.toList).1.toArray⟩, .int .i64 ((unescList S.data.toList).2 : Int)] := rfl
    have hU := fun W => unescape_any S W (by omega)
    have hst : unAll (g + 1) S.data.toList = if (unescList S.data.toList).2 = 0 then (S.extract 0 1).data.toList ++ unAll g (S.extract 1 S.size).data.toList else (unescList S.data.toList).1 ++ unAll g (S.data.toList.drop (unescList S.data.toList).2) := by
      rw [Lib.extract_to_end, Lib.extract_data]
      cases hl : S.data.toList with
      | nil => rw [hl] at hSl; simp at hSl; omega
      | cons c l => rw [unAll]; rfl
    rw [hst] at hT
    obtain ⟨C, hC⟩ : ∃ C : ByteArray, (⟨(unescList S.data.toList).1.toArray⟩ : ByteArray) = C := ⟨_, rfl⟩
    have hCl : C.data.toList = (unescList S.data.toList).1 := by rw [← hC]
    have hCs : C.size ≤ 1 := by rw [Lib.size_eq, hCl]; exact hsm.1
    obtain ⟨n, hn⟩ : ∃ n, (unescList S.data.toList).2 = n := ⟨_, rfl⟩
    rw [hC, hn] at hv
    rw [hn] at hT hsm
    rw [← hCl] at hT
    rw [hv] at hU
    clear hv hC hn hCl hst hE
    have hp0 : (0 : Int) < (S.size : Int) := by omega
    have hp1 : (1 : Int) ≤ (S.size : Int) := by omega
    have HU := Lib.hid hU
    by_cases hn0 : n = 0
    · subst hn0
      rw [if_pos rfl, ← List.append_assoc] at hT
      have HT := Lib.hid hT
      obtain ⟨X, hX⟩ : ∃ X, S.extract 0 1 = X := ⟨_, rfl⟩
      have hXs : X.size = 1 := by rw [← hX]; simp; omega
      have HX := Lib.hid hX
      clear hT hU hsm
      go_wp2_with (first | (go_at_call 21; refine (HU.out _).mono ?_; rintro e w1 ⟨rfl, hbw⟩; have HB1 := Lib.hid (builder_below HBD.out hbw); have hz1 := Nat.le_trans hz hbw.size; have HW := Lib.hid hbw; clear hbw) | (go_at_call 65; refine (write_any w.heap.size w.heap.size (byteCells O) X _ HB1.out (by rw [Lib.byteCells_length]; omega) hz1).mono ?_; rintro e w2 ⟨rfl, hbat, hbw2⟩))
      go_roundg g
      case measure => omega
      case rel => exact ⟨S.extract 1 S.size, O ++ X.data.toList, rfl, by simp; omega, by have := Lib.size_eq X; simp; omega, by rw [← HX.out]; exact HT.out, .inr (by rw [Lib.byteCells_append]; exact hbat), HBX.out.trans ((HW.out.mono hz).trans hbw2)⟩
    · rw [if_neg hn0, ← List.append_assoc] at hT
      have HT := Lib.hid (show (O ++ C.data.toList) ++ unAll g (S.extract n S.size).data.toList = unAll s.size s.data.toList by rw [← hT, Lib.extract_to_end])
      have hni : ¬ (n : Int) = 0 := by omega
      have hn1 : (n : Int) ≤ (S.size : Int) := by omega
      have hn2 : (0 : Int) ≤ (n : Int) := by omega
      have HS := Lib.hid hsm.2
      clear hT hU hsm
      go_wp2_with (first | (go_at_call 21; refine (HU.out _).mono ?_; rintro e w1 ⟨rfl, hbw⟩; have HB1 := Lib.hid (builder_below HBD.out hbw); have hz1 := Nat.le_trans hz hbw.size; have HW := Lib.hid hbw; clear hbw) | (go_at_call 65; refine (write_any w.heap.size w.heap.size (byteCells O) C _ HB1.out (by rw [Lib.byteCells_length]; omega) hz1).mono ?_; rintro e w2 ⟨rfl, hbat, hbw2⟩))
      go_roundg g
      case measure => omega
      case rel => exact ⟨S.extract n S.size, O ++ C.data.toList, rfl, by simp; omega, by have := HS.out; have := Lib.size_eq C; simp; omega, HT.out, .inr (by rw [Lib.byteCells_append]; exact hbat), HBX.out.trans ((HW.out.mono hz).trans hbw2)⟩
end Go.Proofs.Ytneklmalkmeohaa
