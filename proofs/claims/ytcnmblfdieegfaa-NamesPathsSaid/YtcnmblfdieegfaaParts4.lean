/- Parts of the reference. -/
import Derived.Test.YtcnmblfdieegfaaParts2
import Derived.Test.YtcnmblfdieegfaaParts3
namespace Go.Proofs.Ytcnmblfdieegfaa
open Go.RowKit Go.Lib

theorem stripL_short {l : List UInt8} (h : l.head? ≠ some 58) : stripL l = l := by
  cases l with
  | nil => rfl
  | cons c r => exact if_neg (fun e => h (by rw [e.1]; rfl))

def loneR (l : List UInt8) : Bool := decide (l ≠ [] ∧ l[l.length - 1]? = some 58 ∧ (l.length = 1 ∨ l[l.length - 2]? ≠ some 58))
theorem scan2_one {acc rest : List UInt8} {d : UInt8} (h : d ≠ 58 ∨ rest.head? ≠ some 58) : scan2 false acc (d :: rest) = scan2 false (acc ++ [d]) rest := by
  rw [scan2]
  by_cases hd : d = 58
  · rw [if_pos hd, if_neg (by simp), if_neg (h.resolve_left (fun x => x hd))]
  · rw [if_neg hd]
theorem scan2_runs (rest : List UInt8) : ∀ n, scan2 true [] (List.replicate n 58 ++ rest) = scan2 true [] rest
  | 0 => rfl
  | n + 1 => by
    rw [List.replicate_succ, List.cons_append, scan2, if_pos rfl, if_pos rfl]
    exact scan2_runs rest n
theorem scan2_end {rest : List UInt8} (h : rest.head? ≠ some 58) : scan2 true [] rest = scan2 false [] rest := by
  cases rest with
  | nil => rfl
  | cons c r =>
    have hc : c ≠ 58 := fun e => h (by rw [e]; rfl)
    rw [scan2, scan2, if_neg hc, if_neg hc]
theorem scan2_many {acc rest : List UInt8} {n : Nat} (h : rest.head? ≠ some 58) : scan2 false acc (List.replicate (n + 2) 58 ++ rest) = flushed acc ++ scan2 false [] rest := by
  rw [List.replicate_succ, List.cons_append, scan2, if_pos rfl, if_neg (by simp), if_pos (by rw [List.replicate_succ]; rfl), scan2_runs, scan2_end h]
theorem snoc2 (l : List UInt8) (h : 2 ≤ l.length) : ∃ l' d c, l = l' ++ [d, c] := by
  refine ⟨l.take (l.length - 2), l[l.length - 2], l[l.length - 1], ?_⟩
  have e := (List.take_append_drop (l.length - 2) l).symm
  rw [List.drop_eq_getElem_cons (by omega), List.drop_eq_getElem_cons (by omega), List.drop_of_length_le (by omega)] at e
  simpa [show l.length - 2 + 1 = l.length - 1 by omega] using e
theorem stripR_loneR (l : List UInt8) : stripR false l = if loneR l then l.take (l.length - 1) else l := by
  by_cases h2 : 2 ≤ l.length
  · obtain ⟨l', d, c, rfl⟩ := snoc2 l h2
    have e1 : (l' ++ [d, c])[(l' ++ [d, c]).length - 1]? = some c := by simp
    have e2 : (l' ++ [d, c])[(l' ++ [d, c]).length - 2]? = some d := by simp
    have e3 : (l' ++ [d, c]).take ((l' ++ [d, c]).length - 1) = l' ++ [d] := by
      rw [show l' ++ [d, c] = (l' ++ [d]) ++ [c] by simp, List.take_append_of_le_length (by simp)]
      exact List.take_of_length_le (by simp)
    have e4 : loneR (l' ++ [d, c]) = decide (c = 58 ∧ d ≠ 58) := by
      unfold loneR
      rw [decide_eq_decide, e1, e2]
      simp
    rw [e4, e3]
    by_cases hc : c = 58
    · subst hc
      by_cases hd : d = 58
      · subst hd
        rw [stripR_run]
        simp
      · rw [stripR_lone _ _ _ hd]
        simp [hd]
    · rw [show l' ++ [d, c] = (l' ++ [d]) ++ [c] by simp, stripR_keep _ _ _ hc]
      simp [hc]
  · match l, h2 with
    | [], _ => rfl
    | [c], _ =>
      by_cases hc : c = 58
      · subst hc; rfl
      · rw [stripR, if_neg (fun e => hc e.1)]
        simp [loneR, hc]
    | _ :: _ :: _, h => simp at h

theorem not_empty {P : ByteArray} (h : ¬ P = ⟨#[]⟩) : P.toList.isEmpty = false := by
  rw [Bool.eq_false_iff]
  intro e
  rw [toList_data] at e
  exact h (ByteArray.ext (Array.toList_inj.1 (List.isEmpty_iff.1 e)))
def loneL (l : List UInt8) : Bool := decide (l.head? = some 58 ∧ (l.drop 1).head? ≠ some 58)
theorem stripL_lone (l : List UInt8) : stripL l = if loneL l then l.drop 1 else l := by
  unfold loneL
  cases l with
  | nil => rfl
  | cons c r =>
    rw [stripL]
    simp
theorem byte_at (s : ByteArray) (i : Nat) (h : i < s.size) : s.data.toList[i]? = some s[i] := by
  rw [List.getElem?_eq_getElem (by rw [← Lib.size_eq]; exact h)]
  rfl
theorem byte_is (c : UInt8) : (some c = some 58) ↔ (c.toNat : Int) = 58 := by
  constructor
  · intro h
    cases h
    rfl
  · intro h
    congr 1
    apply UInt8.toNat_inj.1
    rw [show (58 : UInt8).toNat = 58 from rfl]
    omega

theorem loneL_get (l : List UInt8) : loneL l = decide (l[0]? = some 58 ∧ l[1]? ≠ some 58) := by
  unfold loneL
  rw [List.head?_eq_getElem?, List.head?_drop]
theorem loneL_not (s : ByteArray) (h : ∀ h : 0 < s.size, ¬ (s[0].toNat : Int) = 58) : false = loneL s.data.toList := by
  rw [loneL_get]
  symm
  simp only [decide_eq_false_iff_not]
  rintro ⟨h1, -⟩
  by_cases h0 : 0 < s.size
  · rw [byte_at s 0 h0, byte_is] at h1
    exact h h0 h1
  · rw [List.getElem?_eq_none (by rw [← Lib.size_eq]; omega)] at h1
    cases h1
theorem loneL_one (s : ByteArray) (h0 : 0 < s.size) (h : (s[0].toNat : Int) = 58) (h1 : (s.size : Int) = 1) : true = loneL s.data.toList := by
  rw [loneL_get]
  symm
  rw [decide_eq_true_eq, byte_at s 0 h0, List.getElem?_eq_none (by rw [← Lib.size_eq]; omega), byte_is]
  exact ⟨h, by simp⟩
theorem loneL_two (s : ByteArray) (h0 : 0 < s.size) (h : (s[0].toNat : Int) = 58) (h1 : ¬ (s.size : Int) = 1) (h2 : 1 < s.size) : ((s.size : Int) == 1 || (s[1].toNat : Int) != 58) = loneL s.data.toList := by
  rw [loneL_get]
  have e : (some s[1] ≠ some 58) ↔ ¬ (s[1].toNat : Int) = 58 := not_congr (byte_is _)
  rw [Bool.eq_iff_iff, decide_eq_true_eq, byte_at s 0 h0, byte_at s 1 h2, byte_is, e]
  simp only [Bool.or_eq_true, beq_iff_eq, bne_iff_ne, ne_eq]
  exact ⟨fun x => ⟨h, x.resolve_left h1⟩, fun x => .inr x.2⟩
theorem loneL_size {s : ByteArray} (h : loneL s.data.toList = true) : 1 ≤ s.size := by
  by_cases h0 : 0 < s.size
  · exact h0
  · rw [← loneL_not s (fun x => absurd x h0)] at h
    cases h
theorem loneR_not (s : ByteArray) (h : ∀ h : 0 < s.size, ¬ (s[s.size - 1].toNat : Int) = 58) : false = loneR s.data.toList := by
  symm
  simp only [loneR, decide_eq_false_iff_not]
  rintro ⟨-, h1, -⟩
  rw [← Lib.size_eq] at h1
  by_cases h0 : 0 < s.size
  · rw [byte_at s (s.size - 1) (by omega), byte_is] at h1
    exact h h0 h1
  · rw [List.getElem?_eq_none (by rw [← Lib.size_eq]; omega)] at h1
    cases h1
theorem loneR_last (s : ByteArray) {m k : Nat} (hm : s.size - 1 = m) (hk : s.size - 2 = k) (hm2 : m < s.size) (h1 : 1 < s.size) (hk2 : k < s.size) (h : (s[m].toNat : Int) = 58) : ((s[k].toNat : Int) != 58) = loneR s.data.toList := by
  unfold loneR
  rw [Bool.eq_iff_iff, decide_eq_true_eq, ← Lib.size_eq, hm, hk, byte_at s m hm2, byte_at s k hk2, byte_is, bne_iff_ne, ne_eq, ne_eq (some s[k]), byte_is]
  refine ⟨fun x => ⟨?_, h, .inr x⟩, fun x => x.2.2.resolve_left (by omega)⟩
  intro e
  have := Lib.size_eq s
  rw [e, List.length_nil] at this
  omega
theorem loneR_only (s : ByteArray) {m : Nat} (hm : s.size - 1 = m) (hm2 : m < s.size) (h1 : ¬ 1 < s.size) (h : (s[m].toNat : Int) = 58) : true = loneR s.data.toList := by
  symm
  unfold loneR
  rw [decide_eq_true_eq, ← Lib.size_eq, hm, byte_at s m hm2, byte_is]
  refine ⟨?_, h, .inl (by omega)⟩
  intro e
  have := Lib.size_eq s
  rw [e, List.length_nil] at this
  omega
theorem loneR_size {s : ByteArray} (h : loneR s.data.toList = true) : 1 ≤ s.size := by
  by_cases h0 : 0 < s.size
  · exact h0
  · rw [← loneR_not s (fun x => absurd x h0)] at h
    cases h

set_option maxHeartbeats 3200000 in
set_option maxRecDepth 100000 in
theorem parts_ref (s : ByteArray) (w : World) (hs : s.size ≤ 3000) :
    Calls Try.prog 12 #[.string s] w fun e w' => ∃ v, e = .returned v ∧ w'.ownsRow w.heap.size 9 1 v (partsOf s.data.toList).length (partCells (partsOf s.data.toList)) ∧ Below w.heap.size w w' := by
  obtain ⟨i9, hi9, hy0, hy1, hy2⟩ := info_parts Try.info9
  obtain ⟨R, hR⟩ : ∃ R, partsOf s.data.toList = R := ⟨_, rfl⟩
  rw [hR]
  rw [partsOf_strip] at hR
  have HR := Lib.hid hR
  clear hR
  go_enter Try.func12, Try.ntmps12
  go_upto_region 2 with fail
  go_cut [26, 3] from 9 to 25 (fun v26 _ wx => v26 = .bool (loneL s.data.toList) ∧ w = wx)
  case first =>
    go_wp2
    all_goals go_meet
    all_goals refine ⟨?_, rfl⟩
    all_goals congr 1
    · rename_i h1 h2 h3
      exact loneL_one s h1 h2 h3
    · rename_i h1 h2 h3 h4
      exact loneL_two s h1 h2 h3 (by omega)
    · rename_i h1 h2
      exact loneL_not s (fun _ => h2)
    · rename_i h1
      exact loneL_not s (fun h => absurd h h1)
  case rest =>
    obtain ⟨rfl, rfl⟩ := hcut
    obtain ⟨L, hL⟩ : ∃ L, loneL s.data.toList = L := ⟨_, rfl⟩
    rw [hL]
    have HL := Lib.hid hL
    clear hL
    go_upto_if 26 with fail
    go_cut [0] from 27 to 28 (fun v0 wx => ∃ s1 : ByteArray, v0 = .string s1 ∧ s1.data.toList = stripL s.data.toList ∧ w = wx)
    case first =>
      cases L
      · go_wp2
        go_meet
        exact ⟨s, rfl, by rw [stripL_lone, HL.out, if_neg (by simp)], rfl⟩
      · have := loneL_size HL.out
        have h0 : (1 : Int) ≤ (s.size : Int) := by omega
        go_wp2
        go_meet
        refine ⟨_, rfl, ?_, rfl⟩
        rw [stripL_lone, HL.out, if_pos rfl, Lib.extract_data]
        rw [Lib.size_eq, List.take_of_length_le (by simp)]
    case rest =>
      obtain ⟨s1, rfl, hs1, rfl⟩ := hcut
      have hle : s1.size ≤ 3000 := by
        have h1 : (stripL s.data.toList).length ≤ s.data.toList.length := by
          rw [stripL_lone]
          split <;> simp
        rw [Lib.size_eq] at hs ⊢
        rw [hs1]
        omega
      clear HL
      go_upto_region 5 with fail
      go_cut [50, 4] from 29 to 49 (fun v50 v4 wx => v50 = .bool (loneR s1.data.toList) ∧ v4 = .int .i64 s1.size ∧ w = wx)
      case first =>
        by_cases h0 : 0 < s1.size
        · obtain ⟨m, hm⟩ : ∃ m, s1.size - 1 = m := ⟨_, rfl⟩
          have hm1 : (s1.size : Int) - 1 = (m : Int) := by omega
          have hm2 : m < s1.size := by omega
          obtain ⟨c, hc⟩ : ∃ c, s1[m] = c := ⟨_, rfl⟩
          by_cases h1 : 1 < s1.size
          · obtain ⟨k, hk⟩ : ∃ k, s1.size - 2 = k := ⟨_, rfl⟩
            have hk1 : (s1.size : Int) - 2 = (k : Int) := by omega
            have hk2 : k < s1.size := by omega
            obtain ⟨d, hd⟩ : ∃ d, s1[k] = d := ⟨_, rfl⟩
            have h3 : ((s1.size : Int) == 1) = false := by simp; omega
            go_wp2
            all_goals go_meet
            all_goals refine ⟨?_, rfl, rfl⟩
            all_goals congr 1
            · rename_i hx
              rw [← hd]
              exact loneR_last s1 hm hk hm2 h1 hk2 (by rw [hc]; exact hx)
            · rename_i hx
              subst hm
              exact loneR_not s1 (fun _ => by rw [hc]; exact hx)
          · have h3 : ((s1.size : Int) == 1) = true := by simp; omega
            go_wp2
            all_goals go_meet
            all_goals refine ⟨?_, rfl, rfl⟩
            all_goals congr 1
            · rename_i hx
              exact loneR_only s1 hm hm2 h1 (by rw [hc]; exact hx)
            · rename_i hx
              subst hm
              exact loneR_not s1 (fun _ => by rw [hc]; exact hx)
        · go_wp2
          go_meet
          exact ⟨by rw [← loneR_not s1 (fun h => absurd h h0)], rfl, rfl⟩
      case rest =>
        obtain ⟨rfl, rfl, rfl⟩ := hcut
        have hR := HR.out
        rw [← hs1, stripR_loneR] at hR
        clear HR
        have HR := Lib.hid hR
        clear hR
        obtain ⟨M, hM⟩ : ∃ M, loneR s1.data.toList = M := ⟨_, rfl⟩
        rw [hM] at HR ⊢
        have HM := Lib.hid hM
        clear hM hs1
        go_upto_if 50 with fail
        go_cut [0] from 51 to 54 (fun v0 wx => ∃ s2 : ByteArray, v0 = .string s2 ∧ s2.data.toList = (if M = true then s1.data.toList.take (s1.data.toList.length - 1) else s1.data.toList) ∧ w = wx)
        case first =>
          cases M
          · go_wp2
            go_meet
            exact ⟨s1, rfl, by rw [if_neg (by simp)], rfl⟩
          · have h1 := loneR_size HM.out
            obtain ⟨m, hm⟩ : ∃ m, s1.size - 1 = m := ⟨_, rfl⟩
            have hm1 : (s1.size : Int) - 1 = (m : Int) := by omega
            have hm2 : (m : Int) ≤ (s1.size : Int) := by omega
            have hm0 : (0 : Int) ≤ (m : Int) := by omega
            go_wp2
            go_meet
            refine ⟨_, rfl, ?_, rfl⟩
            rw [if_pos trivial, ← Lib.size_eq, hm, Lib.extract_data]
            simp
        case rest =>
          obtain ⟨s2, rfl, hs2, rfl⟩ := hcut
          have hle2 : s2.size ≤ 3000 := by
            have h1 := Lib.size_eq s1
            rw [Lib.size_eq, hs2]
            split
            · rw [List.length_take]
              omega
            · omega
          rw [← hs2] at HR
          clear HM hs2
          obtain ⟨l, hl⟩ : ∃ l, s2.data.toList = l := ⟨_, rfl⟩
          have hlen : l.length = s2.size := by rw [← hl]; exact (Lib.size_eq s2).symm
          rw [hl] at HR
          have HL := Lib.hid hl
          clear hl
          go_wp2
          go_loopg [5, 6, 7] (s2.size + 1) (fun g v5 v6 v7 wx => ∃ (i : Nat) (P : ByteArray) (ps : List (List UInt8)), v6 = .string P ∧ v7 = .int .i64 i ∧ i ≤ s2.size ∧ P.size ≤ i ∧ s2.size + 1 ≤ i + g ∧ ps.length ≤ i
            ∧ ps ++ scan2 false P.data.toList (l.drop i) = R ∧ wx.ownsRow w.heap.size 9 1 v5 ps.length (partCells ps) ∧ Below w.heap.size w wx)
          case atStart => exact ⟨0, ByteArray.empty, [], rfl, rfl, by omega, Nat.le_refl _, by omega, Nat.le_refl _, HR.out, World.ownsRow_nil _ _ _ _, Below.refl _ _⟩
          case round =>
            obtain ⟨i, P, ps, rfl, rfl, hi, hP, hg, hps, hM, hown, hbx⟩ := hrel
            obtain ⟨ao, cc, rfl⟩ := slice_of_own hown
            have HOWN := Lib.hid hown
            have HBX := Lib.hid hbx
            have HM := Lib.hid hM
            clear hown hbx hM HR
            by_cases hin : i < s2.size
            · have hin1 : (i : Int) < (s2.size : Int) := by omega
              have hi0 : (0 : Int) ≤ (i : Int) := by omega
              go_upto_block 2 with fail
              go_cut [8] from 55 to 74 (fun v8 wx => ∃ n : Nat, v8 = .int .i64 n ∧ i + n ≤ s2.size ∧ l.drop i = List.replicate n 58 ++ l.drop (i + n) ∧ (l.drop (i + n)).head? ≠ some 58 ∧ wr = wx)
              case first =>
                go_wp2
                go_loopg [8] s2.size (fun g v8 wx => ∃ n : Nat, v8 = .int .i64 n ∧ i + n ≤ s2.size ∧ s2.size ≤ n + g ∧ l.drop i = List.replicate n 58 ++ l.drop (i + n) ∧ wr = wx)
                case atStart => exact ⟨0, rfl, by omega, by omega, rfl, rfl⟩
                case round =>
                  obtain ⟨n, rfl, hn, hng, hrep, rfl⟩ := hrel
                  have hn0 : (0 : Int) ≤ (i : Int) + (n : Int) := by omega
                  by_cases hnx : i + n < s2.size
                  · have hnx1 : (i : Int) + (n : Int) < (s2.size : Int) := by omega
                    obtain ⟨c, hc⟩ : ∃ c, s2[i + n] = c := ⟨_, rfl⟩
                    have hdl : l.drop (i + n) = c :: l.drop (i + (n + 1)) := by
                      have h1 : s2.data.toList[i + n]'(by rw [HL.out]; omega) = c := hc
                      rw [List.drop_eq_getElem_cons (by omega : i + n < l.length), ← h1]
                      congr 1
                      exact (List.getElem_of_eq HL.out _).symm
                    have hc256 := c.toNat_lt
                    have HREP := Lib.hid hrep
                    have HDL := Lib.hid hdl
                    clear hrep hdl
                    by_cases h58 : c = 58
                    · subst h58
                      obtain ⟨g, rfl⟩ : ∃ g, gk = g + 1 := ⟨gk - 1, by omega⟩
                      go_wp2
                      go_roundg g
                      case measure => omega
                      case rel =>
                        refine ⟨n + 1, by push_cast; rfl, by omega, by omega, ?_, rfl⟩
                        rw [HREP.out, HDL.out, List.replicate_succ', List.append_assoc]
                        rfl
                    · have hx1 : ((c.toNat : Int) == 58) = false := by
                        simp only [beq_eq_false_iff_ne, ne_eq]
                        exact fun h => h58 (UInt8.toNat_inj.1 (by rw [show (58 : UInt8).toNat = 58 from rfl]; omega))
                      go_wp2
                      go_meet
                      exact ⟨n, rfl, hn, HREP.out, by rw [HDL.out]; simpa using h58, rfl⟩
                  · have hnx1 : ¬ (i : Int) + (n : Int) < (s2.size : Int) := by omega
                    go_wp2
                    go_meet
                    exact ⟨n, rfl, hn, hrep, by rw [List.drop_of_length_le (by omega)]; simp, rfl⟩
              case rest =>
                obtain ⟨n, rfl, hn, hrep, hend, rfl⟩ := hcut
                have HREP := Lib.hid hrep
                have HEND := Lib.hid hend
                clear hrep hend
                obtain ⟨c, hc⟩ : ∃ c, s2[i] = c := ⟨_, rfl⟩
                have hdl : l.drop i = c :: l.drop (i + 1) := by
                  have h1 : s2.data.toList[i]'(by rw [HL.out]; omega) = c := hc
                  rw [List.drop_eq_getElem_cons (by omega : i < l.length), ← h1]
                  congr 1
                  exact (List.getElem_of_eq HL.out _).symm
                have HDL := Lib.hid hdl
                clear hdl
                obtain ⟨g, rfl⟩ : ∃ g, gk = g + 1 := ⟨gk - 1, by omega⟩
                by_cases hn2 : n < 2
                · have hn3 : (n : Int) < 2 := by omega
                  have hin2 : (i : Int) + 1 ≤ (s2.size : Int) := by omega
                  have hin3 : (0 : Int) ≤ (i : Int) + 1 := by omega
                  have hin4 : (i : Int) ≤ (i : Int) + 1 := by omega
                  have HSC := Lib.hid (show ps ++ scan2 false (P.data.toList ++ [c]) (l.drop (i + 1)) = R by
                    rw [← HM.out, HDL.out, scan2_one]
                    have h1 := HREP.out
                    have h2 := HEND.out
                    rw [HDL.out] at h1
                    rcases (by omega : n = 0 ∨ n = 1) with rfl | rfl
                    · left
                      intro h
                      rw [Nat.add_zero, HDL.out, h] at h2
                      exact h2 rfl
                    · right
                      exact h2)
                  go_wp2
                  go_roundg g
                  case measure => omega
                  case rel =>
                    have hex : (P ++ s2.extract i (i + 1)).data.toList = P.data.toList ++ [c] := by
                      rw [show (P ++ s2.extract i (i + 1)).data.toList = P.data.toList ++ (s2.extract i (i + 1)).data.toList by simp, Lib.extract_data, HL.out, HDL.out, show i + 1 - i = 1 by omega]
                      rfl
                    have hPs : (P ++ s2.extract i (i + 1)).size = P.size + 1 := by
                      rw [Lib.size_eq, hex, Lib.size_eq, List.length_append]
                      rfl
                    refine ⟨i + 1, _, ps, rfl, by push_cast; rfl, by omega, by rw [hPs]; omega, by omega, by omega, by rw [hex]; exact HSC.out, HOWN.out, HBX.out⟩
                · have hn3 : ¬ (n : Int) < 2 := by omega
                  have HSC := Lib.hid (show (ps ++ flushed P.data.toList) ++ scan2 false [] (l.drop (i + n)) = R by
                    rw [← HM.out, HREP.out, List.append_assoc, show n = (n - 2) + 2 by omega, scan2_many (by rw [show n - 2 + 2 = n by omega]; exact HEND.out)])
                  have hfl := flushed_len P.data.toList
                  have hn0 : (0 : Int) ≤ (i : Int) + (n : Int) := by omega
                  by_cases hPe : P = ⟨#[]⟩
                  · have hF := Lib.hid (show flushed P.data.toList = [] by rw [hPe]; rfl)
                    go_wp2
                    go_roundg g
                    case measure => omega
                    case rel =>
                      have HS := HSC.out
                      rw [hF.out, List.append_nil] at HS
                      exact ⟨i + n, ⟨#[]⟩, ps, rfl, by push_cast; rfl, by omega, Nat.zero_le _, by omega, by omega, HS, HOWN.out, HBX.out⟩
                  · have hF := Lib.hid (show flushed P.data.toList = [P.data.toList] by
                      unfold flushed
                      rw [if_neg]
                      intro h
                      exact hPe (ByteArray.ext (Array.toList_inj.1 h)))
                    have hE := not_empty hPe
                    go_wp2_with (at_builtin; refine wpList_append_own _ rfl _ _ 28 rfl w.heap.size 9 i9 (.string ⟨#[]⟩) 1 16 Try.underlying28 hi9 hy0 hy1 hy2 rfl (by decide) (.slice ao ps.length cc) ps.length _ rfl ((HOWN.out).alloc _) ⟨wr.heap.size, 0, none⟩ 1 1 [.string P] rfl rfl (cell_one_new _ _ _) (by intro u hu; simp at hu; subst hu; rfl) (by unfold maxLen; omega) (by omega) (by simp; exact Nat.le_trans HBX.out.size (by omega)) ?_; intro v' w2 hown2 hgrow _; obtain ⟨va, vc, rfl⟩ := slice_of_own hown2)
                    go_roundg g
                    case measure => omega
                    case rel =>
                      refine ⟨i + n, ⟨#[]⟩, ps ++ flushed P.data.toList, rfl, by push_cast; rfl, by omega, Nat.zero_le _, by omega, by rw [List.length_append]; omega, HSC.out, ?_, ((HBX.out.alloc HBX.out.size _).grown hgrow (by simp; exact Nat.le_trans HBX.out.size (by omega)) (fun q hq => (HOWN.out.lt q hq).1))⟩
                      rw [hF.out]
                      have e : partCells (ps ++ [P.data.toList]) = partCells ps ++ [.string P] := by simp [partCells]
                      rw [e, List.length_append]
                      exact hown2
            · have hin1 : ¬ (i : Int) < (s2.size : Int) := by omega
              have hMe : ps ++ flushed P.data.toList = R := by
                have := HM.out
                rw [List.drop_of_length_le (by omega)] at this
                exact this
              by_cases hPe : P = ⟨#[]⟩
              · have hF : flushed P.data.toList = [] := by rw [hPe]; rfl
                rw [hF, List.append_nil] at hMe
                have hown := HOWN.out
                have hbx := HBX.out
                rw [hMe] at hown
                have hpl : ps.length = R.length := by rw [hMe]
                go_wp2
                go_ret
                exact ⟨_, rfl, hown, hbx⟩
              · have hF : flushed P.data.toList = [P.data.toList] := by
                  unfold flushed
                  rw [if_neg]
                  intro h
                  exact hPe (ByteArray.ext (Array.toList_inj.1 h))
                rw [hF] at hMe
                have hps2 : ps.length ≤ 3000 := by omega
                have hE := not_empty hPe
                go_wp2_with (at_builtin; refine wpList_append_own _ rfl _ _ 28 rfl w.heap.size 9 i9 (.string ⟨#[]⟩) 1 16 Try.underlying28 hi9 hy0 hy1 hy2 rfl (by decide) (.slice ao ps.length cc) ps.length _ rfl ((HOWN.out).alloc _) ⟨wr.heap.size, 0, none⟩ 1 1 [.string P] rfl rfl (cell_one_new _ _ _) (by intro u hu; simp at hu; subst hu; rfl) (by unfold maxLen; omega) (by omega) (by simp; exact Nat.le_trans HBX.out.size (by omega)) ?_; intro v' w2 hown2 hgrow _; obtain ⟨va, vc, rfl⟩ := slice_of_own hown2)
                go_ret
                refine ⟨_, rfl, ?_, ((HBX.out.alloc HBX.out.size _).grown hgrow (by simp; exact Nat.le_trans HBX.out.size (by omega)) (fun q hq => (HOWN.out.lt q hq).1))⟩
                have e : partCells (ps ++ [P.data.toList]) = partCells ps ++ [.string P] := by simp [partCells]
                rw [← hMe, e, List.length_append]
                exact hown2
end Go.Proofs.Ytcnmblfdieegfaa
