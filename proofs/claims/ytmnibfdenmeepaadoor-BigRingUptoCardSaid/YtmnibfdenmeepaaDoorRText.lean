/- Text of the reference. -/
import Derived.Test.YtmnibfdenmeepaaDoorRLong
import Derived.Test.YtmnibfdenmeepaaDoorShelf
namespace Go.Proofs.YtmnibfdenmeepaaDoor
open Go.RowKit Go.Shelf Big

theorem dec_chr (d : Nat) (h : d < 10) : Lib.decDigits d = [chr d] := by
  rcases (show d = 0 ∨ d = 1 ∨ d = 2 ∨ d = 3 ∨ d = 4 ∨ d = 5 ∨ d = 6 ∨ d = 7 ∨ d = 8 ∨ d = 9 by omega) with rfl | rfl | rfl | rfl | rfl | rfl | rfl | rfl | rfl | rfl <;> (unfold Lib.decDigits; decide)
set_option maxRecDepth 100000 in
set_option maxHeartbeats 2000000 in
theorem rText_any (B n : Nat) (s : Bool) (v : Value) (w : World) (h : DecIs w B v n) (hl : (lims 10 n).length ≤ 10000) :
    Calls Tryd.prog 73 #[.agg #[.bool s, v]] w fun e w' => e = .returned (.string ⟨(txtS s n).toArray⟩) ∧ Below w.heap.size w w' := by
  obtain ⟨av, c, rfl⟩ := h.slice
  have HI := Lib.hid (fun d (hd : d < 10) W => Tryd.strconv_Itoa_small d (by omega) W)
  have HCell := Lib.hid (fun W (hb : Below w.heap.size w W) i (hi : i < (lims 10 n).length) => show ∃ g, av = some ⟨g, 0, none⟩ ∧ W.cell? ⟨g, i, none⟩ = some (.int .i64 (((lims 10 n).getD i 0 : Nat) : Int)) from by
    have hrow := h.kept hb
    unfold DecIs at hrow
    rcases hrow.2 with ⟨e, hz⟩ | ⟨g, cap, cur, e, hg1, hg2, -⟩
    · omega
    · cases e
      refine ⟨g, rfl, ?_⟩
      rw [World.ownsRow.cellAt hrow i (by omega), List.getElem?_map, List.getD_eq_getElem?_getD, List.getElem?_eq_getElem hi]
      rfl)
  have HTen := Lib.hid (lims_lt ten_ge n)
  have hz := dec_len (n := n)
  have HTX := Lib.hid (show 0 < n → txtS s n = if s then 45 :: ((lims 10 n).map chr).reverse else ((lims 10 n).map chr).reverse from fun hn => by
    have hn0 : n ≠ 0 := by omega
    unfold txtS digs
    cases s <;> simp [hn, hn0])
  have HT0 := Lib.hid (show n = 0 → txtS s n = [48] from fun hn => by
    subst hn
    unfold txtS digs
    cases s <;> rfl)
  revert hl HCell HTen hz HTX
  generalize lims 10 n = da
  intro hl HCell HTen hz HTX
  obtain ⟨L, hL⟩ : ∃ L, da.length = L := ⟨_, rfl⟩
  rw [hL] at hl HCell hz ⊢
  have HL := Lib.hid hL
  have HZ := Lib.hid hz
  clear h hL hz
  go_enter Tryd.func73, Tryd.ntmps73
  go_wp2_with fail
  go_loopg [3, 9] L (fun g v3 v9 wx => wx = w.alloc (.cells #[.bool s, .slice av L c] 51) ∧ ∃ (i : Nat) (S : ByteArray), v9 = .int .i64 (i : Int) ∧ v3 = .string S ∧ i + g = L ∧ S.size = i ∧ S.data.toList = ((da.take i).map chr).reverse)
  case atStart => exact ⟨rfl, 0, ⟨#[]⟩, rfl, rfl, by omega, rfl, by simp⟩
  case round =>
    obtain ⟨rfl, i, S, rfl, rfl, hig, hS, hSd⟩ := hrel
    have HSd := Lib.hid hSd
    clear hSd
    have hB : Below w.heap.size w (w.alloc (.cells #[.bool s, .slice av L c] 51)) := (Below.refl _ w).alloc (Nat.le_refl _) _
    by_cases hi : i < L
    · have hi1 : (i : Int) < (L : Int) := by omega
      have hid : i < da.length := by rw [HL.out]; exact hi
      obtain ⟨g, rfl, hc⟩ := HCell.out _ hB i hi
      rw [getD_of hid] at hc
      obtain ⟨d, hd⟩ : ∃ d, da[i] = d := ⟨_, rfl⟩
      have hd10 : d < 10 := by rw [← hd]; exact HTen.out _ (List.getElem_mem hid)
      rw [hd] at hc
      have HN := Lib.hid (show ((da.take (i + 1)).map chr).reverse = [chr d] ++ ((da.take i).map chr).reverse by
        rw [List.take_succ_eq_append_getElem hid, List.map_append, List.reverse_append, hd]; rfl)
      have HDC := Lib.hid (dec_chr d hd10)
      obtain ⟨G, rfl⟩ : ∃ G, gk = G + 1 := ⟨gk - 1, by omega⟩
      clear hd hid
      go_wp2_with (go_at_call 92; refine (HI.out d hd10 _).mono ?_; rintro e w' ⟨rfl, rfl⟩; rw [HDC.out])
      go_roundg G
      case measure => omega
      case rel =>
        refine ⟨rfl, i + 1, _, by go_num, rfl, by omega, ?_, ?_⟩
        · rw [ByteArray.size_append, hS]
          exact Nat.add_comm 1 i
        · rw [HN.out, ← HSd.out]
          simp
    · obtain rfl : i = L := by omega
      have hi1 : ¬ (i : Int) < (i : Int) := by omega
      rw [List.take_of_length_le (by rw [HL.out]; exact Nat.le_refl _)] at HSd
      rcases HZ.out with ⟨rfl, hn⟩ | ⟨hl0, hn⟩
      · have hE : S.toList.isEmpty = true := (empty_iff S).2 (List.eq_nil_of_length_eq_zero (by rw [← Lib.size_eq]; exact hS))
        have HR := Lib.hid (HT0.out hn)
        clear hn hB
        go_wp2
        go_ret
        exact ⟨by rw [HR.out]; rfl, (Below.refl _ w).alloc (Nat.le_refl _) _⟩
      · have hE : S.toList.isEmpty = false := by
          cases h : S.toList.isEmpty with
          | false => rfl
          | true =>
            have := congrArg List.length ((empty_iff S).1 h)
            rw [← Lib.size_eq] at this
            have h2 : S.size = 0 := this
            omega
        have HR := Lib.hid (HTX.out hn)
        rw [← HSd.out] at HR
        clear hn hB
        cases s with
        | false =>
          go_wp2
          go_ret
          exact ⟨by rw [HR.out]; rfl, (Below.refl _ w).alloc (Nat.le_refl _) _⟩
        | true =>
          go_wp2
          go_ret
          exact ⟨by rw [HR.out]; rfl, (Below.refl _ w).alloc (Nat.le_refl _) _⟩
end Go.Proofs.YtmnibfdenmeepaaDoor
