/- The sanity check of layer 11, in any world that has the table of powers. -/
import Derived.Test.YtcgabonoddloiaaGreatDoorWrite
import Derived.Test.YtcgabonoddloiaaGreatDoorEaster
import Derived.Test.YtcgabonoddloiaaGreatDoorWeek
namespace Go.Proofs.YtcgabonoddloiaaGreatDoor
open Go.RowKit Clk Go.ChangeMaps

def pY : Part := (1, 4, 4, 81, 89)
def pm : Part := (5, 6, 2, 83, 109)
def pd : Part := (7, 7, 2, 84, 100)
def pH : Part := (9, 8, 2, 85, 72)
def pM : Part := (11, 9, 2, 86, 77)
def pS : Part := (13, 10, 2, 87, 83)
def tPcs : List Pc := [.part pH, .plain 58, .part pM, .plain 58, .part pS]
def aForm : ByteArray := ⟨#[37, 89, 45, 37, 109, 45, 37, 100, 84, 37, 84]⟩
def aPcs : List Pc := [.part pY, .plain 45, .part pm, .plain 45, .part pd, .plain 84, .part pH, .plain 58, .part pM, .plain 58, .part pS]

theorem t_pieces : piecesOf none tForm.data.toList = some tPcs := by kernel_rfl
theorem a_pieces : piecesOf (some tPcs) aForm.data.toList = some aPcs := by kernel_rfl
theorem t_say : PiecesSay tForm tPcs := pieces_gen none (fun _ h => by cases h) tForm (by decide) tPcs t_pieces (by decide)
theorem a_say : PiecesSay aForm aPcs := pieces_gen (some tPcs) (fun _ h => by cases h; exact ⟨t_say, by decide, by decide⟩) aForm (by decide) aPcs a_pieces (by decide)

theorem a_at : AtIs 951782400 2000 2 29 0 0 0 := ⟨by decide +kernel, by decide +kernel, by decide +kernel, by decide, by decide, by decide⟩
theorem e_at : AtIs 956448000 2000 4 23 0 0 0 := ⟨by decide +kernel, by decide +kernel, by decide +kernel, by decide, by decide, by decide⟩
theorem e_num : esNum 2000 * 86400 = 956448000 := by decide +kernel

theorem dig_1 (n : Nat) (h : n < 10) : Lib.itoa n = [UInt8.ofNat (48 + n)] := by
  unfold Lib.itoa
  rw [if_neg (by omega), Lib.decDigits, dif_pos (by omega)]
  simp
theorem dec_s (u : Nat) (h : ¬ u < 10) : Lib.decDigits u = Lib.decDigits (u / 10) ++ [UInt8.ofNat (48 + u % 10)] := by
  rw [Lib.decDigits, dif_neg h]
theorem dec_1 (u : Nat) (h : u < 10) : Lib.decDigits u = [UInt8.ofNat (48 + u)] := by
  rw [Lib.decDigits, dif_pos h]
theorem i_2000 : Lib.itoa 2000 = [50, 48, 48, 48] := by
  show (if (2000 : Int) < 0 then _ else Lib.decDigits 2000) = _
  rw [if_neg (by decide), dec_s 2000 (by decide), dec_s (2000 / 10) (by decide), dec_s (2000 / 10 / 10) (by decide), dec_1 _ (by decide)]
  rfl
theorem i_29 : Lib.itoa 29 = [50, 57] := by
  show (if (29 : Int) < 0 then _ else Lib.decDigits 29) = _
  rw [if_neg (by decide), dec_s 29 (by decide), dec_1 _ (by decide)]
  rfl
theorem i_2 : Lib.itoa 2 = [50] := dig_1 2 (by decide)
theorem i_0 : Lib.itoa 0 = [48] := dig_1 0 (by decide)
theorem a_text : textOf 2000 2 29 0 0 0 aPcs = [50, 48, 48, 48, 45, 48, 50, 45, 50, 57, 84, 48, 48, 58, 48, 48, 58, 48, 48] := by
  have e1 : textPc 2000 2 29 0 0 0 (.part pY) = [50, 48, 48, 48] := by show padB 2000 4 = _; unfold padB; rw [i_2000]; rfl
  have e2 : textPc 2000 2 29 0 0 0 (.part pm) = [48, 50] := by show padB 2 2 = _; unfold padB; rw [i_2]; rfl
  have e3 : textPc 2000 2 29 0 0 0 (.part pd) = [50, 57] := by show padB 29 2 = _; unfold padB; rw [i_29]; rfl
  have e4 : textPc 2000 2 29 0 0 0 (.part pH) = [48, 48] := by show padB 0 2 = _; unfold padB; rw [i_0]; rfl
  have e5 : textPc 2000 2 29 0 0 0 (.part pM) = [48, 48] := by show padB 0 2 = _; unfold padB; rw [i_0]; rfl
  have e6 : textPc 2000 2 29 0 0 0 (.part pS) = [48, 48] := by show padB 0 2 = _; unfold padB; rw [i_0]; rfl
  have ep : ∀ c, textPc 2000 2 29 0 0 0 (.plain c) = [c] := fun _ => rfl
  simp only [textOf, aPcs, List.map_cons, List.map_nil, e1, e2, e3, e4, e5, e6, ep]
  rfl

theorem a_fields (g : FuncId) : 0 ≤ fieldOf g 2000 2 29 0 0 0 ∧ fieldOf g 2000 2 29 0 0 0 ≤ 9999 := by
  unfold fieldOf
  repeat' split
  all_goals decide

set_option maxRecDepth 100000 in
set_option maxHeartbeats 4000000 in
theorem awake_any (w : World) (hP : Pow w.heap.size w) : Calls Tryz.prog 17 #[] w fun e w' => e = .returned (.bool true) ∧ Below w.heap.size w w' := by
  go_enter Tryz.func17, Tryz.ntmps17
  go_wp2_with fail
  refine (write_any' 951782400 2000 2 29 0 0 0 aForm aPcs _ a_at (by decide) a_say (by decide) (by decide) (by decide) a_fields hP).mono ?_
  rintro e w1 ⟨rfl, hb1⟩
  rw [a_text]
  go_wp2_with fail
  refine (easter_ok 2000 _ (by decide)).mono ?_
  rintro e w2 ⟨rfl, rfl⟩
  rw [e_num]
  go_wp2_with fail
  refine (date_ok 956448000 2000 4 23 0 0 0 _ e_at (by decide)).mono ?_
  rintro e w2 ⟨rfl, hb2⟩
  go_wp2
  go_ret
  exact ⟨rfl, (hb1.trans (hb2.mono hb1.size)).alloc (by have := hb2.size; have := hb1.size; omega) _⟩
end Go.Proofs.YtcgabonoddloiaaGreatDoor
