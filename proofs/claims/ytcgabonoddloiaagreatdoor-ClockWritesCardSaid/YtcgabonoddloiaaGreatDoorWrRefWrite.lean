/- Write of the reference, of any time and form. -/
import Derived.Test.YtcgabonoddloiaaGreatDoorWrSpread
namespace Go.Proofs.YtcgabonoddloiaaGreatDoor.Wr
open Go.RowKit Clk

theorem byte_at (f : ByteArray) (l1 l2 : List UInt8) (c : UInt8) (k : Nat) (h : f.data.toList = l1 ++ c :: l2) (hk : k = l1.length) (hi : k < f.size) : f[k] = c := by
  subst hk
  have h1 : f.data.toList[l1.length]? = some c := by rw [h]; simp
  have h2 : f.data.toList[l1.length]? = some f.data.toList[l1.length] := List.getElem?_eq_getElem (by simpa using hi)
  rw [h2] at h1
  have h3 := Option.some.inj h1
  rw [Array.getElem_toList] at h3
  exact h3
theorem size_list (f : ByteArray) : f.size = f.data.toList.length := (Array.length_toList (xs := f.data)).symm
theorem spells_len (ps : List Pc) : (spells ps).length ≤ 2 * ps.length := by
  induction ps with
  | nil => simp [spells]
  | cons p ps ih =>
    have h : (spell p).length ≤ 2 := by
      cases p with
      | plain c =>
        show (if c = 37 then [37, 37] else [c]).length ≤ 2
        split
        · exact Nat.le_refl 2
        · show 1 ≤ 2; omega
      | part c => exact Nat.le_refl 2
    unfold spells at ih ⊢
    simp only [List.map_cons, List.flatten_cons, List.length_append, List.length_cons]
    omega
theorem textOf_app (t : Int) (a b : List Pc) : textOf t (a ++ b) = textOf t a ++ textOf t b := by simp [textOf]
theorem textOf_one (t : Int) (p : Pc) : textOf t [p] = textPc t p := by simp [textOf]

set_option maxRecDepth 100000 in
theorem refWrite_no (t : Int) (form : ByteArray) (w : World) (ht : isT t = false) :
    Calls Tryz.prog 33 #[.int .i64 t, .string form] w fun e w' => e = .returned (.tuple #[.string ⟨#[]⟩, .int .i64 7]) ∧ Below w.heap.size w w' := by
  go_enter Tryz.func33, Tryz.ntmps33
  go_wp2_with (first | (go_at_call 36; refine (refRight_any _ _).mono ?_; rintro e w' ⟨rfl, rfl⟩; rw [ht]))
  go_ret2
  exact ⟨rfl, Below.refl _ _⟩

set_option maxRecDepth 100000 in
theorem refWrite_bad (t : Int) (form : ByteArray) (w : World) (ht : isT t = true) (hf : form.size ≤ 200) (hn : piecesOf true form.data.toList = none) (hP : Pow w.heap.size w) :
    Calls Tryz.prog 33 #[.int .i64 t, .string form] w fun e w' => e = .returned (.tuple #[.string ⟨#[]⟩, .int .i64 2]) ∧ Below w.heap.size w w' := by
  have HS := Lib.hid (spread_any form hf w hP)
  rw [hn] at HS
  clear hn hP
  go_enter Tryz.func33, Tryz.ntmps33
  go_wp2_with (first | (go_at_call 36; refine (refRight_any _ _).mono ?_; rintro e w' ⟨rfl, rfl⟩; rw [ht]))
  refine HS.out.mono ?_
  rintro e w1 h
  rcases h with ⟨ps, X, h, _⟩ | ⟨_, rfl, hb1⟩
  case inl => cases h
  go_wp2
  go_ret2
  exact ⟨rfl, hb1⟩

set_option maxRecDepth 100000 in
set_option maxHeartbeats 8000000 in
theorem refWrite_ok (t : Int) (form : ByteArray) (ps : List Pc) (w : World) (ht : isT t = true) (hf : form.size ≤ 200) (hps : piecesOf true form.data.toList = some ps) (hlet : ∀ c, Pc.part c ∈ ps → isLet c = true) (hP : Pow w.heap.size w) :
    Calls Tryz.prog 33 #[.int .i64 t, .string form] w fun e w' => e = .returned (.tuple #[.string ⟨(textOf t ps).toArray⟩, .int .i64 0]) ∧ Below w.heap.size w w' := by
  have hl : ps.length ≤ 1000 := by have := piecesOf_len _ _ (Nat.le_refl _) ps hps; simp at this; omega
  have HS := Lib.hid (spread_any form hf w hP)
  rw [hps] at HS
  have HT := Lib.hid ht
  have HP := Lib.hid hP
  have HL := Lib.hid hlet
  clear hps hP ht hlet
  go_enter Tryz.func33, Tryz.ntmps33
  go_wp2_with (first | (go_at_call 36; refine (refRight_any _ _).mono ?_; rintro e w' ⟨rfl, rfl⟩; rw [HT.out]))
  refine HS.out.mono ?_
  rintro e w1 h
  rcases h with ⟨ps', F, h, rfl, hF, hb1⟩ | ⟨h, _⟩
  case inr => cases h
  obtain rfl : ps = ps' := Option.some.inj h
  clear h
  have hFs : F.size = (spells ps).length := by rw [size_list, hF]
  have hFl := spells_len ps
  have HF := Lib.hid hF
  have HFS := Lib.hid hFs
  have HB1 := Lib.hid hb1
  have hF2 : F.size ≤ 2000 := by omega
  have hz1 := hb1.size
  clear hF hFs hFl hb1
  go_wp2_with fail
  go_loopg [8, 9] ps.length (fun g v8 v9 wx => ∃ (k : Nat) (done rest : List Pc) (X : ByteArray), v9 = .int .i64 k ∧ v8 = .string X ∧ ps = done ++ rest ∧ rest.length ≤ g ∧ k = (spells done).length ∧ X.data.toList = textOf t done ∧ Below w.heap.size w wx ∧ w.heap.size ≤ wx.heap.size)
  case atStart =>
    exact ⟨0, [], ps, ⟨#[]⟩, rfl, rfl, rfl, Nat.le_refl _, rfl, rfl, HB1.out, hz1⟩
  case round =>
    obtain ⟨k, done, rest, X, rfl, rfl, hsp, hrg, hk, hX, hbx, hwx⟩ := hrel
    have hXs : X.size ≤ 20000 := by
      rw [size_list, hX]
      have := textOf_len t HT.out done
      have : done.length ≤ 1000 := by rw [hsp] at hl; simp at hl; omega
      omega
    have HB := Lib.hid hbx
    have HX := Lib.hid hX
    have HSP := Lib.hid hsp
    have HK := Lib.hid hk
    cases rest with
    | nil =>
      have hks : k = F.size := by
        rw [HFS.out, hk, hsp]; simp
      subst hks
      clear hsp hk hX hbx
      go_wp2
      go_ret2
      refine ⟨?_, HB.out⟩
      rw [HSP.out, List.append_nil, ← HX.out]
      show Ending.returned (.tuple #[.string X, .int .i64 0]) = _
      rw [Array.toArray_toList]
    | cons p rest =>
      have hsize : F.size = (spells done).length + ((spell p).length + (spells rest).length) := by
        rw [HFS.out, hsp]; simp [spells]
      have hFF : F.data.toList = spells done ++ (spell p ++ spells rest) := by rw [HF.out, hsp]; simp [spells]
      have hsp2 : ps = (done ++ [p]) ++ rest := by rw [hsp]; simp
      have HSP2 := Lib.hid hsp2
      have hst : spells (done ++ [p]) = spells done ++ spell p := by rw [spells_app, spells_one]
      have htt : textOf t (done ++ [p]) = textOf t done ++ textPc t p := by rw [textOf_app, textOf_one]
      have HST := Lib.hid hst
      have HTT := Lib.hid htt
      have hrl : rest.length + 1 ≤ gk := by simpa using hrg
      cases p with
      | plain c =>
        by_cases h37 : c = 37
        · subst h37
          have hs2 : spell (.plain 37) = [37, 37] := rfl
          rw [hs2] at hsize hFF
          simp at hsize
          have hk1 : k < F.size := by omega
          have hk2 : k + 1 < F.size := by omega
          have hc : F[k] = 37 := byte_at F _ _ 37 k hFF hk hk1
          have hd : F[k + 1] = 37 := byte_at F (spells done ++ [37]) (spells rest) 37 (k + 1) (by rw [hFF]; simp) (by simp [hk]) hk2
          have hb0 : ((F[k].toNat : Int) != 37) = false := by rw [hc]; rfl
          have hk3 : (k : Int) + 1 < (F.size : Int) := by omega
          have hk4 : (0 : Int) ≤ (k : Int) + 1 := by omega
          have HCL := Lib.hid (fun wy => refL_37 t wy HT.out)
          rw [show (37 : Int) = ((37 : UInt8).toNat : Int) from rfl, ← hd] at HCL
          have HD := Lib.hid hd
          clear hsp hk hX hbx hsize hFF hsp2 hst htt hc hd hs2 hrg
          go_wp2_with fail
          refine (HCL.out _).mono ?_
          rintro e w3 ⟨rfl, hb3⟩
          have hz3 := hb3.size
          go_wp2
          go_roundg (gk - 1)
          case measure => omega
          case rel => exact ⟨k + 2, done ++ [.plain 37], rest, _, by go_num, rfl, HSP2.out, by omega, by rw [HST.out, HK.out]; simp [spell], by rw [HTT.out]; simp [HX.out, textPc, HD.out], HB.out.trans (hb3.mono hwx), by omega⟩
        · have hs2 : spell (.plain c) = [c] := by simp [spell, h37]
          have HS2 := Lib.hid hs2
          rw [hs2] at hsize hFF
          simp at hsize
          have hk1 : k < F.size := by omega
          have hc : F[k] = c := byte_at F _ _ c k hFF hk hk1
          have hb0 : ((F[k].toNat : Int) != 37) = true := by
            rw [hc]
            have : c.toNat ≠ 37 := fun e => h37 (UInt8.toNat_inj.1 e)
            simp; omega
          have HE := Lib.hid (extract_one F k hk1 hc)
          have hkk : (k : Int) < (F.size : Int) := by omega
          clear hsp hk hX hbx hsize hFF hsp2 hst htt hc hs2 hrg h37
          go_wp2
          go_roundg (gk - 1)
          case measure => omega
          case rel => exact ⟨k + 1, done ++ [.plain c], rest, _, by go_num, rfl, HSP2.out, by omega, by rw [HST.out, HK.out, HS2.out]; simp, by rw [HTT.out, HE.out]; simp [HX.out, textPc], HB.out, hwx⟩
      | part c =>
        have hs2 : spell (.part c) = [37, c] := rfl
        rw [hs2] at hsize hFF
        simp at hsize
        have hk1 : k < F.size := by omega
        have hk2 : k + 1 < F.size := by omega
        have hc : F[k] = 37 := byte_at F _ _ 37 k hFF hk hk1
        have hd : F[k + 1] = c := byte_at F (spells done ++ [37]) (spells rest) c (k + 1) (by rw [hFF]; simp) (by simp [hk]) hk2
        have hb0 : ((F[k].toNat : Int) != 37) = false := by rw [hc]; rfl
        have hk3 : (k : Int) + 1 < (F.size : Int) := by omega
        have hk4 : (0 : Int) ≤ (k : Int) + 1 := by omega
        have hlc := HL.out c (by rw [hsp]; simp)
        have hll := letText_len t c.toNat HT.out
        have HCL := Lib.hid (fun wy (hb : Below w.heap.size w wy) (hz : w.heap.size ≤ wy.heap.size) => refL_any t c w.heap.size wy HT.out hlc (HP.out.to hb) hz)
        obtain ⟨T, hT⟩ : ∃ T, letText t c.toNat = T := ⟨_, rfl⟩
        rw [hT] at HCL hll
        have HTx := Lib.hid (show textPc t (.part c) = T from hT)
        rw [← hd] at HCL
        clear hsp hk hX hbx hsize hFF hsp2 hst htt hc hd hs2 hrg hlc hT
        go_wp2_with fail
        refine (HCL.out _ HB.out hwx).mono ?_
        rintro e w3 ⟨rfl, hb3⟩
        have hz3 := hb3.size
        have hTs : (⟨T.toArray⟩ : ByteArray).size ≤ 20 := by rw [size_list]; simpa using hll
        go_wp2
        go_roundg (gk - 1)
        case measure => omega
        case rel => exact ⟨k + 2, done ++ [.part c], rest, _, by go_num, rfl, HSP2.out, by omega, by rw [HST.out, HK.out]; simp [spell], by rw [HTT.out, HTx.out]; simp [HX.out], HB.out.trans (hb3.mono hwx), by omega⟩
end Go.Proofs.YtcgabonoddloiaaGreatDoor.Wr
