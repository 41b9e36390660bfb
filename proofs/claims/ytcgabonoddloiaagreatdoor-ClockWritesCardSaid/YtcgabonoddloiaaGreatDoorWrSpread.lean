/- spread of the reference. -/
import Derived.Test.YtcgabonoddloiaaGreatDoorWrRefNam
namespace Go.Proofs.YtcgabonoddloiaaGreatDoor.Wr
open Go.RowKit Clk

/-- How a piece is spelt in a form without D and T. -/
def spell : Pc → List UInt8
  | .plain c => if c = 37 then [37, 37] else [c]
  | .part c => [37, c]
def spells (ps : List Pc) : List UInt8 := (ps.map spell).flatten
theorem spells_app (a b : List Pc) : spells (a ++ b) = spells a ++ spells b := by simp [spells]
theorem spells_one (p : Pc) : spells [p] = spell p := by simp [spells]

/-- What spread answers. -/
def SpreadRes (w : World) (r : Option (List Pc)) (e : Ending) (w' : World) : Prop :=
  (∃ ps, ∃ X : ByteArray, r = some ps ∧ e = .returned (.tuple #[.string X, .bool true]) ∧ X.data.toList = spells ps ∧ Below w.heap.size w w') ∨ (r = none ∧ e = .returned (.tuple #[.string ⟨#[]⟩, .bool false]) ∧ Below w.heap.size w w')

theorem extract_two (form : ByteArray) (k : Nat) (hk : k + 1 < form.size) {c d : UInt8} (hc : form[k] = c) (hd : form[k + 1] = d) : form.extract k (k + 1 + 1) = ⟨#[c, d]⟩ := by
  apply ByteArray.ext
  apply Array.ext
  · simp; omega
  · intro i h1 h2
    have h2' : i = 0 ∨ i = 1 := by simp at h2; omega
    rcases h2' with rfl | rfl
    · simp; exact hc
    · simp; exact hd

set_option maxRecDepth 100000 in
set_option maxHeartbeats 8000000 in
theorem spread_any (form : ByteArray) (hlen : form.size ≤ 200) (w : World) (hP : Pow w.heap.size w) : Calls Tryz.prog 67 #[.string form] w (SpreadRes w (piecesOf true form.data.toList)) := by
  obtain ⟨r0, hr0⟩ : ∃ r0, piecesOf true form.data.toList = r0 := ⟨_, rfl⟩
  rw [hr0]
  have HR0 := Lib.hid hr0
  have HP := Lib.hid hP
  clear hr0 hP
  have ht0 : isT 0 = true := by decide
  have HT0 := Lib.hid ht0
  clear ht0
  go_enter Tryz.func67, Tryz.ntmps67
  go_wp2_with fail
  go_loopg [4, 5] form.size (fun g v4 v5 wx => ∃ (k : Nat) (done : List Pc) (X : ByteArray), v5 = .int .i64 k ∧ v4 = .string X ∧ k ≤ form.size ∧ form.size - k ≤ g ∧ r0 = (piecesOf true (form.data.toList.drop k)).map (done ++ ·) ∧ X.data.toList = spells done ∧ X.size ≤ 8 * k ∧ Below w.heap.size w wx ∧ w.heap.size ≤ wx.heap.size)
  case atStart =>
    exact ⟨0, [], ⟨#[]⟩, rfl, rfl, Nat.zero_le _, by omega, by rw [List.drop_zero, HR0.out]; simp, rfl, Nat.le_refl _, Below.refl _ _, Nat.le_refl _⟩
  case round =>
    obtain ⟨k, done, X, rfl, rfl, hk, hkg, hrest, hX, hsz, hbx, hwx⟩ := hrel
    by_cases hlt : k < form.size
    · have hdrop : form.data.toList.drop k = form[k] :: form.data.toList.drop (k + 1) := by
        rw [List.drop_eq_getElem_cons (by simpa using hlt)]
        simp
        rfl
      obtain ⟨c, hc⟩ : ∃ c, form[k] = c := ⟨_, rfl⟩
      rw [hc] at hdrop
      have HB := Lib.hid hbx
      have HX := Lib.hid hX
      by_cases h37 : c = 37
      · subst h37
        have hb0 : ((form[k].toNat : Int) != 37) = false := by rw [hc]; rfl
        by_cases hend1 : k + 1 = form.size
        · have hnil : form.data.toList.drop (k + 1) = [] := List.drop_of_length_le (by simp; omega)
          have HNO := Lib.hid (map_none hrest (by rw [hdrop, hnil]; rfl))
          have hend : ((k : Int) + 1 == (form.size : Int)) = true := by simp; omega
          clear hrest hdrop hnil hc hbx hX
          go_wp2
          go_ret2
          exact .inr ⟨HNO.out, rfl, HB.out⟩
        have hk2 : k + 1 < form.size := by omega
        have hend : ((k : Int) + 1 == (form.size : Int)) = false := by simp; omega
        have hdrop2 : form.data.toList.drop (k + 1) = form[k + 1] :: form.data.toList.drop (k + 2) := by
          rw [List.drop_eq_getElem_cons (by simpa using hk2)]
          simp
          rfl
        obtain ⟨d, hd⟩ : ∃ d, form[k + 1] = d := ⟨_, rfl⟩
        rw [hdrop, hdrop2, hd] at hrest
        have hk3 : (k : Int) + 1 < (form.size : Int) := by omega
        have hk4 : (0 : Int) ≤ (k : Int) + 1 := by omega
        have HE := Lib.hid (extract_two form k hk2 hc hd)
        have hPx := HP.out.to hbx
        clear hdrop hdrop2 hbx hX
        by_cases h68 : d = 68
        · subst h68
          have t2 : ((form[k + 1].toNat : Int) == 68) = true := by rw [hd]; rfl
          have HR := Lib.hid (map_cons_app (nest := true) done dPcs hrest (by simp [piecesOf, show isLet 68 = false from by decide]; rfl))
          clear hrest hd hc
          go_wp2
          go_roundg (gk - 1)
          case measure => omega
          case rel => exact ⟨k + 2, done ++ dPcs, _, by go_num, rfl, by omega, by omega, HR.out, by simp [spells_app, HX.out]; rfl, by rw [ByteArray.size_append]; show X.size + 8 ≤ _; omega, HB.out, hwx⟩
        have t2 : ((form[k + 1].toNat : Int) == 68) = false := by
          rw [hd]
          have : d.toNat ≠ 68 := fun e => h68 (UInt8.toNat_inj.1 e)
          simp; omega
        by_cases h84 : d = 84
        · subst h84
          have t3 : ((form[k + 1].toNat : Int) == 84) = true := by rw [hd]; rfl
          have HR := Lib.hid (map_cons_app (nest := true) done tPcs hrest (by simp [piecesOf, show isLet 84 = false from by decide]; rfl))
          clear hrest hd hc
          go_wp2
          go_roundg (gk - 1)
          case measure => omega
          case rel => exact ⟨k + 2, done ++ tPcs, _, by go_num, rfl, by omega, by omega, HR.out, by simp [spells_app, HX.out]; rfl, by rw [ByteArray.size_append]; show X.size + 8 ≤ _; omega, HB.out, hwx⟩
        have t3 : ((form[k + 1].toNat : Int) == 84) = false := by
          rw [hd]
          have : d.toNat ≠ 84 := fun e => h84 (UInt8.toNat_inj.1 e)
          simp; omega
        have HPx := Lib.hid hPx
        clear hPx
        cases hpd : isLet d with
        | true =>
          have HR := Lib.hid (map_cons_app (nest := true) done [.part d] hrest (by simp [piecesOf, hpd]; rfl))
          have HCL := Lib.hid (fun wy (hb : Below wr.heap.size wr wy) => refL_any 0 d w.heap.size wy HT0.out hpd (HPx.out.to (hb.mono hwx)) (Nat.le_trans hwx hb.size))
          rw [← hd] at HCL
          clear hrest hc hd hpd h68 h84
          go_wp2_with fail
          refine (HCL.out _ (Below.refl _ _)).mono ?_
          rintro e w3 ⟨rfl, hb3⟩
          have hz3 := hb3.size
          go_wp2
          go_roundg (gk - 1)
          case measure => omega
          case rel => exact ⟨k + 2, done ++ [.part d], _, by go_num, rfl, by omega, by omega, HR.out, by rw [HE.out, spells_app, spells_one]; simp [HX.out, spell], by rw [HE.out, ByteArray.size_append]; show X.size + 2 ≤ _; omega, HB.out.trans (hb3.mono hwx), by omega⟩
        | false =>
          by_cases h1 : d = 37
          · subst h1
            have HR := Lib.hid (map_cons_app (nest := true) done [.plain 37] hrest (by simp [piecesOf, hpd]; rfl))
            have HCL := Lib.hid (fun wy => refL_37 0 wy HT0.out)
            rw [show (37 : Int) = ((37 : UInt8).toNat : Int) from rfl, ← hd] at HCL
            clear hrest hc hd hpd h68 h84
            go_wp2_with fail
            refine (HCL.out _).mono ?_
            rintro e w3 ⟨rfl, hb3⟩
            have hz3 := hb3.size
            go_wp2
            go_roundg (gk - 1)
            case measure => omega
            case rel => exact ⟨k + 2, done ++ [.plain 37], _, by go_num, rfl, by omega, by omega, HR.out, by rw [HE.out, spells_app, spells_one]; simp [HX.out, spell], by rw [HE.out, ByteArray.size_append]; show X.size + 2 ≤ _; omega, HB.out.trans (hb3.mono hwx), by omega⟩
          have HNO := Lib.hid (map_none hrest (by simp [piecesOf, hpd, h1, h68, h84]))
          have HCL := Lib.hid (fun wy => refL_no 0 (d.toNat : Int) wy HT0.out (by
            have : d.toNat ≠ 37 := fun e => h1 (UInt8.toNat_inj.1 e)
            simp; omega) (fun x hx e => by
            have : isLet d = true := by
              unfold isLet
              rw [List.any_eq_true]
              exact ⟨x, hx, by simpa using e⟩
            rw [hpd] at this
            cases this))
          rw [← hd] at HCL
          clear hrest hc hd hpd h68 h84 h1
          go_wp2_with fail
          refine (HCL.out _).mono ?_
          rintro e w3 ⟨rfl, hb3⟩
          go_wp2
          go_ret2
          exact .inr ⟨HNO.out, rfl, HB.out.trans (hb3.mono hwx)⟩
      · rw [hdrop, piecesOf_plain true h37] at hrest
        have HR := Lib.hid (map_cons_app (nest := true) done [.plain c] hrest rfl)
        have hne : ((form[k].toNat : Int) != 37) = true := by
          rw [hc]
          have : c.toNat ≠ 37 := fun e => h37 (UInt8.toNat_inj.1 e)
          simp; omega
        have HE := Lib.hid (extract_one form k hlt hc)
        have HC := Lib.hid h37
        clear hrest hc hdrop h37 hbx hX
        go_wp2
        go_roundg (gk - 1)
        case measure => omega
        case rel => exact ⟨k + 1, done ++ [.plain c], _, by go_num, rfl, by omega, by omega, HR.out, by rw [HE.out, spells_app, spells_one]; simp [HX.out, spell, HC.out], by rw [HE.out, ByteArray.size_append]; show X.size + 1 ≤ _; omega, HB.out, hwx⟩
    · obtain rfl : k = form.size := by omega
      have he : r0 = some done := by
        rw [hrest, List.drop_of_length_le (by simp)]
        simp [piecesOf]
      have HE := Lib.hid he
      have HX := Lib.hid hX
      clear hrest hlt he hX
      go_wp2_with fail
      go_ret2
      exact .inl ⟨done, X, HE.out, rfl, HX.out, hbx⟩
end Go.Proofs.YtcgabonoddloiaaGreatDoor.Wr
