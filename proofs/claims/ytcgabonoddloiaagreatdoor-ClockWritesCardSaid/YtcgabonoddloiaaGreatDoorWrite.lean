/- Write of the program, of a form whose letters are parts of the date. -/
import Derived.Test.YtcgabonoddloiaaGreatDoorPieces
import Derived.Test.YtcgabonoddloiaaGreatDoorCall
import Derived.Test.YtcgabonoddloiaaGreatDoorBuild
import Derived.Lib.OthersKept
namespace Go.Proofs.YtcgabonoddloiaaGreatDoor
open Go.RowKit Clk Go.ChangeMaps

/-- What the six functions of the parts tell; the other two are not used. -/
def fieldOf (g : FuncId) (Y M D h i s : Int) : Int :=
  if g = 81 then Y else if g = 83 then M else if g = 84 then D else if g = 85 then h else if g = 86 then i else s

/-- The part is one of the six. -/
def six (x : Part) : Bool := [81, 83, 84, 85, 86, 87].contains x.2.2.2.1 && (decide (0 ≤ x.2.2.1) && decide (x.2.2.1 ≤ 4))

theorem part_fn {x : Part} (hx : x ∈ parts) (h6 : six x = true) : PartFn x.2.2.2.1 (fieldOf x.2.2.2.1) := by
  simp only [parts, List.mem_cons, List.mem_nil_iff, or_false] at hx
  rcases hx with rfl | rfl | rfl | rfl | rfl | rfl | rfl | rfl
  · exact part1_3
  · exact absurd h6 (by decide)
  · exact part1_5
  · exact part1_6
  · exact part1_7
  · exact part1_8
  · exact part1_9
  · exact absurd h6 (by decide)

/-- The text of a piece. -/
def textPc (Y M D h i s : Int) : Pc → List UInt8
  | .plain c => [c]
  | .part x => padB (fieldOf x.2.2.2.1 Y M D h i s) x.2.2.1.toNat
def textOf (Y M D h i s : Int) (ps : List Pc) : List UInt8 := (ps.map (textPc Y M D h i s)).flatten
def sixPc : Pc → Bool
  | .plain _ => true
  | .part x => six x

theorem textOf_snoc (Y M D h i s : Int) (ps : List Pc) (j : Nat) (p : Pc) (hp : ps[j]? = some p) : textOf Y M D h i s (ps.take (j + 1)) = textOf Y M D h i s (ps.take j) ++ textPc Y M D h i s p := by
  unfold textOf
  have hj : j < ps.length := (List.getElem?_eq_some_iff.1 hp).1
  rw [List.take_succ_eq_append_getElem hj, (List.getElem?_eq_some_iff.1 hp).2]
  simp

theorem padB_len (n : Int) (k : Nat) (h0 : 0 ≤ n) (h1 : n ≤ 9999) (hk : k ≤ 4) : (padB n k).length ≤ 4 := by
  have := itoa_len n h0 h1
  unfold padB
  rw [List.length_append, Lib.repeatL_length]
  simp
  omega
theorem textPc_len (Y M D h i s : Int) (f0 : ∀ g, 0 ≤ fieldOf g Y M D h i s ∧ fieldOf g Y M D h i s ≤ 9999) (p : Pc) (h6 : sixPc p = true) : (textPc Y M D h i s p).length ≤ 4 := by
  cases p with
  | plain c => simp [textPc]
  | part x =>
    have h6' : six x = true := h6
    unfold six at h6'
    simp only [Bool.and_eq_true, decide_eq_true_eq] at h6'
    exact padB_len _ _ (f0 _).1 (f0 _).2 (by omega)
theorem textOf_len (Y M D h i s : Int) (f0 : ∀ g, 0 ≤ fieldOf g Y M D h i s ∧ fieldOf g Y M D h i s ≤ 9999) (ps : List Pc) (h6 : ∀ p ∈ ps, sixPc p = true) : (textOf Y M D h i s ps).length ≤ 4 * ps.length := by
  induction ps with
  | nil => simp [textOf]
  | cons p ps ih =>
    have h1 := textPc_len Y M D h i s f0 p (h6 p (.head _))
    have h2 := ih (fun q hq => h6 q (.tail _ hq))
    unfold textOf at h2 ⊢
    simp only [List.map_cons, List.flatten_cons, List.length_append, List.length_cons]
    omega
theorem bytes_snoc (A l : List UInt8) : Lib.byteCells (A ++ l) = Lib.byteCells A ++ Lib.strCells ⟨l.toArray⟩ := by simp [Lib.byteCells, Lib.strCells]

theorem builder_below {T e : TypeId} {B b : Nat} {bs : List Value} {w w' : World} (h : Lib.IsBuilderF T e B b bs w) (hb : Below w.heap.size w w') : Lib.IsBuilderF T e B b bs w' := by
  have one : ∀ p, Lib.BuilderAtF T e B b p bs w → Lib.BuilderAtF T e B b p bs w' := by
    rintro p ⟨hB, v, hbk, hown, hne⟩
    refine ⟨hB, v, (hb.block b (Array.getElem?_eq_some_iff.1 hbk).1).trans hbk, ?_, hne⟩
    exact hown.kept (row := none) ⟨hb.os, hb.tape, hb.output, hb.size, fun k hk _ => hb.block k hk⟩ (by cases v.ownBlock <;> simp)
  exact h.elim (fun x => .inl (one _ x)) (fun x => .inr (one _ x))

set_option maxRecDepth 100000 in
set_option maxHeartbeats 4000000 in
theorem write_any' (t Y M D h i s : Int) (form : ByteArray) (ps : List Pc) (w : World) (A : AtIs t Y M D h i s) (ht : isT t = true) (hsay : PiecesSay form ps) (h6 : ∀ p ∈ ps, sixPc p = true) (hl : ps.length ≤ 1000) (hl0 : 0 < ps.length)
    (f0 : ∀ g, 0 ≤ fieldOf g Y M D h i s ∧ fieldOf g Y M D h i s ≤ 9999) (hP : Pow w.heap.size w) :
    Calls Tryz.prog 32 #[.int .i64 t, .string form] w fun e w' => e = .returned (.tuple #[.string ⟨(textOf Y M D h i s ps).toArray⟩, .int .i64 0]) ∧ Below w.heap.size w w' := by
  have htb := isT_iff.1 ht
  have HA := Lib.hid A
  have HS := Lib.hid hsay
  have HF := Lib.hid f0
  have HP := Lib.hid hP
  have H6 := Lib.hid h6
  clear A hsay f0 hP h6
  go_enter Tryz.func32, Tryz.ntmps32
  go_wp2_with (first | (go_at_call 34; refine (isTime_any _ _).mono ?_; rintro e w' ⟨rfl, rfl⟩; rw [ht]))
  refine (HS.out _).mono ?_
  rintro e w1 ⟨v, xs, rfl, hb1, hown, hrows⟩
  obtain ⟨g, cap, rfl, hgB, hgl⟩ := hown.form hl0
  have hz1 := hb1.size
  have HO := Lib.hid (And.intro hb1 (And.intro hown hrows))
  obtain ⟨B, hB⟩ : ∃ B, w1.heap.size = B := ⟨_, rfl⟩
  rw [hB] at hgl hz1
  have HB := Lib.hid hB
  clear hb1 hown hrows hB
  have hbu : Lib.IsBuilderF 67 5 B B (Lib.byteCells (textOf Y M D h i s (ps.take 0))) (w1.alloc (.cells #[.pointer none, .slice none 0 0] 67)) := by
    rw [← HB.out]
    exact .inl ⟨Nat.le_refl _, _, Has.new w1 67 _, World.ownsRowF_of (World.ownsRow_nil _ _ _ _), by simp [Value.ownBlock]⟩
  have HBU := Lib.hid hbu
  clear hbu
  go_wp2_with fail
  rw [HB.out]
  go_loopg [24] ps.length (fun gh v24 wx => ∃ j : Nat, v24 = .int .i64 j ∧ j ≤ ps.length ∧ ps.length - j ≤ gh ∧ Lib.IsBuilderF 67 5 B B (Lib.byteCells (textOf Y M D h i s (ps.take j))) wx ∧ Below B w1 wx)
  case atStart =>
    exact ⟨0, rfl, Nat.zero_le _, by omega, HBU.out, (Below.refl _ _).alloc (by rw [HB.out]; exact Nat.le_refl _) _⟩
  case round =>
    obtain ⟨j, rfl, hj, hjg, hbu, hbx⟩ := hrel
    by_cases hlt : j < ps.length
    · obtain ⟨p, hp⟩ : ∃ p, ps[j]? = some p := ⟨ps[j], List.getElem?_eq_getElem hlt⟩
      obtain ⟨cs, hgood, hcs⟩ := HO.out.2.2.at j p hp
      have hcell : ∀ k, k < 4 → wr.cell? ⟨g, j * 4 + k, none⟩ = cs[k]? := fun k hk => by
        rw [← hcs k hk, ← HO.out.2.1.cellAt (4 * j + k) (by omega), Nat.mul_comm j 4]
        exact World.cell?_of_block (hbx.block g hgl)
      have hsn := textOf_snoc Y M D h i s ps j p hp
      have hBw : B ≤ wr.heap.size := by have := hbx.size; rw [HB.out] at this; exact this
      have hln : (textOf Y M D h i s (ps.take j)).length ≤ 4000 := by
        have := textOf_len Y M D h i s HF.out (ps.take j) (fun p hp => H6.out p (List.mem_of_mem_take hp))
        rw [List.length_take] at this
        omega
      have HSN := Lib.hid hsn
      have HBX := Lib.hid hbx
      have HBU2 := Lib.hid hbu
      cases p with
      | plain c =>
        have c0 := hcell 0 (by decide)
        have c1 := hcell 1 (by decide)
        have c2 := hcell 2 (by decide)
        have c3 := hcell 3 (by decide)
        rw [show cs = _ from hgood] at c0 c1 c2 c3
        simp only [List.getElem?_cons_zero, List.getElem?_cons_succ, Nat.add_zero] at c0 c1 c2 c3
        clear hcell hcs hsn hbx hbu hp hgood
        go_wp2_with fail
        refine (write_f B B _ _ _ (HBU2.out.alloc _) (by show _ + 1 ≤ _; simp [Lib.byteCells]; omega) (by simp; omega)).mono ?_
        rintro e w3 ⟨rfl, hat, hb3⟩
        have HAT := Lib.hid hat
        clear hat
        go_wp2_with fail
        go_roundg (gk - 1)
        case measure => omega
        case rel =>
          refine ⟨j + 1, by go_num, by omega, by omega, .inr ?_, ?_⟩
          · rw [HSN.out, show textPc Y M D h i s (.plain c) = [c] from rfl, bytes_snoc]
            exact HAT.out
          · exact (HBX.out.alloc hBw _).trans hb3
      | part x =>
        obtain ⟨hxp, wf, rf, lo, hi, hcse, hpart, hBlo, -⟩ := hgood
        obtain ⟨pa, pb, pc, hag, k1, k2, k3, la, lb, lc⟩ := hpart.is
        cases hag
        have c0 := hcell 0 (by decide)
        have c1 := hcell 1 (by decide)
        have c2 := hcell 2 (by decide)
        have c3 := hcell 3 (by decide)
        rw [hcse] at c0 c1 c2 c3
        simp only [List.getElem?_cons_zero, List.getElem?_cons_succ, Nat.add_zero] at c0 c1 c2 c3
        have h6 : six x = true := H6.out _ (List.mem_of_getElem? hp)
        have hmark : (x.2.2.2.2 == 0) = false := by
          have : ∀ x ∈ parts, (x.2.2.2.2 == 0) = false := by decide
          exact this x hxp
        have hdig : 0 ≤ x.2.2.1 ∧ x.2.2.1 ≤ 4 := by
          unfold six at h6
          simp only [Bool.and_eq_true, decide_eq_true_eq] at h6
          exact h6.2
        have HX := Lib.hid (And.intro hxp (And.intro h6 (And.intro hpart.le (And.intro k1 (And.intro k2 (And.intro k3 (And.intro la (And.intro lb (And.intro lc hdig)))))))))
        clear hcell hcs hsn hbx hbu hp hcse hpart hxp h6 k1 k2 k3 la lb lc hdig
        go_wp2_with fail
        obtain ⟨hxp, h6, hle, k1, k2, k3, la, lb, lc, d0, d4⟩ := HX.out
        rw [HB.out] at hle
        have hbx' := HBX.out.alloc hBw (.cells #[.int .u8 x.2.2.2.2, .string ⟨#[]⟩, .func (.func 104) #[] #[.pointer (some ⟨pb, 0, none⟩), .pointer (some ⟨pc, 0, none⟩)], .func (.func 106) #[] #[.pointer (some ⟨pc, 0, none⟩)]] 73)
        have hsz := hbx'.size
        rw [HB.out] at hsz
        obtain ⟨n, hn⟩ := Int.eq_ofNat_of_zero_le d0
        have hnk : x.2.2.1.toNat = n := by omega
        have hf := HF.out x.2.2.2.1
        refine (number1_any x.2.2.2.1 _ (part_fn hxp h6) t Y M D h i s pa pb pc n w.heap.size _ HA.out (by omega) (by omega) ((hbx'.cell (p := ⟨pa, 0, none⟩) (by show pa < B; omega)).trans k2) ((hbx'.cell (p := ⟨pb, 0, none⟩) (by show pb < B; omega)).trans k1) ((hbx'.cell (p := ⟨pc, 0, none⟩) (by show pc < B; omega)).trans (by rw [k3, hn])) (by omega) (by omega) (by omega) (by omega) hf.1 hf.2 (HP.out.to (HO.out.1.trans (hbx'.mono hz1))) (by omega)).mono ?_
        rintro e w3 ⟨rfl, hb3⟩
        have htx : textPc Y M D h i s (.part x) = padB (fieldOf x.2.2.2.1 Y M D h i s) n := by rw [← hnk]; rfl
        have hpl := padB_len _ n hf.1 hf.2 (by omega)
        obtain ⟨T, hT⟩ : ∃ T, padB (fieldOf x.2.2.2.1 Y M D h i s) n = T := ⟨_, rfl⟩
        rw [hT] at hpl htx ⊢
        have HT := Lib.hid htx
        have hsz3 := hb3.size
        have HB3 := Lib.hid (And.intro hb3 hbx')
        clear hxp h6 hle k1 k2 k3 la lb lc d0 d4 hn hnk hf htx hT hb3 hbx'
        go_wp2_with fail
        refine (write_f B B _ _ _ (builder_below (HBU2.out.alloc _) HB3.out.1) (by show _ + T.length ≤ _; simp [Lib.byteCells]; omega) (by omega)).mono ?_
        rintro e w4 ⟨rfl, hat, hb4⟩
        have HAT := Lib.hid hat
        clear hat
        go_wp2_with fail
        go_roundg (gk - 1)
        case measure => omega
        case rel =>
          refine ⟨j + 1, by go_num, by omega, by omega, .inr ?_, ?_⟩
          · rw [HSN.out, HT.out, bytes_snoc]
            exact HAT.out
          · exact (HB3.out.2.trans (HB3.out.1.mono (by omega))).trans hb4
    · obtain rfl : j = ps.length := by omega
      have HBX := Lib.hid hbx
      have HBU2 := Lib.hid hbu
      have hBw : B ≤ wr.heap.size := by have := hbx.size; rw [HB.out] at this; exact this
      have HBW := Lib.hid hBw
      clear hbx hbu hlt hBw
      go_wp2_with fail
      refine (Tryz.Builder_String_any_f B B _ _ HBU2.out HBW.out).mono ?_
      rintro e w3 ⟨rfl, -, hb3⟩
      go_wp2
      go_ret2
      exact ⟨rfl, HO.out.1.trans ((HBX.out.trans hb3).mono hz1)⟩
end Go.Proofs.YtcgabonoddloiaaGreatDoor
