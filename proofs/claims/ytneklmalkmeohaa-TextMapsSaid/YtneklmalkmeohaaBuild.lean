/- strings.Builder, also one whose bytes were asked already: copyCheck, WriteString, Grow. -/
import Derived.Test.YtneklmalkmeohaaWrite
import Derived.Lib.FrozenHead
import Derived.Deep.RegionHeld3
namespace Go.Proofs.Ytneklmalkmeohaa
open Go.RowKit

theorem check_f (B b : Nat) (bs : List Value) (w : World) (h : Lib.IsBuilderF 64 5 B b bs w) :
    Calls Try.prog 88 #[.pointer (some ⟨b, 0, none⟩)] w fun e w' => e = .returned (.tuple #[]) ∧ Lib.BuilderAtF 64 5 B b (.pointer (some ⟨b, 0, none⟩)) bs w' ∧ Below B w w' := by
  rcases h with h | h
  · refine (check_new b w h.cell0 h.shape h.frozen0).mono ?_
    rintro e w' ⟨rfl, rfl⟩
    exact ⟨rfl, h.used _, (Below.refl B w).setCell (p := ⟨b, 0, none⟩) h.1 _⟩
  · refine (check_old b w h.cell0).mono ?_
    rintro e w' ⟨rfl, rfl⟩
    exact ⟨rfl, h, Below.refl B _⟩

theorem slice_of_ownF {w : World} {base : Nat} {e : TypeId} {size n : Nat} {v : Value} {xs : List Value} (h : w.ownsRowF base e size v n xs) : ∃ ao c, v = .slice ao n c := by
  rcases h.2 with ⟨rfl, rfl⟩ | ⟨g, cap, cur, fz, rfl, _⟩
  · exact ⟨_, _, rfl⟩
  · exact ⟨_, _, rfl⟩

set_option maxHeartbeats 1600000 in
set_option maxRecDepth 100000 in
theorem write_f (B b : Nat) (bs : List Value) (s : ByteArray) (w : World) (h : Lib.IsBuilderF 64 5 B b bs w) (hlen : bs.length + s.size ≤ 1000000) (hBw : B ≤ w.heap.size) :
    Calls Try.prog 65 #[.pointer (some ⟨b, 0, none⟩), .string s] w fun e w' => e = .returned (.tuple #[.int .i64 s.size, .nilIface]) ∧ Lib.BuilderAtF 64 5 B b (.pointer (some ⟨b, 0, none⟩)) (bs ++ Lib.strCells s) w' ∧ Below B w w' := by
  obtain ⟨i5, hi5, hy0, hy1, hy2⟩ := info_parts Try.info5
  go_enter Try.func65, Try.ntmps65
  go_wp2_with fail
  refine (check_f B b bs _ h).mono ?_
  rintro e w1 ⟨rfl, ⟨hB, v, hbk, hown, hne⟩, hb1⟩
  have hg : Has w1 b 64 #[.pointer (some ⟨b, 0, none⟩), v] := hbk
  have c1 : w1.cell? ⟨b, 1, none⟩ = some v := hg.cell 1
  have hl1 := hg.lt
  have hz1 := hb1.size
  clear hbk h
  go_wp2_with (at_builtin; refine Lib.wpList_append_own_stringF _ rfl _ _ 56 9 rfl B 5 i5 Try.underlying56 Try.underlying9 hi5 hy0 hy1 hy2 v bs.length bs rfl hown s rfl (by unfold maxLen; omega) (by omega) (by omega) ?_; intro v' w2 hown2 hgrow _; obtain ⟨ao, cc, rfl⟩ := slice_of_ownF hown2; have hg2 : Has w2 b 64 #[.pointer (some ⟨b, 0, none⟩), v] := hg.grown hgrow (Ne.symm hne); have c2 : w2.cell? ⟨b, 1, none⟩ = some v := hg2.cell 1; have f2 := hg2.free 1)
  have hB2 : Below B w w2 := hb1.grown hgrow (by omega) (fun k hk => (hown.lt k hk).1)
  go_ret2
  exact ⟨rfl, Lib.BuilderAtF.put hB hg2 (by simpa [Lib.strCells] using hown2) (by decide), hB2.setCell (p := ⟨b, 1, none⟩) hB _⟩

theorem Try.size5 : (Try.prog.info? 5).map (·.size) = some 1 := by kernel_rfl

set_option maxHeartbeats 1600000 in
set_option maxRecDepth 100000 in
theorem grow_row (B b n : Nat) (w : World) (hB : B ≤ b) (hbk : Has w b 64 #[.pointer (some ⟨b, 0, none⟩), .slice none 0 0]) (hBw : B ≤ w.heap.size) (hn : n ≤ 1000000) :
    Calls Try.prog 107 #[.pointer (some ⟨b, 0, none⟩), .int .i64 n] w fun e w' => e = .returned (.tuple #[]) ∧ Lib.BuilderAt 64 5 B b (.pointer (some ⟨b, 0, none⟩)) [] w' ∧ Below B w w' := by
  obtain ⟨cs, hrun, hle, hmax⟩ := Lib.run_makeNoZero (P := Try.prog) w.drew #[3] 56 5 Try.underlying56 n (by omega)
  have hw : IntKind.i64.wrap (IntKind.i64.wrap 0 + (n : Int)) = n := by
    rw [IntKind.wrap_i64, IntKind.wrap_i64]
    omega
  have hcall : (callFunc 110 #[.int .i64 (IntKind.i64.wrap (IntKind.i64.wrap 0 + (n : Int)))]).run Try.prog w.drew = .ok (.value (.slice (some ⟨w.drew.heap.size, 0, none⟩) n cs.size)) (w.drew.drew.drew.alloc (.cells cs 5)) := by
    rw [hw, run_callFunc_extern Try.func110 (by kernel_rfl) (by kernel_rfl) (by kernel_rfl) (e := Extern.BytealgMakeNoZero.makeNoZero #[3] #[56]) (by kernel_rfl), hrun]
    rfl
  have hbk2 : Has (w.alloc (.cells cs 5)) b 64 #[.pointer (some ⟨b, 0, none⟩), .slice none 0 0] := hbk.alloc _
  have c1 : w.drew.cell? ⟨b, 1, none⟩ = some (.slice none 0 0) := hbk.cell 1
  have c2 : (w.alloc (.cells cs 5)).cell? ⟨b, 1, none⟩ = some (.slice none 0 0) := hbk2.cell 1
  have f2 : (w.alloc (.cells cs 5)).frozen? ⟨b, 1, none⟩ = false := hbk2.free 1
  have hcopy : ∀ W : World, (Builtin.copy_ #[56, 56] 3 #[.slice (some ⟨w.heap.size, 0, none⟩) 0 cs.size, .slice none 0 0]).run Try.prog W = .ok (goInt 0) W :=
    fun W => run_copy_none W 56 56 3 5 _ _ 0 cs.size 0 0 Try.underlying56 Try.size5 rfl
  have hfin := Lib.hid (Lib.grown_fresh (T := 64) (e := 5) (cs := cs) hB hbk hBw (hmax (by unfold maxLen; omega)) (by decide))
  clear hw
  go_enter Try.func107, Try.ntmps107
  go_wp2
  go_region
  all_goals (go_wp2; go_end0; exact ⟨rfl, hfin.out⟩)

set_option maxHeartbeats 1600000 in
set_option maxRecDepth 100000 in
theorem grow_new (B b n : Nat) (w : World) (hB : B ≤ b) (hbk : Has w b 64 #[.pointer none, .slice none 0 0]) (hBw : B ≤ w.heap.size) (hn : n ≤ 1000000) :
    Calls Try.prog 90 #[.pointer (some ⟨b, 0, none⟩), .int .i64 n] w fun e w' => e = .returned (.tuple #[]) ∧ Lib.BuilderAt 64 5 B b (.pointer (some ⟨b, 0, none⟩)) [] w' ∧ Below B w w' := by
  have hbk1 : Has (w.setCell ⟨b, 0, none⟩ (.pointer (some ⟨b, 0, none⟩))) b 64 #[.pointer (some ⟨b, 0, none⟩), .slice none 0 0] := hbk.put 0 _
  have hb1 : Below B w (w.setCell ⟨b, 0, none⟩ (.pointer (some ⟨b, 0, none⟩))) := (Below.refl B w).setCell (p := ⟨b, 0, none⟩) hB _
  have hU : Lib.BuilderAt 64 5 B b (.pointer (some ⟨b, 0, none⟩)) [] (w.setCell ⟨b, 0, none⟩ (.pointer (some ⟨b, 0, none⟩))) := ⟨hB, .slice none 0 0, hbk1, World.ownsRow_nil _ _ _ _, by simp [Value.ownBlock]⟩
  go_enter Try.func90, Try.ntmps90
  go_wp2_with fail
  refine (check_new b w (hbk.cell 0) (by simp [World.shape?, show w.heap[b]? = _ from hbk]) (hbk.free 0)).mono ?_
  rintro e w' ⟨rfl, rfl⟩
  have hz : B ≤ (w.setCell ⟨b, 0, none⟩ (.pointer (some ⟨b, 0, none⟩))).heap.size := Nat.le_trans hBw hb1.size
  generalize (w.setCell ⟨b, 0, none⟩ (.pointer (some ⟨b, 0, none⟩))) = W at *
  have c1 : W.cell? ⟨b, 1, none⟩ = some (.slice none 0 0) := hbk1.cell 1
  go_wp2
  go_region
  all_goals go_wp2_with (go_at_call 107; refine (grow_row B b n W.drew hB hbk1 hz hn).mono ?_; rintro e w' ⟨rfl, h1, h2⟩)
  all_goals first
    | (go_end0; exact ⟨rfl, h1, hb1.drew.trans h2⟩)
    | (go_end0; exact ⟨rfl, hU.drew, hb1.drew⟩)
end Go.Proofs.Ytneklmalkmeohaa
