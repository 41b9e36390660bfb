/- The bytes of the set x-z: what the iterator of readSet hands on. -/
import Derived.RangeFuncNested
import Derived.RangeFuncBound
import Derived.RangeFuncCalls
import Derived.RangeFuncLeaves
import Derived.Shelf.Abstract
import Derived.Shelf.RegionOpen
import Derived.OwnWalkIn
import Derived.TacticsInMore
import Derived.LoopNIn
import Derived.LoopIn
import Derived.Sort.QuietIn
import Derived.Test.YtneklmalkmeohaaAdd
namespace Go.Proofs.Ytneklmalkmeohaa
open Go.RowKit Go.Shelf
attribute [local go_sem] Oper.semAt_some

abbrev Byte := { x : Int // 0 ≤ x ∧ x < 256 }
/-- What a round must keep for the iterator: the box of its text. -/
def KeepsBox (Bn : Nat) (W W' : World) : Prop := ∀ v, W.cell? ⟨Bn, 0, none⟩ = some v → W'.cell? ⟨Bn, 0, none⟩ = some v

theorem e0 : ({ data := #[120, 45, 122] } : ByteArray)[0].toNat = 120 := rfl
theorem e2 : ({ data := #[120, 45, 122] } : ByteArray)[2].toNat = 122 := rfl
theorem e1 : ({ data := #[120, 45, 122] } : ByteArray)[1].toNat = 45 := rfl
def xyz : List Byte := [⟨120, by omega⟩, ⟨121, by omega⟩, ⟨122, by omega⟩]

set_option maxRecDepth 100000 in
set_option maxHeartbeats 2000000 in
theorem bytes_in (n : Nat) (hn : 1 ≤ n) (l Bn B : Nat) (J Jx : List Byte → World → Prop) (hJ : AbidesFrom B J)
    (hY : ∀ pre x W, J pre W → pre.length < 3 → YieldAt Fence.wide (n - 1) Try.prog l #[.int .u8 x.1] W fun e W' =>
      (e = .returned (.bool true) ∧ J (pre ++ [x]) W' ∧ KeepsBox Bn W W') ∨ (e = .returned (.bool false) ∧ Jx (pre ++ [x]) W'))
    (W : World) (hB : W.cell? ⟨Bn, 0, none⟩ = some (.string ⟨#[120, 45, 122]⟩)) (h0 : J [] W) :
    CallsIn Fence.wide n Try.prog 111 #[.func (.yield l) #[] #[], .pointer (some ⟨Bn, 0, none⟩)] W fun e W' => (∃ v, e = .returned v) ∧
      ((∃ ys, ys = xyz ∧ J ys W') ∨ (∃ pre, True ∧ Jx pre W')) := by
  refine callsIn_of_wp Try.func111 rfl trivial ?_ rfl
  simp only [Try.ntmps111, List.size_toArray, List.length_cons, List.length_nil, Nat.reduceAdd, Nat.reduceSub, Array.replicate_succ, Array.replicate_zero, List.push_toArray, List.append_toArray, List.nil_append, List.cons_append]
  have HY := Lib.hid hY
  clear hY
  gi_wp2
  refine wpIn_loop_rounds 3 ?_
  rw [roundsIn_succ]
  gi_wp2
  have z0 := e0
  have z1 := e1
  have z2 := e2
  gi_quiet (fail)
  gi_wp2
  have hJd : ∀ m, J [] (W.drewN m) := fun m => hJ [] W (W.drewN m) none h0 ⟨rfl, rfl, rfl, Nat.le_refl _, fun _ _ _ => rfl⟩ (fun r e => by cases e)
  have h1 := hJd nq
  have hB1 : (W.drewN nq).cell? ⟨Bn, 0, none⟩ = some (.string ⟨#[120, 45, 122]⟩) := hB
  clear hJd hJ h0 hB
  generalize W.drewN nq = W1 at *
  obtain ⟨f1, t1, a1, b1, hy1, hR1⟩ := HY.out [] ⟨120, by omega⟩ W1 h1 (by simp)
  dsimp only at hy1
  have HB1 := Lib.hid hB1
  clear hB1
  refine wpIn_loop_rounds 4 ?_
  rw [roundsIn_succ]
  gi_wp2
  refine hR1.mono ?_
  clear hR1 hy1
  rintro e W2 (⟨rfl, h2, k2⟩ | ⟨rfl, hx⟩)
  · obtain ⟨f2, t2, a2, b2, hy2, hR2⟩ := HY.out _ ⟨121, by omega⟩ W2 h2 (by simp)
    dsimp only at hy2
    gi_wp2
    rw [roundsIn_succ]
    gi_wp2
    refine hR2.mono ?_
    clear hR2 hy2
    rintro e W3 (⟨rfl, h3, k3⟩ | ⟨rfl, hx⟩)
    · obtain ⟨f3, t3, a3, b3, hy3, hR3⟩ := HY.out _ ⟨122, by omega⟩ W3 h3 (by simp)
      dsimp only at hy3
      gi_wp2
      rw [roundsIn_succ]
      gi_wp2
      refine hR3.mono ?_
      clear hR3 hy3
      rintro e W4 (⟨rfl, h4, k4⟩ | ⟨rfl, hx⟩)
      · have hB4 : W4.cell? ⟨Bn, 0, none⟩ = some (.string ⟨#[120, 45, 122]⟩) := k4 _ (k3 _ (k2 _ HB1.out))
        gi_wp2
        rw [roundsIn_succ]
        gi_wp2
        rw [roundsIn_succ]
        gi_wp2
        go_end0
        exact ⟨⟨_, rfl⟩, .inl ⟨_, rfl, h4⟩⟩
      · gi_wp2
        refine bodyPost_ret (results_none rfl _ _ _) rfl ?_
        exact ⟨⟨_, rfl⟩, .inr ⟨_, trivial, hx⟩⟩
    · gi_wp2
      refine bodyPost_ret (results_none rfl _ _ _) rfl ?_
      exact ⟨⟨_, rfl⟩, .inr ⟨_, trivial, hx⟩⟩
  · gi_wp2
    refine bodyPost_ret (results_none rfl _ _ _) rfl ?_
    exact ⟨⟨_, rfl⟩, .inr ⟨_, trivial, hx⟩⟩
theorem has_kept {W W' : World} {row : Option Nat} {g : Nat} {t : TypeId} {cs : Array Value} (h : Has W g t cs) (hg : W.grownBy W' row) (hr : ∀ r, row = some r → ∃ o : Obj, W.heap[r]? = some o ∧ o.isCells = false) : Has W' g t cs :=
  h.grown hg (fun e => by
    obtain ⟨o, ho, hc⟩ := hr g e.symm
    rw [show W.heap[g]? = _ from h] at ho
    cases ho
    cases hc)

theorem bytes_stops (n : Nat) (hn : 1 ≤ n) (Bn : Nat) (w : World) (hn0 : Bn < w.heap.size) (hB : w.cell? ⟨Bn, 0, none⟩ = some (.string ⟨#[120, 45, 122]⟩)) :
    SeqStopsK Fence.wide n Try.prog 111 #[.pointer (some ⟨Bn, 0, none⟩)] (fun x : Byte => #[.int .u8 x.1]) (KeepsBox Bn) (fun xs => xs = xyz) (fun _ => True) 3 w := fun l J Jx W hW hJ _ hY h0 =>
  bytes_in n hn l Bn W.heap.size J Jx hJ hY W ((hW.cell (p := ⟨Bn, 0, none⟩) hn0).trans hB) h0

theorem zero_size : Try.zeroCells60.size = 256 := by kernel_rfl
noncomputable def setAll (pre : List Byte) : Array Value := pre.foldl (fun c x => c.setIfInBounds x.1.toNat (.bool true)) Try.zeroCells60
theorem setAll_snoc (pre : List Byte) (x : Byte) : setAll (pre ++ [x]) = (setAll pre).setIfInBounds x.1.toNat (.bool true) := by simp [setAll]
theorem setAll_size (pre : List Byte) : (setAll pre).size = 256 := by
  have h : ∀ (l : List Byte) (c : Array Value), (l.foldl (fun c x => c.setIfInBounds x.1.toNat (.bool true)) c).size = c.size := by
    intro l
    induction l with
    | nil => intro c; rfl
    | cons a l ih => intro c; rw [List.foldl_cons, ih]; exact Array.size_setIfInBounds
  rw [setAll, h]; exact zero_size
theorem setAll_some (pre : List Byte) (x : Byte) : ∃ u, (setAll pre)[x.1.toNat]? = some u := ⟨_, Array.getElem?_eq_getElem (by rw [setAll_size]; have := x.2; omega)⟩

set_option maxHeartbeats 400000 in
theorem setBytes_any (s : ByteArray) (w : World) :
    Calls Try.prog 108 #[.string s] w fun e w' => e = .returned (.func (.func 111) #[] #[.pointer (some ⟨w.heap.size, 0, none⟩)]) ∧ w.alloc (.cells #[.string s] 9) = w' := by
  go_enter Try.func108, Try.ntmps108
  go_wp2
  go_ret
  exact ⟨rfl, rfl⟩

set_option maxRecDepth 100000 in
set_option maxHeartbeats 2000000 in
theorem set_in (n : Nat) (hn : 3 ≤ n) (w : World) :
    CallsIn Fence.wide n Try.prog 93 #[.string ⟨#[120, 45, 122]⟩, .bool false] w fun e W' => e = .returned (.pointer (some ⟨w.heap.size + 1, 0, none⟩)) ∧ Has W' (w.heap.size + 1) 60 (setAll xyz) ∧ Below w.heap.size w W' := by
  have h1 : 1 ≤ n := by omega
  refine callsIn_of_wp_marks Try.func93 rfl trivial ?_ rfl
  simp only [Try.ntmps93, List.size_toArray, List.length_cons, List.length_nil, Nat.reduceAdd, Nat.reduceSub, Array.replicate_succ, Array.replicate_zero, List.push_toArray, List.append_toArray, List.nil_append, List.cons_append]
  gi_wp2
  refine ⟨trivial, ?_⟩
  refine (callsIn_wide.2 (setBytes_any _ _)).mono ?_
  rintro e w1 ⟨rfl, rfl⟩
  gi_wp2
  have hs : Has (((w.alloc (.cells #[.bool false] 4)).alloc (.cells Try.zeroCells60 60)).alloc (.cells #[.string ⟨#[120, 45, 122]⟩] 9)) (w.heap.size + 1) 60 (setAll []) := by
    have := (Has.new (w.alloc (.cells #[.bool false] 4)) 60 Try.zeroCells60).alloc (.cells #[.string ⟨#[120, 45, 122]⟩] 9)
    rwa [World.size_alloc] at this
  have hf : Has (((w.alloc (.cells #[.bool false] 4)).alloc (.cells Try.zeroCells60 60)).alloc (.cells #[.string ⟨#[120, 45, 122]⟩] 9)) w.heap.size 4 #[.bool false] := ((Has.new w 4 #[.bool false]).alloc _).alloc _
  have hb : Has (((w.alloc (.cells #[.bool false] 4)).alloc (.cells Try.zeroCells60 60)).alloc (.cells #[.string ⟨#[120, 45, 122]⟩] 9)) (w.heap.size + 1 + 1) 9 #[.string ⟨#[120, 45, 122]⟩] := by
    have := Has.new ((w.alloc (.cells #[.bool false] 4)).alloc (.cells Try.zeroCells60 60)) 9 #[.string ⟨#[120, 45, 122]⟩]
    rwa [World.size_alloc, World.size_alloc] at this
  have hB0 : Below w.heap.size w (((w.alloc (.cells #[.bool false] 4)).alloc (.cells Try.zeroCells60 60)).alloc (.cells #[.string ⟨#[120, 45, 122]⟩] 9)) := (((Below.refl _ w).alloc (Nat.le_refl _) _).alloc (by simp) _).alloc (by simp; omega) _
  have hz : (((w.alloc (.cells #[.bool false] 4)).alloc (.cells Try.zeroCells60 60)).alloc (.cells #[.string ⟨#[120, 45, 122]⟩] 9)).heap.size = w.heap.size + 3 := by simp
  generalize (((w.alloc (.cells #[.bool false] 4)).alloc (.cells Try.zeroCells60 60)).alloc (.cells #[.string ⟨#[120, 45, 122]⟩] 9)) = w0 at *
  refine wpIn_rangeFunc_ownF rfl h1 (gf := 111) (lb := #[.pointer (some ⟨w.heap.size + 1 + 1, 0, none⟩)]) rfl trivial (enters_of Try.func111 (by kernel_rfl) rfl)
    (bytes_stops (n - 1) (by omega) (w.heap.size + 1 + 1) w0 (by omega) ((hb.cell 0).trans rfl)) (fun h k v hv => k v (h v hv)) (fun W l o o' _ ho hc _ v hv => cell_kept hv (grownBy_putObj' W l o') (fun r e => by cases e; exact ⟨o, ho, hc⟩)) (Below.refl _ _) (fun _ => rfl)
    (fun pre W => (Has W (w.heap.size + 1) 60 (setAll pre) ∧ Has W w.heap.size 4 #[.bool false]) ∧ Below w.heap.size w W)
    (fun _ _ _ => False)
    (OwnFrom.and (Own.from (fun s A B row hs hg hr => ⟨has_kept hs.1 hg hr, has_kept hs.2 hg hr⟩) _) (ownFrom_below (Nat.le_refl _) (by omega)))
    (fun _ _ _ _ _ hs _ _ => hs)
    ⟨⟨hs, hf⟩, hB0⟩
    (fun x => { tmps := #[.string ⟨#[120, 45, 122]⟩, .bool false, undef, .pointer (some ⟨w.heap.size, 0, none⟩), .pointer none, .pointer (some ⟨w.heap.size + 1, 0, none⟩), .int .u8 x.1, .string ⟨#[120, 45, 122]⟩, .func (.func 111) #[] #[.pointer (some ⟨w.heap.size + 1 + 1, 0, none⟩)], .int .u8 x.1, undef, undef, undef, undef, undef, undef], defers := [] }) ?assign ?body ?done ?stop
  case assign =>
    intro l x W K hK
    gi_wp2
    exact hK
  case body =>
    rintro l pre x W ⟨⟨h0, hf0⟩, hB⟩ _
    obtain ⟨u, hu⟩ := setAll_some pre x
    have hc := (h0.cell x.1.toNat).trans hu
    have hfr := h0.free x.1.toNat
    have hx := x.2
    obtain ⟨hx1, hx2⟩ := hx
    have hc4 := hf0.cell 0
    have hnew := h0.put x.1.toNat (.bool true)
    rw [← setAll_snoc] at hnew
    have hff := hf0.far (p := ⟨w.heap.size + 1, x.1.toNat, none⟩) (by simp) (.bool true)
    have hBB := hB.setCell (p := ⟨w.heap.size + 1, x.1.toNat, none⟩) (by simp) (.bool true)
    gi_wp2
    exact ⟨KeepsOthers.setCell _ _ _, fun v hv => (World.cell?_setCell_other _ _ _ _ (by simp)).trans hv, ⟨hnew, hff⟩, hBB⟩
  case done =>
    rintro D ys W hD rfl ⟨⟨h0, _⟩, hB⟩ hK
    gi_wp2
    refine ⟨by simp, .inl ⟨_, _, rfl, run_takeDeferred hK, ?_⟩⟩
    exact ⟨_, results_tmp rfl _ _ _, rfl, has_kept h0 (grownBy_putObj' W D _) (fun r e => by cases e; exact ⟨_, hK, rfl⟩), hB.trans (belowK_b (w := w) (Nat.le_refl _) W D _ _ (by omega) hK rfl rfl)⟩
  case stop =>
    rintro D c pre W _ _ h _
    exact h.elim

theorem set_any (w : World) :
    Calls Try.prog 93 #[.string ⟨#[120, 45, 122]⟩, .bool false] w fun e W' => e = .returned (.pointer (some ⟨w.heap.size + 1, 0, none⟩)) ∧ Has W' (w.heap.size + 1) 60 (setAll xyz) ∧ Below w.heap.size w W' :=
  (callsIn_wide (n := 3)).1 (set_in 3 (by omega) w)
theorem get_set (c : Array Value) (h : c.size = 256) : (c.setIfInBounds (122 : Int).toNat (.bool true))[122]? = some (.bool true) := by
  have h' : 122 < c.size := by omega
  simp [Array.setIfInBounds, h']
theorem setAll_z : (setAll xyz)[122]? = some (.bool true) := by
  have h := setAll_snoc [⟨120, by omega⟩, ⟨121, by omega⟩] ⟨122, by omega⟩
  have hs := setAll_size [⟨120, by omega⟩, ⟨121, by omega⟩]
  rw [show xyz = [⟨120, by omega⟩, ⟨121, by omega⟩] ++ [⟨122, by omega⟩] from rfl, h]
  exact get_set _ hs
end Go.Proofs.Ytneklmalkmeohaa
