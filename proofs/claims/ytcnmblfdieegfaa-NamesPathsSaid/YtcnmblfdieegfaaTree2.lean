/- The tree of the sanity check of layer 16: New and Make. -/
import Derived.Test.YtcnmblfdieegfaaTree1
namespace Go.Proofs.Ytcnmblfdieegfaa
open Go.RowKit Go.Lib Go.ChangeMaps
attribute [local go_sem] put_size

theorem Kept.lay {S : Nat → Prop} {a b : World} (h : Kept S a b) {k : Nat} (hk : S k ∨ a.heap.size ≤ k) (o : Obj) : Kept S a (setBlock b k o) :=
  ⟨h.os, h.tape, h.output, by rw [put_size]; exact h.size, fun i hi hs => (put_other (by
    rintro rfl
    rcases hk with h1 | h1
    · exact hs h1
    · omega) b o).trans (h.block i hi hs)⟩
theorem Kept.hasM {S : Nat → Prop} {a b : World} (h : Kept S a b) {g : Nat} {es : Array MapEntry} {c : Nat} (hg : HasM a g es c) (hs : ¬ S g) : HasM b g es c := (h.block g hg.lt hs).trans hg

/-- The cells of a node. -/
def nodeCells (search : Value) : Array Value := #[search, .slice none 0 0, .string ⟨#[]⟩]

set_option maxHeartbeats 800000 in
set_option maxRecDepth 100000 in
theorem tree_at (w : World) :
    Calls Try.prog 28 #[] w fun e w' => e = .returned (ptrTo (w.heap.size + 2)) ∧ HasM w' w.heap.size #[ent (.string ⟨#[58, 58]⟩) (ptrTo (w.heap.size + 1)) 0] 1
      ∧ Has w' (w.heap.size + 2) 78 #[.map (some w.heap.size)] ∧ Below w.heap.size w w' := by
  have hmm := @run_makeMap Try.prog
  have m0 : HasM ((w.alloc (.map #[] 0)).alloc (.cells (nodeCells (.slice none 0 0)) 75)) w.heap.size #[] 0 := (HasM.new w).alloc _
  have p0 : (Instr.mapUpdate 76 (.map (some w.heap.size)) (.string ⟨#[58, 58]⟩) (.pointer (some ⟨w.heap.size + 1, 0, none⟩))).run Try.prog ((w.alloc (.map #[] 0)).alloc (.cells (nodeCells (.slice none 0 0)) 75)) = .ok () (setBlock ((w.alloc (.map #[] 0)).alloc (.cells (nodeCells (.slice none 0 0)) 75)) w.heap.size (.map #[ent (.string ⟨#[58, 58]⟩) (.pointer (some ⟨w.heap.size + 1, 0, none⟩)) 0] 1)) := map_put (P := Try.prog) (xT := 76) Try.underlying76 Try.underlying9 (key := .string ⟨#[58, 58]⟩) (by simp [MapKept.IsKey]) m0 rfl (.pointer (some ⟨w.heap.size + 1, 0, none⟩))
  unfold nodeCells at p0 m0
  have q0 := m0.laid #[ent (.string ⟨#[58, 58]⟩) (.pointer (some ⟨w.heap.size + 1, 0, none⟩)) 0] 1
  have b0 := below_put (((Below.refl w.heap.size w).alloc (Nat.le_refl _) (.map #[] 0)).alloc (by simp) (.cells #[.slice none 0 0, .slice none 0 0, .string ⟨#[]⟩] 75)) (Nat.le_refl _) (.map #[ent (.string ⟨#[58, 58]⟩) (.pointer (some ⟨w.heap.size + 1, 0, none⟩)) 0] 1)
  have z0 : (setBlock ((w.alloc (.map #[] 0)).alloc (.cells #[.slice none 0 0, .slice none 0 0, .string ⟨#[]⟩] 75)) w.heap.size (.map #[ent (.string ⟨#[58, 58]⟩) (.pointer (some ⟨w.heap.size + 1, 0, none⟩)) 0] 1)).heap.size = w.heap.size + 2 := by rw [put_size]; simp
  unfold ptrTo
  go_enter Try.func28, Try.ntmps28
  go_wp2
  go_ret
  refine ⟨?_, q0.alloc _, Has.fresh z0 _ _, b0.alloc (by rw [z0]; omega) _⟩
  simp

theorem below_kept {S : Nat → Prop} {a b c : World} (h : Kept S a b) (k : Below b.heap.size b c) : Kept S a c := h.trans ⟨k.os, k.tape, k.output, k.size, fun i hi _ => k.block i hi⟩

set_option maxHeartbeats 1600000 in
set_option maxRecDepth 100000 in
/-- Make of a path of one part of one byte: the namespace is new. -/
theorem make_any (T M : Nat) (es : Array MapEntry) (ck : Nat) (path p key : ByteArray) (w : World) (hT : Has w T 78 #[.map (some M)]) (hM : HasM w M es ck) (_hTM : T ≠ M) (hs : path.size ≤ 3000)
    (hp : partsOf path.data.toList = [p.data.toList]) (hp1 : p.size = 1) (hk : (⟨(canP [] path.data.toList).toArray⟩ : ByteArray) = key) (hk3 : key.size = 3) (hf : Instr.findNow .string (.string key) es.toList 0 = some none) :
    Calls Try.prog 29 #[ptrTo T, .string path] w fun e w' => e = .returned (.int .i64 0) ∧ ∃ N, w.heap.size ≤ N ∧ N < w'.heap.size ∧ Has w' N 75 (nodeCells (.slice none 0 0)) ∧ HasM w' M (es.push (ent (.string key) (ptrTo N) ck)) (ck + 1) ∧ Kept (fun k => k = M) w w' := by
  have C := fun W => canonical_any ⟨#[]⟩ path W (by show 0 ≤ 3000; omega) hs
  have hC : (⟨(canP (⟨#[]⟩ : ByteArray).data.toList path.data.toList).toArray⟩ : ByteArray) = key := hk
  rw [hC] at C
  have P := fun W => parts_any path W hs
  rw [hp] at P
  have he : key.extract 0 3 = key := by rw [← hk3]; exact ByteArray.extract_zero_size
  have hp1' : (p.size : Int) = 1 := by omega
  have hk3' : (key.size : Int) = 3 := by omega
  have HE := Lib.hid he
  have HF := Lib.hid hf
  have lM := hM.lt
  have lT := hT.lt
  have K0 : Kept (fun k => k = M) w w := Kept.refl _ _
  clear hC hk hf hp
  unfold ptrTo nodeCells
  go_enter Try.func29, Try.ntmps29
  go_wp2_with fail
  refine (C _).mono ?_
  rintro e wa ⟨rfl, hb⟩
  go_wp2_with fail
  refine (P _).mono ?_
  rintro e W1 ⟨v, rfl, ho, hb1⟩
  obtain ⟨ao, c, rfl⟩ := slice_of_own ho
  have hX := Texts.of_own ho
  have K1 : Kept (fun k => k = M) w W1 := below_kept (below_kept K0 hb) hb1
  have hT1 := (hT.below hb).below hb1
  have hM1 := (hM.below hb).below hb1
  clear hb hb1 ho hT hM K0
  have z1 := K1.size
  go_wp2
  go_loopg [6, 17] 1 (fun g v6 v17 wx => (v6 = .int .i64 0 ∧ v17 = .int .i64 0 ∧ 1 ≤ g ∧ wx = W1) ∨ (v17 = .int .i64 1 ∧ ∃ N, w.heap.size ≤ N ∧ N < wx.heap.size ∧ Has wx N 75 #[.slice none 0 0, .slice none 0 0, .string ⟨#[]⟩] ∧ HasM wx M (es.push (ent (.string key) (.pointer (some ⟨N, 0, none⟩)) ck)) (ck + 1) ∧ Kept (fun k => k = M) w wx))
  case atStart => exact .inl ⟨rfl, rfl, Nat.le_refl _, rfl⟩
  case round =>
    rcases hrel with ⟨rfl, rfl, hg, rfl⟩ | ⟨rfl, N, hN, hN2, hHas, hHM, hK⟩
    · obtain ⟨a, ha, hc⟩ := hX 0 (by simp)
      have hx : (⟨([p.data.toList][0]).toArray⟩ : ByteArray) = p := rfl
      rw [hx] at hc
      have ha' : Addr.add a 0 = a := by cases a; unfold Addr.add; split <;> simp_all
      subst ha
      rw [ha'] at hc
      have c0 : wr.cell? ⟨T, 0, none⟩ = some (.map (some M)) := hT1.cell 0
      have l0 := look_miss HF.out hM1
      have hM2 := hM1.alloc (.cells #[.slice none 0 0, .slice none 0 0, .string ⟨#[]⟩] 75)
      have p0 : (Instr.mapUpdate 76 (.map (some M)) (.string key) (.pointer (some ⟨wr.heap.size, 0, none⟩))).run Try.prog (wr.alloc (.cells #[.slice none 0 0, .slice none 0 0, .string ⟨#[]⟩] 75)) = .ok () (setBlock (wr.alloc (.cells #[.slice none 0 0, .slice none 0 0, .string ⟨#[]⟩] 75)) M (.map (es.push (ent (.string key) (.pointer (some ⟨wr.heap.size, 0, none⟩)) ck)) (ck + 1))) := map_put (P := Try.prog) (xT := 76) Try.underlying76 Try.underlying9 (key := .string key) (by simp [MapKept.IsKey]) hM2 HF.out (.pointer (some ⟨wr.heap.size, 0, none⟩))
      obtain ⟨g, rfl⟩ : ∃ g, gk = g + 1 := ⟨gk - 1, by omega⟩
      go_wp2
      go_roundg g
      case measure => omega
      case rel =>
        refine .inr ⟨rfl, wr.heap.size, z1, ?_, ?_, hM2.laid _ _, (K1.alloc _).lay (.inl rfl) _⟩
        · rw [put_size]; simp
        · exact (Has.new wr 75 _).beside (by omega) _
    · go_wp2
      go_ret
      exact ⟨rfl, N, hN, hN2, hHas, hHM, hK⟩
end Go.Proofs.Ytcnmblfdieegfaa
