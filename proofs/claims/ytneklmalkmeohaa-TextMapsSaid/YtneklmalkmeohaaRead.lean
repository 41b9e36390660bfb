/- readGlob at the pattern a*[x-z]?. -/
import Derived.Test.YtneklmalkmeohaaAt
namespace Go.Proofs.Ytneklmalkmeohaa
open Go.RowKit

theorem Try.info84 : (Try.prog.info? 84).map (fun i => (i.zero, i.size, i.bytes)) = some (some (.agg #[.slice none 0 0, .string ⟨#[]⟩, .bool false]), 3, 48) := by kernel_rfl

theorem own_ne {w : World} {base : Nat} {v : Value} {n : Nat} {xs : List Value} {g : Nat} {cs : Array Value} (h : w.ownsRow base 106 3 v n xs) (hg : Has w g 84 cs) : v.ownBlock ≠ some g := by
  rcases h.2 with ⟨rfl, _⟩ | ⟨g', cap, cur, rfl, _, hh, _⟩
  · simp [Value.ownBlock]
  · intro he
    have e : g' = g := by simpa [Value.ownBlock] using he
    subst e
    have h' : w.heap[g']? = some (.cells cs 84 (0, 0)) := hg
    rw [h'] at hh
    injection hh with hh
    injection hh with _ ht
    exact absurd ht (by decide)

theorem own_of_has {w : World} {g base n cap : Nat} {cs : Array Value} (h : Has w g 84 cs) (hb : base ≤ g) (hn : n ≤ cap) (hc : cap ≤ 100) (hs : cs.size = cap * 3) (xs : List Value) (hx : cs.toList.take (n * 3) = xs) (hl : xs.length = n * 3) :
    w.ownsRow base 84 3 (.slice (some ⟨g, 0, none⟩) n cap) n xs := ⟨hl, .inr ⟨g, cap, cs, rfl, hb, h, hn, by unfold maxLen; omega, hs, hx⟩⟩

theorem has_of_own {w : World} {g base n cap : Nat} {xs : List Value} (_hn : 0 < n) (h : w.ownsRow base 84 3 (.slice (some ⟨g, 0, none⟩) n cap) n xs) : ∃ cs, Has w g 84 cs ∧ n ≤ cap ∧ cs.size = cap * 3 ∧ base ≤ g ∧ ∀ (j : Nat) (u : Value), xs[j]? = some u → cs[j]? = some u := by
  rcases h.2 with ⟨hv, _⟩ | ⟨g', cap', cur, hv, hb, hh, hnc, _, hs, ht⟩
  · cases hv
  · injection hv with h1 _ h3
    injection h1 with h1
    injection h1 with h1
    subst h1
    subst h3
    refine ⟨cur, hh, hnc, hs, hb, fun j u hj => ?_⟩
    rw [← ht, List.getElem?_take] at hj
    split at hj
    · simpa using hj
    · cases hj

theorem Kept.into {a b c : World} {B : Nat} (h : Kept (fun k => B ≤ k) a b) (k : Below b.heap.size b c) : Kept (fun k => B ≤ k) a c := h.trans (Kept.of_below k)

/-- What readGlob makes of the pattern a*[x-z]?. -/
def GlobRead (w : World) (e : Ending) (w' : World) : Prop := ∃ (lb lcap g0 c0 g2 c2 sb : Nat) (cs : Array Value), e = .returned (.tuple #[.slice (some ⟨lb, 0, none⟩) 2 lcap, .bool true]) ∧ Has w' lb 84 cs ∧
  cs[0]? = some (.slice (some ⟨g0, 0, none⟩) 1 c0) ∧ cs[1]? = some (.string ⟨#[97]⟩) ∧ cs[2]? = some (.bool true) ∧ cs[3]? = some (.slice (some ⟨g2, 0, none⟩) 2 c2) ∧ cs[5]? = some (.bool false) ∧
  (∀ (j : Nat) (u : Value), [Value.bool false, .pointer (some ⟨sb, 0, none⟩), .int .u8 0, .bool true, .pointer none, .int .u8 0][j]? = some u → w'.cell? ⟨g2, j, none⟩ = some u) ∧
  w'.cell? ⟨sb, 122, none⟩ = some (.bool true) ∧ Below w.heap.size w w'

theorem own_cells {w : World} {base g n cap : Nat} {xs : List Value} (h : w.ownsRow base 106 3 (.slice (some ⟨g, 0, none⟩) n cap) n xs) : ∀ (j : Nat) (u : Value), xs[j]? = some u → w.cell? ⟨g, j, none⟩ = some u := fun j u hj => by
  have := h.cells (g := g) rfl j u hj
  have hadd : (⟨g, 0, none⟩ : Addr).add j = ⟨g, j, none⟩ := by unfold Addr.add; split <;> simp_all
  rwa [hadd] at this

theorem index_at (w : World) : Calls Try.prog 55 #[.string ⟨#[91, 120, 45, 122, 93, 63]⟩, .int .u8 93] w fun e w' => e = .returned (.int .i64 4) ∧ w = w' :=
  (Try.strings_IndexByte _ _ w).mono fun e w' ⟨he, hw⟩ => ⟨by rw [he]; rfl, hw.symm⟩

set_option maxRecDepth 100000 in
set_option maxHeartbeats 1600000 in
theorem readGlob_at (w : World) :
    Calls Try.prog 73 #[.string ⟨#[97, 42, 91, 120, 45, 122, 93, 63]⟩, .bool false] w (GlobRead w) := by
  have z0 : ({ data := #[97, 42, 91, 120, 45, 122, 93, 63] } : ByteArray)[0].toNat = 97 := rfl
  have z1 : ({ data := #[97, 42, 91, 120, 45, 122, 93, 63] } : ByteArray)[1].toNat = 42 := rfl
  have z2 : ({ data := #[97, 42, 91, 120, 45, 122, 93, 63] } : ByteArray)[2].toNat = 91 := rfl
  have z7 : ({ data := #[97, 42, 91, 120, 45, 122, 93, 63] } : ByteArray)[7].toNat = 63 := rfl
  obtain ⟨i84, hi84, hy0, hy1, hy2⟩ := info_parts Try.info84
  go_enter Try.func73, Try.ntmps73
  go_wp2
  refine wp_loop_rounds 5 ?_
  rw [rounds_succ]
  go_wp2_with fail
  refine (add_any w.heap.size 0 false 97 (.slice none 0 0) (.pointer none) true true 0 w.heap.size [] #[.slice none 0 0, .string ⟨#[]⟩, .bool true] _ (.inl ⟨rfl, rfl, rfl⟩) (Has.new w 84 _) rfl rfl (World.ownsRow_nil _ _ _ _) (by simp) (by omega) (by simp [Value.ownBlock])).mono ?_
  rintro e w1 ⟨g0, cap0, rfl, own0, hat0, has0, k0⟩
  have hz1 : w.heap.size + 1 ≤ w1.heap.size := by simpa using k0.size
  simp at has0
  have lown : w1.ownsRow w.heap.size 84 3 (.slice (some ⟨w.heap.size, 0, none⟩) 1 1) 1 [.slice (some ⟨g0, 0, none⟩) 1 cap0, .string ⟨#[]⟩, .bool true] := own_of_has has0 (Nat.le_refl _) (Nat.le_refl _) (by omega) rfl _ rfl rfl
  have K0 : Kept (fun k => w.heap.size ≤ k) w w1 := ((Kept.refl _ w).alloc _).trans (k0.widen (fun k _ h => by simp [Value.ownBlock] at h; omega))
  go_wp2
  rw [rounds_succ]
  go_wp2_with (at_builtin; refine wpList_append_lies _ rfl _ _ _ rfl w.heap.size 84 i84 _ 3 48 Try.underlying79 hi84 hy0 hy1 hy2 rfl (by omega) (.slice (some ⟨w.heap.size, 0, none⟩) 1 1) 1 _ rfl (lown.alloc _) ⟨w1.heap.size, 0, none⟩ 1 1 [.slice none 0 0, .string ⟨#[]⟩, .bool true] rfl rfl (World.news_of_block (cs := #[.slice none 0 0, .string ⟨#[]⟩, .bool true]) (t := 84) (fr := (0, 0)) (heap_alloc_new w1 _)) (by simp [Value.oneCell']) (by omega) (by unfold maxLen; omega) (by omega) (by simp; omega) (w1.heap.size + 1) (by simp) ?_; intro lb lcap w2 lown2 lgrow lat llt)
  have own2 := (own0.alloc (.cells #[.slice none 0 0, .string ⟨#[]⟩, .bool true] 84)).kept lgrow (.inr (own_ne own0 has0))
  have K2 := (K0.alloc (.cells #[.slice none 0 0, .string ⟨#[]⟩, .bool true] 84)).grown lgrow (fun k hk => .inl (by simp [Value.ownBlock] at hk; omega))
  obtain ⟨cur, hcur, hlc, hsz, hlb, hlist⟩ := has_of_own (by omega) lown2
  have l0 : cur[0]? = some (.slice (some ⟨g0, 0, none⟩) 1 cap0) := hlist 0 _ rfl
  have l1 : cur[1]? = some (.string ⟨#[]⟩) := hlist 1 _ rfl
  have l2 : cur[2]? = some (.bool true) := hlist 2 _ rfl
  have l3 : cur[3]? = some (.slice none 0 0) := hlist 3 _ rfl
  have l4 : cur[4]? = some (.string ⟨#[]⟩) := hlist 4 _ rfl
  have l5 : cur[5]? = some (.bool true) := hlist 5 _ rfl
  clear hlist lown2 lgrow lat lown has0 own0 hat0 K0 k0 hz1 hi84 hy0 hy1 hy2
  have hz2 := K2.size
  rw [rounds_succ]
  go_wp2_with fail
  refine (index_at _).mono ?_
  rintro e w' ⟨rfl, rfl⟩
  go_wp2_with fail
  refine (set_any _).mono ?_
  rintro e w3 ⟨rfl, hset, hb3⟩
  go_wp2_with fail
  have hcur3 : Has w3 lb 84 cur := (hb3.block lb llt).trans hcur
  have own3 := (Kept.of_below (S := fun _ => False) hb3).owns own2 (fun _ _ h => h)
  have K3 := K2.into hb3
  have hz3 := hb3.size
  have hg0 : g0 < w2.heap.size := (own2.lt g0 rfl).2
  have hs3 := hset.lt
  refine (add_any lb 3 false 0 (.slice none 0 0) (.pointer (some ⟨w2.heap.size + 1, 0, none⟩)) true false 0 w.heap.size [] cur w3 (.inr (.inr ⟨rfl, ⟨_, rfl⟩, rfl⟩)) hcur3 l3 l5 (World.ownsRow_nil _ _ _ _) (by omega) (by omega) (by simp [Value.ownBlock])).mono ?_
  rintro e w4 ⟨g1, cap1, rfl, own4, hat4, has4, k4⟩
  have hg1 : g1 = w3.heap.size + 2 := by simpa [Value.ownBlock] using hat4
  have K4 := K3.trans (k4.widen (fun k _ h => show w.heap.size ≤ k by simp [Value.ownBlock] at h; omega))
  have own04 := k4.owns own3 (fun k hk h => by
    have e1 : g0 = k := by simpa [Value.ownBlock] using hk
    have e2 : k = lb := by simpa [Value.ownBlock] using h
    exact own_ne own3 hcur3 (by rw [← e2, ← e1]; rfl))
  have hset4 := k4.has hset (fun h => by simp [Value.ownBlock] at h; omega)
  have hz4 := k4.size
  have h3 : 3 < cur.size := by omega
  have h5 : 5 < cur.size := by omega
  have m0 : ((cur.setIfInBounds 3 (.slice (some ⟨g1, 0, none⟩) (0 + 1) cap1)).setIfInBounds (3 + 2) (.bool false))[0]? = some (.slice (some ⟨g0, 0, none⟩) 1 cap0) := by simpa [Array.getElem?_setIfInBounds] using l0
  have m1 : ((cur.setIfInBounds 3 (.slice (some ⟨g1, 0, none⟩) (0 + 1) cap1)).setIfInBounds (3 + 2) (.bool false))[1]? = some (.string ⟨#[]⟩) := by simpa [Array.getElem?_setIfInBounds] using l1
  have m2 : ((cur.setIfInBounds 3 (.slice (some ⟨g1, 0, none⟩) (0 + 1) cap1)).setIfInBounds (3 + 2) (.bool false))[2]? = some (.bool true) := by simpa [Array.getElem?_setIfInBounds] using l2
  have m3 : ((cur.setIfInBounds 3 (.slice (some ⟨g1, 0, none⟩) (0 + 1) cap1)).setIfInBounds (3 + 2) (.bool false))[3]? = some (.slice (some ⟨g1, 0, none⟩) (0 + 1) cap1) := by simp [h3]
  have m5 : ((cur.setIfInBounds 3 (.slice (some ⟨g1, 0, none⟩) (0 + 1) cap1)).setIfInBounds (3 + 2) (.bool false))[5]? = some (.bool false) := by simp [h5]
  have mz : ((cur.setIfInBounds 3 (.slice (some ⟨g1, 0, none⟩) (0 + 1) cap1)).setIfInBounds (3 + 2) (.bool false)).size = lcap * 3 := by simpa using hsz
  generalize ((cur.setIfInBounds 3 (.slice (some ⟨g1, 0, none⟩) (0 + 1) cap1)).setIfInBounds (3 + 2) (.bool false)) = cs4 at *
  clear l0 l1 l2 l3 l4 l5 hcur hcur3 own2 own3 hset hat4 k4 K3 K2 hb3 h3 h5 hsz
  go_wp2
  rw [rounds_succ]
  go_wp2_with fail
  refine (add_any lb 3 true 0 (.slice (some ⟨g1, 0, none⟩) (0 + 1) cap1) (.pointer none) false false (0 + 1) w.heap.size _ cs4 w4 (.inr (.inl ⟨rfl, rfl, rfl⟩)) has4 m3 m5 own4 (by omega) (by omega) (own_ne own4 has4)).mono ?_
  rintro e w5 ⟨g2, cap2, rfl, own5, hat5, has5, k5⟩
  have hg1w : w.heap.size ≤ g1 := (own4.lt g1 rfl).1
  have K5 := K4.trans (k5.widen (fun k _ h => show w.heap.size ≤ k by simp [Value.ownBlock] at h; omega))
  have own05 := k5.owns own04 (fun k hk h => by
    have e1 : g0 = k := by simpa [Value.ownBlock] using hk
    rcases h with e2 | e2
    · exact own_ne own04 has4 (by rw [← e2, ← e1]; rfl)
    · have e3 : g1 = k := by simpa [Value.ownBlock] using e2
      omega)
  have hset5 := k5.has hset4 (fun h => by simp [Value.ownBlock] at h; omega)
  have hz5 := k5.size
  have h3 : 3 < cs4.size := by omega
  have h5 : 5 < cs4.size := by omega
  have n0 : ((cs4.setIfInBounds 3 (.slice (some ⟨g2, 0, none⟩) (0 + 1 + 1) cap2)).setIfInBounds (3 + 2) (.bool false))[0]? = some (.slice (some ⟨g0, 0, none⟩) 1 cap0) := by simpa [Array.getElem?_setIfInBounds] using m0
  have n1 : ((cs4.setIfInBounds 3 (.slice (some ⟨g2, 0, none⟩) (0 + 1 + 1) cap2)).setIfInBounds (3 + 2) (.bool false))[1]? = some (.string ⟨#[]⟩) := by simpa [Array.getElem?_setIfInBounds] using m1
  have n2 : ((cs4.setIfInBounds 3 (.slice (some ⟨g2, 0, none⟩) (0 + 1 + 1) cap2)).setIfInBounds (3 + 2) (.bool false))[2]? = some (.bool true) := by simpa [Array.getElem?_setIfInBounds] using m2
  have n3 : ((cs4.setIfInBounds 3 (.slice (some ⟨g2, 0, none⟩) (0 + 1 + 1) cap2)).setIfInBounds (3 + 2) (.bool false))[3]? = some (.slice (some ⟨g2, 0, none⟩) (0 + 1 + 1) cap2) := by simp [h3]
  have n5 : ((cs4.setIfInBounds 3 (.slice (some ⟨g2, 0, none⟩) (0 + 1 + 1) cap2)).setIfInBounds (3 + 2) (.bool false))[5]? = some (.bool false) := by simp [h5]
  have nz : ((cs4.setIfInBounds 3 (.slice (some ⟨g2, 0, none⟩) (0 + 1 + 1) cap2)).setIfInBounds (3 + 2) (.bool false)).size = lcap * 3 := by simpa using mz
  generalize ((cs4.setIfInBounds 3 (.slice (some ⟨g2, 0, none⟩) (0 + 1 + 1) cap2)).setIfInBounds (3 + 2) (.bool false)) = cs5 at *
  clear m0 m1 m2 m3 m5 has4 own4 own04 hset4 hat5 k5 K4 h3 h5 mz
  go_wp2
  rw [rounds_succ]
  go_wp2
  refine wp_loop_rounds 3 ?_
  rw [rounds_succ]
  go_wp2_with fail
  have q0 := own_cells own05
  refine (spell_one lb 0 g0 cap0 cs5 w5 has5 n0 ⟨_, n1⟩ n2 (q0 0 _ rfl) (q0 1 _ rfl) (q0 2 _ rfl)).mono ?_
  rintro e w6 ⟨rfl, has6, k6⟩
  have K6 := K5.trans (k6.widen (fun k _ h => show w.heap.size ≤ k by omega))
  have own6 := k6.owns own5 (fun k hk h => by
    have e1 : g2 = k := by simpa [Value.ownBlock] using hk
    exact own_ne own5 has5 (by rw [← h, ← e1]; rfl))
  have hset6 := k6.has hset5 (fun h => by omega)
  have p0 : (cs5.setIfInBounds (0 + 1) (.string ⟨#[97]⟩))[0]? = some (.slice (some ⟨g0, 0, none⟩) 1 cap0) := by simpa [Array.getElem?_setIfInBounds] using n0
  have p1 : (cs5.setIfInBounds (0 + 1) (.string ⟨#[97]⟩))[1]? = some (.string ⟨#[97]⟩) := by
    have h1 : 1 < cs5.size := by omega
    simp [h1]
  have p2 : (cs5.setIfInBounds (0 + 1) (.string ⟨#[97]⟩))[2]? = some (.bool true) := by simpa [Array.getElem?_setIfInBounds] using n2
  have p3 : (cs5.setIfInBounds (0 + 1) (.string ⟨#[97]⟩))[3]? = some (.slice (some ⟨g2, 0, none⟩) (0 + 1 + 1) cap2) := by simpa [Array.getElem?_setIfInBounds] using n3
  have p5 : (cs5.setIfInBounds (0 + 1) (.string ⟨#[97]⟩))[5]? = some (.bool false) := by simpa [Array.getElem?_setIfInBounds] using n5
  generalize (cs5.setIfInBounds (0 + 1) (.string ⟨#[97]⟩)) = cs6 at *
  have q6 := own_cells own6
  have z6 := (hset6.cell 122).trans setAll_z
  have b6 : Below w.heap.size w w6 := K6.below (Nat.le_refl _) (fun k hk h => by omega)
  have HP : Hid (GlobRead w (.returned (.tuple #[.slice (some ⟨lb, 0, none⟩) 2 lcap, .bool true])) w6) := ⟨lb, lcap, g0, cap0, g2, cap2, w2.heap.size + 1, cs6, rfl, has6, p0, p1, p2, p3, p5, q6, z6, b6⟩
  clear q6 q0 z6 b6 hset6 hset5 own6 own5 own05 K6 K5 k6 n0 n1 n2 n3 n5 nz p0 p1 p2 p3 has5
  go_wp2
  rw [rounds_succ]
  go_wp2_with fail
  refine (spell_not lb 3 cs6 w6 has6 p5).mono ?_
  rintro e w' ⟨rfl, rfl⟩
  go_wp2
  rw [rounds_succ]
  go_wp2
  go_ret2
  exact HP.out
end Go.Proofs.Ytneklmalkmeohaa
