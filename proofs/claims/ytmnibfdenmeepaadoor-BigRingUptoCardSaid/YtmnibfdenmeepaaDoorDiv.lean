/- Div of the program, where nothing is too long. -/
import Derived.Test.YtmnibfdenmeepaaDoorDivide
namespace Go.Proofs.YtmnibfdenmeepaaDoor
open Go.RowKit Go.Shelf Big

set_option maxRecDepth 100000 in
set_option maxHeartbeats 2000000 in
theorem Div_of (a b : ByteArray) (w : World) (ha : a.size ≤ 1000) (hb : b.size ≤ 1000) (z1 z2 : Int) (h1 : numOf a.data.toList = some z1) (h2 : numOf b.data.toList = some z2)
    (ht1 : tooL z1.natAbs = false) (ht2 : tooL z2.natAbs = false) (hz : z2 ≠ 0) (hby : ByIs z1.natAbs z2.natAbs) (hs : ∀ q r, DivIs z1 z2 q r → tooL q.natAbs = false ∧ tooL r.natAbs = false) :
    Calls Tryd.prog 24 #[.string a, .string b] w fun e w' => (∃ q r, DivIs z1 z2 q r ∧ e = .returned (.tuple #[.string ⟨(txt q).toArray⟩, .string ⟨(txt r).toArray⟩, .int .i64 0])) ∧ Below w.heap.size w w' := by
  have HS := Lib.hid hs
  have HBY := Lib.hid hby
  have H1 := Lib.hid h1
  have H2 := Lib.hid h2
  have HT1 := Lib.hid ht1
  have HT2 := Lib.hid ht2
  have HZ := Lib.hid hz
  clear hs hby h1 h2 ht1 ht2 hz
  go_enter Tryd.func24, Tryd.ntmps24
  go_wp2_with fail
  refine (parseTwo_any a b w ha hb).mono ?_
  rintro e w1 ⟨⟨s1, a1, n1, c1, g1, o1, t1, s2, a2, n2, c2, g2, o2, t2, rfl, hf1, hf2⟩, hb1⟩
  have hz1 := hb1.size
  have HBE := Lib.hid (fun x y => (hb1.alloc hz1 x).alloc (by simp; omega) y)
  rcases hf1 with ⟨rfl, z1', hz1', hs1, hg1, hn1⟩ | ⟨rfl, hz1'⟩
  case inr => rw [H1.out] at hz1'; cases hz1'
  rcases hf2 with ⟨rfl, z2', hz2', hs2, hg2, hn2⟩ | ⟨rfl, hz2'⟩
  case inr => rw [H2.out] at hz2'; cases hz2'
  rw [H1.out] at hz1'
  rw [H2.out] at hz2'
  injection hz1' with hz1'
  injection hz2' with hz2'
  subst hz1' hz2'
  rw [HT1.out] at hg1
  rw [HT2.out] at hg2
  subst hg1 hg2
  have hn2p : 0 < n2 := by
    obtain ⟨_, _, h⟩ := hn2.slice
    injection h with _ h _
    have : (lims 4294967296 z2.natAbs).length = 0 ↔ z2.natAbs = 0 := by rw [List.length_eq_zero_iff, lims_nil w32_ge]
    have := HZ.out
    omega
  have hn2e : (n2 == 0) = false := by rw [beq_eq_false_iff_ne]; omega
  have hn2i : ((n2 : Int) == 0) = false := by rw [beq_eq_false_iff_ne]; omega
  have HN1 := Lib.hid (fun x y => (hn1.alloc x).alloc y)
  have HN2 := Lib.hid (fun x y => (hn2.alloc x).alloc y)
  have HS1 := Lib.hid hs1
  have HS2 := Lib.hid hs2
  clear hs1 hs2 hn1 hn2
  have hl1 := short_of HT1.out
  have hl2 := short_of HT2.out
  go_wp2_with fail
  have hkp : 0 < z2.natAbs := by have := HZ.out; omega
  refine (divide_any w.heap.size w.heap.size z1.natAbs z2.natAbs _ _ _ _ _ _ _ _ _ (HN1.out _ _) (HN2.out _ _) hl1 hl2 hkp HBY.out).mono ?_
  rintro e w2 ⟨⟨qs, rs, n, j, a3, n3, c3, a4, n4, c4, rfl, hq, hr, hdv⟩, hb2⟩
  rw [HS1.out, HS2.out, sg_z, sg_z] at hdv
  have hb2z := hb2.size
  have htt := HS.out _ _ hdv
  have HTT := Lib.hid htt
  rw [sg_abs, sg_abs] at htt
  have hnl := short_of htt.1
  have hjl := short_of htt.2
  have HDV := Lib.hid hdv
  have HQ := Lib.hid (fun x y => (hq.alloc x).alloc y)
  have HR := Lib.hid (fun x y => (hr.alloc x).alloc y)
  have HB2 := Lib.hid ((HBE.out (.cells #[.bool s1, .slice a1 n1 c1, .bool false, .bool o1] 46) (.cells #[.bool s2, .slice a2 n2 c2, .bool false, .bool o2] 46)).trans (hb2.mono (by simp; omega)))
  have HB3 := Lib.hid (fun x y => (HB2.out.alloc (by simp at hb2z; omega) x).alloc (by simp at hb2z ⊢; omega) y)
  simp only [World.size_alloc] at hb2z
  clear htt hdv hq hr hb2
  go_wp2_with fail
  refine (text_any _ n _ _ _ _ _ (HQ.out _ _) hnl).mono ?_
  rintro e w3 ⟨ht, hb3⟩
  have htd := ht.told
  have hz3 := hb3.size
  have HR3 := Lib.hid ((HR.out _ _).kept hb3)
  have HB4 := Lib.hid ((HB3.out _ _).trans (hb3.mono (by simp; omega)))
  unfold told retS at htd
  rw [HTT.out.1, if_neg (by simp)] at htd
  subst htd
  have hcR := (Has.new' (n := w2.heap.size + 1) (w := w2.alloc (.cells #[.bool qs, .slice a3 n3 c3, .bool false, .bool false] 46)) (by simp) 46 #[.bool rs, .slice a4 n4 c4, .bool false, .bool false]).below hb3
  clear ht hb3
  obtain ⟨r0, r1, r2, r3, -⟩ := hcR.four
  go_wp2_with fail
  refine (text_any _ j _ _ _ _ _ HR3.out hjl).mono ?_
  rintro e w4 ⟨ht, hb4⟩
  have htd := ht.told
  unfold told retS at htd
  rw [HTT.out.2, if_neg (by simp)] at htd
  subst htd
  simp only [World.size_alloc] at hz3
  have HB5 := Lib.hid (HB4.out.trans (hb4.mono (by omega)))
  clear ht hb4
  go_wp2
  go_ret3
  exact ⟨⟨_, _, HDV.out, rfl⟩, HB5.out⟩
end Go.Proofs.YtmnibfdenmeepaaDoor
