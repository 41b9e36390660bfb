/- What each letter is, and that its function writes it: the letters of numbers. -/
import Derived.Test.YtcgabonoddloiaaGreatDoorWrFns
import Derived.Test.YtcgabonoddloiaaGreatDoorPc
namespace Go.Proofs.YtcgabonoddloiaaGreatDoor.Wr
open Go.RowKit Clk

def mNames : List (List UInt8) := [[74, 97, 110, 117, 97, 114, 121], [70, 101, 98, 114, 117, 97, 114, 121], [77, 97, 114, 99, 104], [65, 112, 114, 105, 108], [77, 97, 121], [74, 117, 110, 101], [74, 117, 108, 121], [65, 117, 103, 117, 115, 116], [83, 101, 112, 116, 101, 109, 98, 101, 114], [79, 99, 116, 111, 98, 101, 114], [78, 111, 118, 101, 109, 98, 101, 114], [68, 101, 99, 101, 109, 98, 101, 114]]
def wNames : List (List UInt8) := [[77, 111, 110, 100, 97, 121], [84, 117, 101, 115, 100, 97, 121], [87, 101, 100, 110, 101, 115, 100, 97, 121], [84, 104, 117, 114, 115, 100, 97, 121], [70, 114, 105, 100, 97, 121], [83, 97, 116, 117, 114, 100, 97, 121], [83, 117, 110, 100, 97, 121]]
def pNames : List (List UInt8) := [[65, 77], [80, 77]]
/-- What a letter (by its byte) is of a time. -/
def letText (t c : Int) : List UInt8 :=
  if c = 89 then padB (cYear (t / 86400)) 4
  else if c = 121 then padB (cYear (t / 86400) % 100) 2
  else if c = 109 then padB (cMonth (t / 86400)) 2
  else if c = 100 then padB (cDay (t / 86400)) 2
  else if c = 72 then padB (t % 86400 / 3600) 2
  else if c = 77 then padB (t % 86400 / 60 % 60) 2
  else if c = 83 then padB (t % 86400 % 60) 2
  else if c = 73 then padB ((t % 86400 / 3600 + 11) % 12 + 1) 2
  else if c = 106 then padB (yday (t / 86400)) 3
  else if c = 117 then padB ((t / 86400 + 3) % 7 + 1) 1
  else if c = 71 then padB (wkY (t / 86400)) 4
  else if c = 86 then padB (wkN (t / 86400)) 2
  else if c = 101 then Lib.itoa (cDay (t / 86400))
  else if c = 115 then Lib.itoa t
  else if c = 112 then pNames.getD (t % 86400 / 3600 / 12).toNat []
  else if c = 66 then mNames.getD (cMonth (t / 86400) - 1).toNat []
  else if c = 98 then (mNames.getD (cMonth (t / 86400) - 1).toNat []).take 3
  else if c = 65 then wNames.getD ((t / 86400 + 3) % 7).toNat []
  else (wNames.getD ((t / 86400 + 3) % 7).toNat []).take 3

/-- A letter's value: its function writes what the letter is; what it has captured lies in the blocks from lo up to hi. -/
structure LetIs (lo hi : Nat) (v : Value) (w : World) (c : Int) : Prop where
  is : ∃ g cap rf, v = .agg #[.func (.func g) #[] cap, rf] ∧ (∃ h cap2, rf = .func (.func h) #[] cap2) ∧ Enters g ∧ ∀ w', (∀ k, lo ≤ k → k < hi → NM w k → w'.heap[k]? = w.heap[k]?) → hi ≤ w'.heap.size → ∀ t B, isT t = true → Pow B w' → B ≤ w'.heap.size →
    Calls Tryz.prog g (#[.int .i64 t] ++ cap) w' fun e w'' => e = .returned (.string ⟨(letText t c).toArray⟩) ∧ Below w'.heap.size w' w''
  le : hi ≤ w.heap.size
theorem LetIs.kept {lo hi : Nat} {v : Value} {w w' : World} {c : Int} (h : LetIs lo hi v w c) (hb : ∀ k, lo ≤ k → k < hi → NM w k → w'.heap[k]? = w.heap[k]?) (hs : w.heap.size ≤ w'.heap.size) : LetIs lo hi v w' c := by
  obtain ⟨g, cap, rf, e, h1, h2, h3⟩ := h.is
  exact ⟨⟨g, cap, rf, e, h1, h2, fun w2 hk hsz => h3 w2 (fun k a b n => (hk k a b (n.to (hb k a b n))).trans (hb k a b n)) hsz⟩, Nat.le_trans h.le hs⟩
theorem LetIs.below {lo hi : Nat} {v : Value} {w w' : World} {c : Int} (h : LetIs lo hi v w c) (hb : Below w.heap.size w w') : LetIs lo hi v w' c :=
  h.kept (fun k _ hk _ => hb.block k (Nat.lt_of_lt_of_le hk h.le)) hb.size
theorem LetIs.wide {lo hi lo' hi' : Nat} {v : Value} {w : World} {c : Int} (h : LetIs lo hi v w c) (hlo : lo' ≤ lo) (hhi : hi ≤ hi') (hw : hi' ≤ w.heap.size) : LetIs lo' hi' v w c := by
  obtain ⟨g, cap, rf, e, h1, h2, h3⟩ := h.is
  exact ⟨⟨g, cap, rf, e, h1, h2, fun w2 hk hsz => h3 w2 (fun k a b n => hk k (Nat.le_trans hlo a) (Nat.lt_of_lt_of_le b hhi) n) (Nat.le_trans hhi hsz)⟩, hw⟩

theorem enters_number1 : Enters 104 := enters_of Tryz.func104 (by kernel_rfl) (by kernel_rfl)

/-- A letter of number: of a function of a time whose values have at most four digits. -/
theorem number_let (k : Nat) (c : Int) (g : FuncId) (cap : Array Value) (f : Int → Int) (a b lo hi : Nat) (rf : Value) (w : World) (hE : Enters g) (hF : FnIs lo hi w g cap f) (hf : ∀ t, isT t = true → 0 ≤ f t ∧ f t ≤ 9999) (ht : ∀ t, isT t = true → letText t c = padB (f t) k) (hk : k ≤ 4)
    (hb : w.cell? ⟨b, 0, none⟩ = some (.func (.func g) #[] cap)) (ha : w.cell? ⟨a, 0, none⟩ = some (.int .i64 k)) (la : lo ≤ a ∧ a < hi) (lb : lo ≤ b ∧ b < hi) (hr : ∃ h cap2, rf = .func (.func h) #[] cap2) (hle : hi ≤ w.heap.size) :
    LetIs lo hi (.agg #[.func (.func 104) #[] #[.pointer (some ⟨b, 0, none⟩), .pointer (some ⟨a, 0, none⟩)], rf]) w c := by
  refine ⟨⟨_, _, rf, rfl, hr, enters_number1, fun w' hkk hs t B hT hP hB => ?_⟩, hle⟩
  have hb' : w'.cell? ⟨b, 0, none⟩ = some (.func (.func g) #[] cap) := (World.cell?_of_block (w := w) (hkk b lb.1 lb.2 (NM.of_cell hb))).trans hb
  have ha' : w'.cell? ⟨a, 0, none⟩ = some (.int .i64 k) := (World.cell?_of_block (w := w) (hkk a la.1 la.2 (NM.of_cell ha))).trans ha
  rw [ht t hT]
  exact number1_gen g hE cap t (f t) b a k B w' (fun w1 hb1 => hF w1 (fun j h1 h2 n => (hb1.block j (Nat.lt_of_lt_of_le h2 hs)).trans (hkk j h1 h2 n)) (Nat.le_trans hs hb1.size) t hT) hb' ha' (by omega) (by omega) hk (hf t hT).1 (hf t hT).2 hP hB

/-- A function of the date that answers so. -/
def FieldOk (g : FuncId) (f : Int → Int → Int → Int → Int → Int → Int) : Prop := ∀ (Y M D h i s : Int) (w : World), 1 ≤ Y → Y ≤ 9999 → 0 ≤ h → h ≤ 23 → Calls Tryz.prog g #[.agg #[.int .i64 Y, .int .i64 M, .int .i64 D, .int .i64 h, .int .i64 i, .int .i64 s]] w fun e w' => e = .returned (.int .i64 (f Y M D h i s)) ∧ Below w.heap.size w w'
theorem ok_of {g : FuncId} {f : Int → Int → Int → Int → Int → Int → Int} (h : Field g f) : FieldOk g f := fun Y M D hh i s w _ _ _ _ => h.call Y M D hh i s w
theorem field4 : FieldOk 82 (fun Y _ _ _ _ _ => Y % 100) := fun Y M D h i s w y1 y2 _ _ => by
  go_enter Tryz.func82, Tryz.ntmps82
  go_wp2
  go_ret
  exact ⟨rfl, (Below.refl _ _).alloc (Nat.le_refl _) _⟩
theorem half_any (h : Int) (w : World) (h1 : 0 ≤ h) (h2 : h ≤ 23) : Calls Tryz.prog 89 #[.int .i64 h] w fun e w' => e = .returned (.int .i64 ((h + 11) % 12 + 1)) ∧ w = w' := by
  go_enter Tryz.func89, Tryz.ntmps89
  go_wp2
  go_ret
  exact ⟨rfl, rfl⟩
theorem field10 : FieldOk 88 (fun _ _ _ h _ _ => (h + 11) % 12 + 1) := fun Y M D h i s w _ _ h1 h2 => by
  go_enter Tryz.func88, Tryz.ntmps88
  go_wp2_with (go_at_call 89; refine (half_any _ _ h1 h2).mono ?_; rintro e w' ⟨rfl, rfl⟩)
  go_ret
  exact ⟨rfl, (Below.refl _ _).alloc (Nat.le_refl _) _⟩

set_option maxHeartbeats 800000 in
set_option maxRecDepth 100000 in
theorem part1_gen (g : FuncId) (hE : Enters g) (f : Int → Int → Int → Int → Int → Int → Int) (G : FieldOk g f) (t Y M D h i s : Int) (a : Nat) (w : World) (A : AtIs t Y M D h i s) (ht : isT t = true) (y1 : 1 ≤ Y) (y2 : Y ≤ 9999) (h1 : 0 ≤ h) (h2 : h ≤ 23)
    (ha : w.cell? ⟨a, 0, none⟩ = some (.func (.func g) #[] #[])) (hal : a < w.heap.size) :
    Calls Tryz.prog 103 #[.int .i64 t, .pointer (some ⟨a, 0, none⟩)] w fun e w' => e = .returned (.int .i64 (f Y M D h i s)) ∧ Below w.heap.size w w' := by
  obtain ⟨t1, t2⟩ := isT_iff.1 ht
  have hcf : ∀ args w, (callFunc g args).run Tryz.prog w = .ok (.enter g args) w := hE
  have HG := Lib.hid (fun w => G Y M D h i s w y1 y2 h1 h2)
  have HA := Lib.hid A
  obtain ⟨n, hn⟩ : ∃ n, f Y M D h i s = n := ⟨_, rfl⟩
  rw [hn] at HG ⊢
  clear G A hn hE
  go_enter Tryz.func103, Tryz.ntmps103
  go_wp2_with fail
  go_region_held3 (fun w' => w'.cell? ⟨a, 0, none⟩ = some (.func (.func g) #[] #[]))
    (first | assumption | exact (hb2.cell (p := ⟨a, 0, none⟩) (Nat.lt_of_lt_of_le hal hb1.size)).trans (by assumption) | exact (hb1.cell (p := ⟨a, 0, none⟩) hal).trans ha)
    (first | (go_at_call 35; refine (at_any _ _ _ _ _ _ _ _ HA.out (by omega) (by omega)).mono ?_; rintro e w1 ⟨rfl, hb1⟩) | (refine (HG.out _).mono ?_; rintro e w2 ⟨rfl, hb2⟩))
  go_wp2
  go_ret
  exact ⟨rfl, (Below.drewIn hb1).trans (hb2.mono hb1.size)⟩

/-- A letter of part. -/
theorem part_let {lo hi : Nat} {v : Value} {w : World} {n : Int} {g : FuncId} (P : PartIs lo hi v w n g) (k : Nat) (hn : n = k) (hk : k ≤ 4) (c : Int) (f : Int → Int → Int → Int → Int → Int → Int) (G : FieldOk g f) (hE : Enters g)
    (hf : ∀ Y M D h i s : Int, 1 ≤ Y ∧ Y ≤ 9999 → 1 ≤ M ∧ M ≤ 12 → 1 ≤ D ∧ D ≤ 31 → 0 ≤ h ∧ h ≤ 23 → 0 ≤ i ∧ i ≤ 59 → 0 ≤ s ∧ s ≤ 59 → 0 ≤ f Y M D h i s ∧ f Y M D h i s ≤ 9999)
    (ht : ∀ t Y M D h i s, AtIs t Y M D h i s → letText t c = padB (f Y M D h i s) k) : LetIs lo hi v w c := by
  obtain ⟨a, b, d, e, h1, h2, h3, la, lb, ld⟩ := P.is
  subst hn
  refine ⟨⟨_, _, _, e, ⟨_, _, rfl⟩, enters_number1, fun w' hkk hs t B hT hP hB => ?_⟩, P.le⟩
  obtain ⟨Y, M, D, h, i, s, A, hY, hM, hD, hh, hi', hs'⟩ := at_parts t hT
  have ca : w'.cell? ⟨a, 0, none⟩ = some (.func (.func g) #[] #[]) := (World.cell?_of_block (w := w) (hkk a la.1 la.2 (NM.of_cell h2))).trans h2
  have cb : w'.cell? ⟨b, 0, none⟩ = some (.func (.func 103) #[] #[.pointer (some ⟨a, 0, none⟩)]) := (World.cell?_of_block (w := w) (hkk b lb.1 lb.2 (NM.of_cell h1))).trans h1
  have cd : w'.cell? ⟨d, 0, none⟩ = some (.int .i64 k) := (World.cell?_of_block (w := w) (hkk d ld.1 ld.2 (NM.of_cell h3))).trans h3
  rw [ht t Y M D h i s A]
  have hb := hf Y M D h i s hY hM hD hh hi' hs'
  exact number1_gen 103 enters_part1 #[.pointer (some ⟨a, 0, none⟩)] t (f Y M D h i s) b d k B w' (fun w1 hb1 => part1_gen g hE f G t Y M D h i s a w1 A hT hY.1 hY.2 hh.1 hh.2 ((hb1.cell (p := ⟨a, 0, none⟩) (by show a < _; omega)).trans ca) (by have := hb1.size; omega)) cb cd (by omega) (by omega) hk hb.1 hb.2 hP hB
end Go.Proofs.YtcgabonoddloiaaGreatDoor.Wr
