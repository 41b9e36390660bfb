/- Parts as the reference reads a path: a lone colon at either end is taken away first. -/
import Derived.Test.YtcnmblfdieegfaaParts1
namespace Go.Proofs.Ytcnmblfdieegfaa
open Go.RowKit Go.Lib

/-- The parts of a text that no lone colon ends. -/
def scan2 : Bool → List UInt8 → List UInt8 → List (List UInt8)
  | _, acc, [] => flushed acc
  | inRun, acc, c :: r =>
    if c = 58 then
      if inRun = true then scan2 true [] r
      else if r.head? = some 58 then flushed acc ++ scan2 true [] r
      else scan2 false (acc ++ [c]) r
    else scan2 false (acc ++ [c]) r
/-- A lone colon at the beginning, at the end, taken away. -/
def stripL : List UInt8 → List UInt8
  | [] => []
  | c :: r => if c = 58 ∧ r.head? ≠ some 58 then r else c :: r
def stripR : Bool → List UInt8 → List UInt8
  | _, [] => []
  | p, [c] => if c = 58 ∧ p = false then [] else [c]
  | _, c :: d :: r => c :: stripR (decide (c = 58)) (d :: r)

theorem stripR_head (p : Bool) (d : UInt8) (r : List UInt8) (h : d ≠ 58 ∨ p = true ∨ r ≠ []) : (stripR p (d :: r)).head? = some d := by
  cases r with
  | nil =>
    rw [stripR, if_neg]
    · rfl
    · rintro ⟨h1, h2⟩
      rcases h with h | h | h
      · exact h h1
      · rw [h] at h2; cases h2
      · exact h rfl
  | cons e r => rfl
theorem stripR_same (p q : Bool) (d : UInt8) (r : List UInt8) (h : d ≠ 58) : stripR p (d :: r) = stripR q (d :: r) := by
  cases r with
  | nil => rw [stripR, stripR, if_neg (fun x => h x.1), if_neg (fun x => h x.1)]
  | cons e r => rfl

theorem scan_scan2 : ∀ (l : List UInt8) (inRun : Bool) (acc : List UInt8), scan false inRun acc l = scan2 inRun acc (stripR inRun l)
  | [], _, _ => rfl
  | [c], inRun, acc => by
    by_cases hc : c = 58
    · subst hc
      cases inRun
      · rw [stripR, if_pos ⟨rfl, rfl⟩]
        simp [scan, scan2, flushed]
      · rw [stripR, if_neg (fun h => by cases h.2)]
        simp [scan, scan2, flushed]
    · rw [stripR, if_neg (fun h => hc h.1), scan_other hc, scan2, if_neg hc]
      rfl
  | c :: d :: r, inRun, acc => by
    rw [show stripR inRun (c :: d :: r) = c :: stripR (decide (c = 58)) (d :: r) from rfl]
    by_cases hc : c = 58
    · subst hc
      rw [show decide ((58 : UInt8) = 58) = true from rfl]
      cases inRun
      · by_cases hd : d = 58
        · subst hd
          rw [scan_run, scan2, if_pos rfl, if_neg (by simp), if_pos (stripR_head true 58 r (.inr (.inl rfl))), ← scan_scan2 (58 :: r) true [], scan_run_more]
        · rw [scan_lone hd, scan2, if_pos rfl, if_neg (by simp), if_neg (by rw [stripR_head true d r (.inl hd)]; simpa using hd), stripR_same true false d r hd, ← scan_scan2 (d :: r) false (acc ++ [58])]
      · rw [scan_run_more, scan2, if_pos rfl, if_pos rfl, ← scan_scan2 (d :: r) true []]
    · rw [scan_other hc, scan2, if_neg hc, show decide (c = 58) = false by simpa using hc, ← scan_scan2 (d :: r) false (acc ++ [c])]

theorem partsOf_strip (l : List UInt8) : partsOf l = scan2 false [] (stripR false (stripL l)) := by
  rw [← scan_scan2]
  unfold partsOf
  cases l with
  | nil => rfl
  | cons c r =>
    by_cases hc : c = 58
    · subst hc
      by_cases hr : r.head? = some 58
      · rw [show stripL (58 :: r) = 58 :: r from if_neg (fun h => h.2 hr)]
        cases r with
        | nil => simp at hr
        | cons d r =>
          simp at hr
          subst hr
          rw [scan_run, scan_run]
      · rw [show stripL (58 :: r) = r from if_pos ⟨rfl, hr⟩]
        cases r with
        | nil => simp [scan, flushed]
        | cons d r =>
          have hd : d ≠ 58 := fun h => hr (by rw [h]; rfl)
          rw [scan_lone_first hd]
          simp [flushed]
    · rw [show stripL (c :: r) = c :: r from if_neg (fun h => hc h.1), scan_other hc, scan_other hc]

/-- At the end: the last byte is a colon, and the one before it is none. -/
theorem stripR_keep : ∀ (l : List UInt8) (p : Bool) (x : UInt8), x ≠ 58 → stripR p (l ++ [x]) = l ++ [x]
  | [], p, x, h => by rw [List.nil_append, stripR, if_neg (fun e => h e.1)]
  | [c], p, x, h => by
    show c :: stripR _ [x] = _
    rw [stripR, if_neg (fun e => h e.1)]
    rfl
  | c :: d :: l, p, x, h => by
    show c :: stripR _ (d :: l ++ [x]) = _
    rw [stripR_keep (d :: l) _ x h]
    rfl
theorem stripR_run : ∀ (l : List UInt8) (p : Bool), stripR p (l ++ [58, 58]) = l ++ [58, 58]
  | [], p => rfl
  | [c], p => rfl
  | c :: d :: l, p => by
    show c :: stripR _ (d :: l ++ [58, 58]) = _
    rw [stripR_run (d :: l)]
    rfl
theorem stripR_lone : ∀ (l : List UInt8) (p : Bool) (x : UInt8), x ≠ 58 → stripR p (l ++ [x, 58]) = l ++ [x]
  | [], p, x, h => by
    show x :: stripR (decide (x = 58)) [58] = _
    rw [show decide (x = 58) = false by simpa using h]
    rfl
  | [c], p, x, h => by
    show c :: x :: stripR (decide (x = 58)) [58] = _
    rw [show decide (x = 58) = false by simpa using h]
    rfl
  | c :: d :: l, p, x, h => by
    show c :: stripR _ (d :: l ++ [x, 58]) = _
    rw [stripR_lone (d :: l) _ x h]
    rfl
end Go.Proofs.Ytcnmblfdieegfaa
