/- The parts of a path are those before its last separator and those behind it. -/
import Derived.Test.YtcnmblfdieegfaaParts1
namespace Go.Proofs.Ytcnmblfdieegfaa
open Go.RowKit Go.Lib

theorem scan_sep (t : List UInt8) : ∀ (b acc : List UInt8) (first inRun : Bool), (inRun = true → acc = []) → scan first inRun acc (b ++ 58 :: 58 :: t) = scan first inRun acc b ++ scan false true [] t
  | [], acc, first, inRun, h => by
    cases inRun with
    | true =>
      rw [h rfl, List.nil_append]
      rw [show scan first true [] (58 :: 58 :: t) = scan false true [] t by rw [scan.eq_def]; simp [scan_run_more]]
      rw [show scan first true [] [] = [] by rw [scan.eq_def]; rfl]
      rfl
    | false =>
      rw [List.nil_append, scan_run, show scan first false acc [] = flushed acc by rw [scan.eq_def]]
  | c :: b, acc, first, inRun, h => by
    have IH := scan_sep t b
    by_cases hc : c = 58
    · subst hc
      cases inRun with
      | true =>
        rw [h rfl]
        rw [show scan first true [] (58 :: b) = scan false true [] b by rw [scan.eq_def]; simp]
        rw [show scan first true [] (58 :: b ++ 58 :: 58 :: t) = scan false true [] (b ++ 58 :: 58 :: t) by rw [scan.eq_def]; simp]
        exact IH [] false true (fun _ => rfl)
      | false =>
        cases b with
        | nil =>
          rw [show [58] ++ 58 :: 58 :: t = 58 :: 58 :: 58 :: t from rfl, scan_run, scan_run_more, scan_last]
          simp [scan, flushed]
        | cons d b =>
          by_cases hd : d = 58
          · subst hd
            rw [show 58 :: 58 :: b ++ 58 :: 58 :: t = 58 :: 58 :: (b ++ 58 :: 58 :: t) from rfl, scan_run, scan_run]
            have e := IH [] false true (fun _ => rfl)
            rw [show 58 :: b ++ 58 :: 58 :: t = 58 :: (b ++ 58 :: 58 :: t) from rfl, scan_run_more, scan_run_more] at e
            rw [e, List.append_assoc]
          · cases first with
            | true =>
              rw [show 58 :: d :: b ++ 58 :: 58 :: t = 58 :: d :: (b ++ 58 :: 58 :: t) from rfl, scan_lone_first hd, scan_lone_first hd]
              have e := IH [] false false (by simp)
              rw [show d :: b ++ 58 :: 58 :: t = d :: (b ++ 58 :: 58 :: t) from rfl] at e
              rw [e, List.append_assoc]
            | false =>
              rw [show 58 :: d :: b ++ 58 :: 58 :: t = 58 :: d :: (b ++ 58 :: 58 :: t) from rfl, scan_lone hd, scan_lone hd]
              exact IH (acc ++ [58]) false false (by simp)
    · rw [show c :: b ++ 58 :: 58 :: t = c :: (b ++ 58 :: 58 :: t) from rfl, scan_other hc, scan_other hc]
      exact IH (acc ++ [c]) false false (by simp)
theorem partsOf_begin {t : List UInt8} (h : t.head? ≠ some 58) : scan false true [] t = partsOf t := by
  rw [scan_run_end h]
  cases t with
  | nil => rfl
  | cons c r =>
    have hc : c ≠ 58 := fun e => h (by rw [e]; rfl)
    rw [partsOf, scan_other hc, scan_other hc]
theorem partsOf_sep (b : List UInt8) {t : List UInt8} (h : t.head? ≠ some 58) : partsOf (b ++ 58 :: 58 :: t) = partsOf b ++ partsOf t := by
  rw [← partsOf_begin h]
  exact scan_sep t b [] true false (by simp)
theorem scan_colon : ∀ (b acc : List UInt8) (first inRun : Bool), (inRun = true → acc = []) → scan first inRun acc (b ++ [58]) = scan first inRun acc b
  | [], acc, first, inRun, h => by
    cases inRun with
    | true =>
      rw [h rfl, List.nil_append]
      rw [show scan first true [] [58] = [] by rw [scan.eq_def]; simp [scan, flushed]]
      rw [show scan first true [] [] = [] by rw [scan.eq_def]; rfl]
    | false =>
      rw [List.nil_append, scan_last, show scan first false acc [] = flushed acc by rw [scan.eq_def]]
      simp [scan, flushed]
  | c :: b, acc, first, inRun, h => by
    have IH := scan_colon b
    by_cases hc : c = 58
    · subst hc
      cases inRun with
      | true =>
        rw [h rfl]
        rw [show scan first true [] (58 :: b) = scan false true [] b by rw [scan.eq_def]; simp]
        rw [show scan first true [] (58 :: b ++ [58]) = scan false true [] (b ++ [58]) by rw [scan.eq_def]; simp]
        exact IH [] false true (fun _ => rfl)
      | false =>
        cases b with
        | nil =>
          rw [show [58] ++ [58] = 58 :: 58 :: ([] : List UInt8) from rfl, scan_run, scan_last]
          simp [scan, flushed]
        | cons d b =>
          by_cases hd : d = 58
          · subst hd
            rw [show 58 :: 58 :: b ++ [58] = 58 :: 58 :: (b ++ [58]) from rfl, scan_run, scan_run]
            have e := IH [] false true (fun _ => rfl)
            rw [show 58 :: b ++ [58] = 58 :: (b ++ [58]) from rfl, scan_run_more, scan_run_more] at e
            rw [e]
          · cases first with
            | true =>
              rw [show 58 :: d :: b ++ [58] = 58 :: d :: (b ++ [58]) from rfl, scan_lone_first hd, scan_lone_first hd]
              have e := IH [] false false (by simp)
              rw [show d :: b ++ [58] = d :: (b ++ [58]) from rfl] at e
              rw [e]
            | false =>
              rw [show 58 :: d :: b ++ [58] = 58 :: d :: (b ++ [58]) from rfl, scan_lone hd, scan_lone hd]
              exact IH (acc ++ [58]) false false (by simp)
    · rw [show c :: b ++ [58] = c :: (b ++ [58]) from rfl, scan_other hc, scan_other hc]
      exact IH (acc ++ [c]) false false (by simp)
/-- Colons at the end say nothing. -/
theorem partsOf_colons (b : List UInt8) : ∀ k, partsOf (b ++ List.replicate k 58) = partsOf b
  | 0 => by simp
  | k + 1 => by
    rw [List.replicate_succ', ← List.append_assoc]
    exact (scan_colon (b ++ List.replicate k 58) [] true false (by simp)).trans (partsOf_colons b k)
end Go.Proofs.Ytcnmblfdieegfaa
