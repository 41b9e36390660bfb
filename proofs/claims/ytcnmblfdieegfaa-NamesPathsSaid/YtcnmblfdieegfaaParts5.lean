/- What the parts of a path are, in plain words: no colon at their ends, no two colons beside each other. -/
import Derived.Test.YtcnmblfdieegfaaParts1
namespace Go.Proofs.Ytcnmblfdieegfaa
open Go.RowKit Go.Lib

/-- No two colons beside each other. -/
def apart : List UInt8 → Prop
  | [] => True
  | c :: r => ¬ (c = 58 ∧ r.head? = some 58) ∧ apart r
theorem apart_snoc : ∀ {l : List UInt8} {c : UInt8}, apart l → ¬ (l.getLast? = some 58 ∧ c = 58) → apart (l ++ [c])
  | [], c, _, _ => ⟨by simp, trivial⟩
  | [d], c, _, h => by
    refine ⟨?_, by simp, trivial⟩
    rintro ⟨h1, h2⟩
    apply h
    subst h1
    simp at h2
    exact ⟨rfl, h2⟩
  | d :: e :: r, c, h1, h2 => by
    refine ⟨h1.1, apart_snoc (l := e :: r) h1.2 ?_⟩
    rw [List.getLast?_cons_cons] at h2
    exact h2
structure PartOk (p : List UInt8) : Prop where
  any : p ≠ []
  head : p.head? ≠ some 58
  last : p.getLast? ≠ some 58
  mid : apart p
/-- What has been read of a part, and what follows. -/
structure Fine (acc l : List UInt8) : Prop where
  begin : acc = [] → l.head? ≠ some 58
  head : acc.head? ≠ some 58
  mid : apart acc
  last : acc.getLast? = some 58 → l ≠ [] ∧ l.head? ≠ some 58

theorem flushed_good {acc l : List UInt8} (h : Fine acc l) (hl : acc.getLast? ≠ some 58) : ∀ p ∈ flushed acc, PartOk p := by
  intro p hp
  unfold flushed at hp
  split at hp
  · cases hp
  · rename_i he
    simp at hp
    subst hp
    exact ⟨he, h.head, hl, h.mid⟩
theorem fine_other {acc r : List UInt8} {c : UInt8} (h : apart acc) (hh : acc.head? ≠ some 58) (hc : c ≠ 58) : Fine (acc ++ [c]) r := by
  refine ⟨fun e => by simp at e, ?_, apart_snoc h (fun x => hc x.2), fun e => by simp at e; exact absurd e hc⟩
  cases acc with
  | nil => simpa using hc
  | cons d r => simpa using hh
theorem fine_nil {l : List UInt8} (h : l.head? ≠ some 58) : Fine [] l := ⟨fun _ => h, by simp, trivial, by simp⟩

theorem scan_good : ∀ (l acc : List UInt8) (first inRun : Bool), (inRun = true → acc = []) → (inRun = false → first = false → Fine acc l) → (first = true → acc = []) → ∀ p ∈ scan first inRun acc l, PartOk p
  | [], acc, first, inRun, hr, hf, h1 => by
    intro p hp
    rw [scan] at hp
    by_cases ha : acc = []
    · rw [ha] at hp
      simp [flushed] at hp
    · have hF : Fine acc [] := hf (by cases inRun; rfl; exact absurd (hr rfl) ha) (by cases first; rfl; exact absurd (h1 rfl) ha)
      exact flushed_good hF (fun e => (hF.last e).1 rfl) p hp
  | c :: r, acc, first, inRun, hr, hf, h1 => by
    have IH := scan_good r
    by_cases hc : c = 58
    · subst hc
      rw [show scan first inRun acc (58 :: r) = (if inRun = true then scan false true [] r else if r.head? = some 58 then flushed acc ++ scan false true [] r else if r = [] then flushed acc else if first = true then flushed acc ++ scan false false [] r else scan false false (acc ++ [58]) r) by rw [scan.eq_def]; simp]
      cases inRun with
      | true =>
        rw [if_pos rfl]
        exact IH [] false true (fun _ => rfl) (by simp) (by simp)
      | false =>
        rw [if_neg (by simp)]
        have hfl : ∀ p ∈ flushed acc, PartOk p := by
          cases first with
          | true => rw [h1 rfl]; simp [flushed]
          | false =>
            have hF := hf rfl rfl
            exact flushed_good hF (fun e => (hF.last e).2 rfl)
        by_cases hd : r.head? = some 58
        · rw [if_pos hd]
          intro p hp
          rcases List.mem_append.1 hp with h | h
          · exact hfl p h
          · exact IH [] false true (fun _ => rfl) (by simp) (by simp) p h
        · rw [if_neg hd]
          by_cases he : r = []
          · rw [if_pos he]
            exact hfl
          · rw [if_neg he]
            cases first with
            | true =>
              rw [if_pos rfl]
              intro p hp
              rcases List.mem_append.1 hp with h | h
              · exact hfl p h
              · exact IH [] false false (by simp) (fun _ _ => fine_nil hd) (by simp) p h
            | false =>
              rw [if_neg (by simp)]
              have hF := hf rfl rfl
              have hne : acc ≠ [] := fun e => hF.begin e rfl
              refine IH (acc ++ [58]) false false (by simp) (fun _ _ => ⟨fun e => by simp at e, ?_, apart_snoc hF.mid (fun x => (hF.last x.1).2 rfl), fun _ => ⟨he, hd⟩⟩) (by simp)
              cases acc with
              | nil => exact absurd rfl hne
              | cons d t => simpa using hF.head
    · rw [scan_other hc]
      refine IH (acc ++ [c]) false false (by simp) (fun _ _ => ?_) (by simp)
      by_cases ha : acc = []
      · subst ha
        exact fine_other trivial (by simp) hc
      · have hF : Fine acc (c :: r) := hf (by cases inRun; rfl; exact absurd (hr rfl) ha) (by cases first; rfl; exact absurd (h1 rfl) ha)
        exact fine_other hF.mid hF.head hc
theorem partsOf_good (l : List UInt8) : ∀ p ∈ partsOf l, PartOk p := scan_good l [] true false (by simp) (by simp) (fun _ => rfl)

/-- The canonical form of parts. -/
def canon (ps : List (List UInt8)) : List UInt8 := if ps = [] then [58, 58] else ps.flatMap fun p => 58 :: 58 :: p

/-- A good part is read whole, up to what separates or ends it. -/
theorem scan_part : ∀ (p acc rest : List UInt8), Fine acc (p ++ rest) → apart (p ++ rest.take 1) → p.getLast? ≠ some 58 → (rest = [] ∨ rest.head? = some 58 ∧ (rest.drop 1).head? = some 58) → acc ++ p ≠ [] → scan false false acc (p ++ rest) = scan false false (acc ++ p) rest
  | [], acc, rest, _, _, _, _, _ => by simp
  | c :: p, acc, rest, hF, ha, hl, hr, hn => by
    by_cases hc : c = 58
    · subst hc
      cases p with
      | nil => exact absurd rfl hl
      | cons d p =>
        have hd : d ≠ 58 := fun e => ha.1 ⟨rfl, by rw [e]; rfl⟩
        have hne : acc ≠ [] := fun e => hF.begin e rfl
        rw [show 58 :: d :: p ++ rest = 58 :: d :: (p ++ rest) from rfl, scan_lone hd]
        have IH := scan_part (d :: p) (acc ++ [58]) rest ⟨fun e => by simp at e, by cases acc with
          | nil => exact absurd rfl hne
          | cons x t => simpa using hF.head, apart_snoc hF.mid (fun x => (hF.last x.1).2 rfl), fun _ => ⟨by simp, by simpa using hd⟩⟩ ha.2 (by rw [List.getLast?_cons_cons] at hl; exact hl) hr (by simp)
        rw [show d :: (p ++ rest) = d :: p ++ rest from rfl, IH, List.append_assoc]
        rfl
    · rw [show c :: p ++ rest = c :: (p ++ rest) from rfl, scan_other hc]
      have hl' : p.getLast? ≠ some 58 := by
        cases p with
        | nil => simp
        | cons d p => rw [List.getLast?_cons_cons] at hl; exact hl
      have IH := scan_part p (acc ++ [c]) rest (fine_other hF.mid hF.head hc) ha.2 hl' hr (by simp)
      rw [IH, List.append_assoc]
      rfl

def flat (ps : List (List UInt8)) : List UInt8 := ps.flatMap fun p => 58 :: 58 :: p
theorem flat_cons (p : List UInt8) (ps : List (List UInt8)) : flat (p :: ps) = 58 :: 58 :: (p ++ flat ps) := rfl
theorem scan_flat (p : List UInt8) : ∀ ps, scan false false p (flat ps) = flushed p ++ scan false true [] (flat ps)
  | [] => by simp [flat, scan, flushed]
  | q :: ps => by rw [flat_cons, scan_run, scan_run_more, scan_run_more]
theorem flat_ends : ∀ ps : List (List UInt8), flat ps = [] ∨ (flat ps).head? = some 58 ∧ ((flat ps).drop 1).head? = some 58
  | [] => .inl rfl
  | _ :: _ => .inr ⟨rfl, rfl⟩
theorem parts_flat : ∀ ps : List (List UInt8), (∀ p ∈ ps, PartOk p) → scan false true [] (flat ps) = ps
  | [], _ => rfl
  | p :: ps, h => by
    have hp := h p (by simp)
    have hh : (p ++ flat ps).head? ≠ some 58 := by
      cases p with
      | nil => exact absurd rfl hp.any
      | cons c r => simpa using hp.head
    have ha : apart (p ++ (flat ps).take 1) := by
      cases ps with
      | nil => simpa [flat] using hp.mid
      | cons q ps => exact apart_snoc hp.mid (fun x => hp.last x.1)
    rw [flat_cons, scan_run_more, scan_run_more, scan_run_end hh, scan_part p [] (flat ps) (fine_nil hh) ha hp.last (flat_ends ps) (by simpa using hp.any), List.nil_append, scan_flat, parts_flat ps (fun q hq => h q (by simp [hq])), flushed, if_neg hp.any]
    rfl
theorem parts_canon (ps : List (List UInt8)) (h : ∀ p ∈ ps, PartOk p) : partsOf (canon ps) = ps := by
  cases ps with
  | nil => rfl
  | cons p ps =>
    have e := parts_flat (p :: ps) h
    rw [flat_cons, scan_run_more, scan_run_more] at e
    rw [canon, if_neg (by simp), show (p :: ps).flatMap (fun p => 58 :: 58 :: p) = 58 :: 58 :: (p ++ flat ps) from rfl, partsOf, scan_run, e]
    rfl
theorem canon_absolute (ps : List (List UInt8)) : ∃ r, canon ps = 58 :: 58 :: r := by
  cases ps with
  | nil => exact ⟨[], rfl⟩
  | cons p ps => exact ⟨p ++ flat ps, rfl⟩
end Go.Proofs.Ytcnmblfdieegfaa
