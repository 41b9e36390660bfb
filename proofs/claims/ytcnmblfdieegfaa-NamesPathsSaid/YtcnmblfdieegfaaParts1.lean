/- Parts of a path, in plain words; Parts of the program. -/
import Derived.Test.YtcnmblfdieegfaaBase
import Derived.Deep.DeepCutAuto
import Derived.Deep.CutBlock
import Derived.OwnWalk
import Derived.Lib.IndexBytes
import Derived.Lib.Strings
import Derived.Maps.AppendAt
namespace Go.Proofs.Ytcnmblfdieegfaa
open Go.RowKit Go.Lib

/-- What has been read of a part, if it is anything. -/
def flushed (acc : List UInt8) : List (List UInt8) := if acc = [] then [] else [acc]
/-- The parts of what follows: at the beginning of the path, within a run of colons, with what has been read of a part. -/
def scan : Bool → Bool → List UInt8 → List UInt8 → List (List UInt8)
  | _, _, acc, [] => flushed acc
  | first, inRun, acc, c :: r =>
    if c = 58 then
      if inRun = true then scan false true [] r
      else if r.head? = some 58 then flushed acc ++ scan false true [] r
      else if r = [] then flushed acc
      else if first = true then flushed acc ++ scan false false [] r
      else scan false false (acc ++ [c]) r
    else scan false false (acc ++ [c]) r
def partsOf (l : List UInt8) : List (List UInt8) := scan true false [] l

theorem scan_other {first inRun : Bool} {acc r : List UInt8} {c : UInt8} (h : c ≠ 58) : scan first inRun acc (c :: r) = scan false false (acc ++ [c]) r := by rw [scan, if_neg h]
theorem scan_run {first : Bool} {acc r : List UInt8} : scan first false acc (58 :: 58 :: r) = flushed acc ++ scan false true [] r := by
  rw [scan, if_pos rfl, if_neg (by simp), if_pos (show (58 :: r).head? = some 58 from rfl)]
  congr 1
theorem scan_run_more {acc r : List UInt8} : scan false true acc (58 :: r) = scan false true [] r := by rw [scan, if_pos rfl, if_pos rfl]
theorem scan_run_end {r : List UInt8} (h : r.head? ≠ some 58) : scan false true [] r = scan false false [] r := by
  cases r with
  | nil => rfl
  | cons c r =>
    have hc : c ≠ 58 := fun e => h (by rw [e]; rfl)
    rw [scan_other hc, scan_other hc]
theorem scan_last {first : Bool} {acc : List UInt8} : scan first false acc [58] = flushed acc ++ scan false false [] [] := by
  simp [scan, flushed]
theorem scan_lone_first {acc r : List UInt8} {d : UInt8} (hd : d ≠ 58) : scan true false acc (58 :: d :: r) = flushed acc ++ scan false false [] (d :: r) := by
  rw [scan, if_pos rfl, if_neg (by simp), if_neg (by simpa using hd), if_neg (by simp), if_pos rfl]
theorem scan_lone {acc r : List UInt8} {d : UInt8} (hd : d ≠ 58) : scan false false acc (58 :: d :: r) = scan false false (acc ++ [58]) (d :: r) := by
  rw [scan, if_pos rfl, if_neg (by simp), if_neg (by simpa using hd), if_neg (by simp), if_neg (by simp)]

def partCells (ps : List (List UInt8)) : List Value := ps.map fun p => Value.string ⟨p.toArray⟩

theorem slice_acc (s : ByteArray) (b i : Nat) : (s.extract b i) = ⟨((s.data.toList.take i).drop b).toArray⟩ := by
  apply ByteArray.ext
  apply Array.toList_inj.1
  rw [Lib.extract_data, List.drop_take]

theorem Try.info9 : (Try.prog.info? 9).map (fun i => (i.zero, i.size, i.bytes)) = some (some (.string ⟨#[]⟩), 1, 16) := by kernel_rfl
end Go.Proofs.Ytcnmblfdieegfaa
