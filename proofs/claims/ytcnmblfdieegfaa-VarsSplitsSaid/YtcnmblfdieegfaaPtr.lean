/- Pointers to variables: the same, and others. -/
import Derived.Test.YtcnmblfdieegfaaSp1
import Derived.LaidEqlPtr
namespace Go.Proofs.Ytcnmblfdieegfaa
open Go.RowKit Go.ChangeMaps

theorem Try.size71 : (Try.prog.info? 71).map (fun i => i.size) = some 3 := by kernel_rfl
theorem ptr_neq (a : Addr) (w : World) : (binOp .neq 62 (.pointer (some a)) (.pointer (some a))).run Try.prog w = .ok (.bool false) w := by
  obtain ⟨j, hj, -⟩ := Option.map_eq_some_iff.1 Try.size71
  have h : ∀ d : Nat, (Op.equalIn (d + 1) 62 (.pointer (some a)) (.pointer (some a))).run Try.prog w = .ok true w := fun d => by
    simp [Op.equalIn, run_underlying Try.underlying62, sizeOf, typeInfo, hj, run_sameAddr_same]
  simp only [binOp]
  simp [Op.equal, Op.maxDepth, h 9999]
theorem ptr_eql (a b : Nat) (w : World) {ca cb : Array Value} (h : a ≠ b) (ha : Has w a 71 ca) (hb : Has w b 71 cb) : (binOp .eql 62 (.pointer (some ⟨a, 0, none⟩)) (.pointer (some ⟨b, 0, none⟩))).run Try.prog w = .ok (.bool false) w := by
  obtain ⟨j, hj, hs⟩ := Option.map_eq_some_iff.1 Try.size71
  exact run_eql_ptr_other w Try.underlying62 hj (by omega) (fun e => h (Addr.mk.inj e).1) ha hb
end Go.Proofs.Ytcnmblfdieegfaa
