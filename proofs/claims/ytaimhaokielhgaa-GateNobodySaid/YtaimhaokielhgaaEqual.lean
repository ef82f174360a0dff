/-
  slices.Equal at integers; == of a nil pointer and another one.
  Conditions: those that each theorem states.
-/
import Derived.Test.YtaimhaokielhgaaOnly
import Derived.LaidEqlPtr
namespace Go.Proofs.Ytaimhaokielhgaa
open Go.ChangeShapes Go.WideShapes Go.ChangeAt Go.RowKit

theorem nil_left {P : Program} (t te : TypeId) (a : Addr) (h : P.underlying t = some (.pointer te)) (w : World) : (binOp .eql t (.pointer none) (.pointer (some a))).run P w = .ok (.bool false) w := by
  have e : ∀ d : Nat, (Op.equalIn (d + 1) t (.pointer none) (.pointer (some a))).run P w = .ok false w := fun d => by simp [Op.equalIn, run_underlying h]
  have e' : (Op.equal t (.pointer none) (.pointer (some a))).run P w = .ok false w := e 9999
  simp only [binOp]
  simp [e']

#print axioms nil_left
end Go.Proofs.Ytaimhaokielhgaa
