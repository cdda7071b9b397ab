/-
  A byte of a list as its tail's head.
-/
import Derived.Test.YtmdlpbgelgeiaaaDoorNext16
namespace Go.Proofs.YtmdlpbgelgeiaaaDoor
open Go.RowKit
set_option linter.unusedSimpArgs false
set_option linter.unusedVariables false

theorem byteAt_drop0 (l : List UInt8) (k : Nat) (h : k < l.length) : ∃ c : UInt8, l.drop k = c :: l.drop (k + 1) ∧ byteAt l k = ((c.toNat : Nat) : Int) := by
  refine ⟨l[k], List.drop_eq_getElem_cons h, byteAt_eq l k h⟩
end Go.Proofs.YtmdlpbgelgeiaaaDoor
