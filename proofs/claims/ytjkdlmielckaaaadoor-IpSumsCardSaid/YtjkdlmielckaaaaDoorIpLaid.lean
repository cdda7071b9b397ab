/-
  Nothing is asked of the listed variables.
-/
import Derived.Test.YtjkdlmielckaaaaDoorRows
namespace Go.Proofs.YtjkdlmielckaaaaDoor
theorem of_laid0 {p : Prop} (_ : p) : True := trivial
end Go.Proofs.YtjkdlmielckaaaaDoor
