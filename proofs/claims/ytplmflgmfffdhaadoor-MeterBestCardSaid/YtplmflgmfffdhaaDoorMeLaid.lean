/-
  Nothing is asked of the listed variables; a float's word.
-/
import Derived.Test.YtplmflgmfffdhaaDoorRows
import Derived.Test.YtplmflgmfffdhaaDoorMeCmp
namespace Go.Proofs.YtplmflgmfffdhaaDoor
theorem of_laid0 {p : Prop} (_ : p) : True := trivial
theorem word_of {b : Nat} (h : (Lit.float .f64 b).wf = true) : Word b := by
  unfold Word
  simpa [Lit.wf] using h
end Go.Proofs.YtplmflgmfffdhaaDoor
