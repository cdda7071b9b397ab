/-
  A list of options that came in.
-/
import Derived.Test.YtlpboleclehilaaDoorOpList
namespace Go.Proofs.YtlpboleclehilaaDoor
open Go.RowKit
set_option maxRecDepth 100000
set_option maxHeartbeats 4000000
set_option linter.unusedSimpArgs false
set_option linter.unusedVariables false

/-- a list that is read, as a subset's argument -/
def LArg (w : World) (A : Option Addr) (n c : Nat) (s : List Opt) : Prop := OptRd w w.heap.size A n s ∧ n ≤ c ∧ n ≤ 4398046510976
theorem LArg.later {w w' : World} {A : Option Addr} {n c : Nat} {s : List Opt} (h : LArg w A n c s) (hB : Below w.heap.size w w') : LArg w' A n c s := ⟨(h.1.below hB (Nat.le_refl _)).wide hB.size, h.2⟩
theorem LArg.drewN {w : World} {A : Option Addr} {n c : Nat} {s : List Opt} (h : LArg w A n c s) (k : Nat) : LArg (w.drewN k) A n c s := h
end Go.Proofs.YtlpboleclehilaaDoor
