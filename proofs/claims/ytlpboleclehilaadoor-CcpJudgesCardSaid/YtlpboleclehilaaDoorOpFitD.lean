/-
  What it is for an answer to fit its request.
-/
import Derived.Test.YtlpboleclehilaaDoorOpPlcR
namespace Go.Proofs.YtlpboleclehilaaDoor
open Go.RowKit
set_option maxRecDepth 100000
set_option maxHeartbeats 4000000
set_option linter.unusedSimpArgs false
set_option linter.unusedVariables false

/-- the types stand in the order of their places -/
def Srt (s t : List Opt) : Prop := ∀ j (h : j + 1 < t.length), plc s (t[j]'(by omega)).1 ≤ plc s t[j + 1].1
def SrtFrom (s t : List Opt) (x : Int) : Prop := ∀ j (h : j + 1 < t.length), x ≤ j → plc s (t[j]'(by omega)).1 ≤ plc s t[j + 1].1
/-- whether a reply fits, and what is at fault -/
def fitB (code : Int) (s t : List Opt) (R : Bool) : Bool := if code = 2 then decide (s = t) else if code = 3 then decide (0 < t.length) && R else if code = 4 then decide (0 < t.length) && decide (s.foldl eat t = []) else false
def fitE (code : Int) : Int := if code = 2 ∨ code = 3 ∨ code = 4 then 0 else 90
end Go.Proofs.YtlpboleclehilaaDoor
