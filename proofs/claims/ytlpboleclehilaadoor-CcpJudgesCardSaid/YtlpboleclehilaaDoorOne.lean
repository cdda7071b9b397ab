/-
  A slice of one byte.
-/
import Derived.Test.YtlpboleclehilaaDoorBase
import Derived.Test.YtlpboleclehilaaDoorSame
import Derived.Lib.Hide
import Derived.Deep.Light
namespace Go.Proofs.YtlpboleclehilaaDoor
open Go.RowKit
set_option maxRecDepth 100000
set_option linter.unusedSimpArgs false
set_option linter.unusedVariables false

theorem rd_one (w : World) (c : UInt8) (x : Int) (hx : x = (c.toNat : Int)) : Rd (w.alloc (.cells #[.int .u8 x] 5)) (w.heap.size + 1) (some ⟨w.heap.size, 0, none⟩) 1 [c] := by
  subst hx
  refine ⟨rfl, fun _ => ⟨w.heap.size, 0, rfl, by omega, fun j hj => ?_⟩⟩
  obtain rfl : j = 0 := by omega
  have h := (blk_new w 5 [.int .u8 (c.toNat : Int)]).cell 0
  rw [Nat.add_zero]
  exact h

end Go.Proofs.YtlpboleclehilaaDoor
