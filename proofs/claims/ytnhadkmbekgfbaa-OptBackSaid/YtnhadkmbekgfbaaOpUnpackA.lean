/-
  Unpack of whatever bytes.
-/
import Derived.Test.YtnhadkmbekgfbaaOpUnpackW
namespace Go.Proofs.Ytnhadkmbekgfbaa
open Go.RowKit
set_option maxRecDepth 100000
set_option maxHeartbeats 4000000
set_option linter.unusedSimpArgs false
set_option linter.unusedVariables false

theorem up_few {l : List UInt8} (h : l.length < 4) : upE l = 8 := if_pos h
theorem unpack_any (A : Option Addr) (n c B : Nat) (l : List UInt8) (w : World) (hr : Rd w B A n l) (hB : B ≤ w.heap.size) (hn : n ≤ 140737488420864) :
    Calls Try.prog 28 #[.slice A n c] w fun e w' => UpPost w (num l 1) (num (l.drop 1) 1) l (upE l) e w' := by
  by_cases h4 : 4 ≤ l.length
  · exact unpack_long A n c B l w hr hB hn h4 _ _ rfl rfl
  · rw [up_few (by omega)]
    refine (unpack_short A n c B l w hr hB hn (by omega)).mono ?_
    rintro e w' ⟨rfl, hb⟩
    exact ⟨_, rfl, hb, fun _ => rfl, fun h => by omega⟩
end Go.Proofs.Ytnhadkmbekgfbaa
