/-
  == of two digests.
-/
import Derived.Test.YtnlhjlmjbmaipaaDoorMdAwake
import Derived.Stop.BytesEq
namespace Go.Proofs.YtnlhjlmjbmaipaaDoor
open Go.RowKit
set_option maxRecDepth 100000
set_option linter.unusedSimpArgs false
set_option linter.unusedVariables false
theorem u8_sizeOf (w : World) : (Go.sizeOf 5).run Tryd.prog w = .ok 1 w := by kernel_rfl
theorem eq16_bytes (a b : List UInt8) (ha : a.length = 16) (hb : b.length = 16) (W : World) : (Op.equalIn 10000 31 (.agg (a.map cellOf).toArray) (.agg (b.map cellOf).toArray)).run Tryd.prog W = .ok (a == b) W :=
  run_equalIn_bytes (P := Tryd.prog) W 9998 31 5 16 Tryd.underlying31 Tryd.underlying5 u8_sizeOf a b ha hb
theorem mdBytes_length (V : W4) : (mdBytes V).length = 16 := by simp [mdBytes]
theorem eq16_same (V : W4) (W : World) : (Op.equalIn 10000 31 (.agg (partB V 16).toArray) (.agg (partB V 16).toArray)).run Tryd.prog W = .ok true W := by
  rw [partB_bytes, eq16_bytes _ _ (mdBytes_length V) (mdBytes_length V)]
  simp
end Go.Proofs.YtnlhjlmjbmaipaaDoor
