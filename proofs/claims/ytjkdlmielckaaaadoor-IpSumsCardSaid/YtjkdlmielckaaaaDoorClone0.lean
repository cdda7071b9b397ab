/-
  A block that is known whole is a slice of the call's own.
-/
import Derived.Test.YtjkdlmielckaaaaDoorBase
import Derived.Lib.Hide
namespace Go.Proofs.YtjkdlmielckaaaaDoor
open Go.RowKit
theorem own_of_blk {w : World} {base g : Nat} {l : List UInt8} (h : Blk w g 5 (l.map cellOf)) (hb : base ≤ g) (hm : l.length ≤ 140737488420864) :
    Own w base (.slice (some ⟨g, 0, none⟩) l.length l.length) l := by
  refine ⟨by simp, .inr ⟨g, l.length, _, rfl, hb, h, Nat.le_refl _, by unfold maxLen; omega, by simp, by rw [Nat.mul_one]; exact List.take_of_length_le (by simp)⟩⟩
end Go.Proofs.YtjkdlmielckaaaaDoor
