/-
  Small facts on bytes and bits.
-/
import Derived.Test.YtdnheiefbecaeaaDoorNext16
import Derived.Test.YtdnheiefbecaeaaDoorNext32
namespace Go.Proofs.YtdnheiefbecaeaaDoor
open Go.RowKit
set_option linter.unusedSimpArgs false
set_option linter.unusedVariables false

theorem byteAt_drop0 (l : List UInt8) (k : Nat) (h : k < l.length) : ∃ c : UInt8, l.drop k = c :: l.drop (k + 1) ∧ byteAt l k = ((c.toNat : Nat) : Int) := by
  refine ⟨l[k], List.drop_eq_getElem_cons h, byteAt_eq l k h⟩
theorem odd_and (V : Nat) (h : V < 2 ^ 32) : bits .and .u32 (V : Int) 1 = ((V % 2 : Nat) : Int) := by
  have h2 := u32_and_nat V 1 (by omega) (by omega)
  rw [show V &&& 1 = V % 2 from Nat.and_two_pow_sub_one_eq_mod V 1] at h2
  exact h2

end Go.Proofs.YtdnheiefbecaeaaDoor
