/-
  x[k:] of a slice of bytes: what it reads as.
-/
import Derived.Test.YtlpboleclehilaaDoorBase
import Derived.Laws.Slices
namespace Go.Proofs.YtlpboleclehilaaDoor
open Go.RowKit
set_option maxRecDepth 100000
set_option linter.unusedSimpArgs false
set_option linter.unusedVariables false

theorem byte_sizeOf (w : World) : (Go.sizeOf 5).run Tryd.prog w = .ok 1 w := by kernel_rfl
theorem slice_elem : Tryd.prog.elem 51 = 5 := by kernel_rfl
theorem slice_from (A : Option Addr) (n c B k : Nat) (l : List UInt8) (w : World) (hr : Rd w B A n l) (hc : n ≤ c) (hnil : A = none → c = 0) (hk : k ≤ n) :
    ∃ A' c', (∀ W, (Instr.slice 51 (.slice A n c) (some (.int .i64 (k : Int))) none none).run Tryd.prog W = .ok (.slice A' (n - k) c') W) ∧ Rd w B A' (n - k) (l.drop k) ∧ (A' = none → c' = 0) ∧ n - k ≤ c' := by
  have hl := hr.1
  have hrun : ∀ W, (Instr.slice 51 (.slice A n c) (some (.int .i64 (k : Int))) none none).run Tryd.prog W = .ok (sliced A k n c 1) W := by
    intro W
    rw [run_slice_l W 51 _ _ _ (by rw [slice_elem]; exact Tryd.underlying51) .i64 _ (by omega) (by omega), slice_elem, byte_sizeOf]
    rfl
  refine ⟨if c = k then A else A.map (·.add (k * 1)), c - k, hrun, ⟨by rw [List.length_drop]; omega, fun h0 => ?_⟩, fun h => ?_, by omega⟩
  · obtain ⟨b, off, rfl, hb, hcell⟩ := hr.2 (by omega)
    refine ⟨b, off + k, ?_, hb, fun j hj => ?_⟩
    · rw [if_neg (by omega), Nat.mul_one]
      show some _ = some _
      congr 1
      unfold Addr.add
      split
      · subst_vars
        rfl
      · rfl
    · rw [Nat.add_assoc, hcell (k + j) (by omega)]
      congr 2
      unfold byteAt
      rw [List.getD_eq_getElem?_getD, List.getD_eq_getElem?_getD, List.getElem?_drop]
  · by_cases hck : c = k
    · omega
    · rw [if_neg hck] at h
      cases A with
      | none => have := hnil rfl; omega
      | some x => cases h
end Go.Proofs.YtlpboleclehilaaDoor
