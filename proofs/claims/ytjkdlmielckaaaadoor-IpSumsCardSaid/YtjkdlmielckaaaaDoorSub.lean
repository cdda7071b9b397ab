/-
  Parts of bytes that are read.
-/
import Derived.Test.YtjkdlmielckaaaaDoorNum
namespace Go.Proofs.YtjkdlmielckaaaaDoor
open Go.RowKit
set_option maxRecDepth 100000
set_option linter.unusedSimpArgs false
set_option linter.unusedVariables false

theorem Rd.sub {w : World} {B b o n p s : Nat} {l : List UInt8} (h : Rd w B (some ⟨b, o, none⟩) n l) (hs : p + s ≤ n) : Rd w B (some ⟨b, o + p, none⟩) s ((l.drop p).take s) := by
  have hl := h.1
  refine ⟨by rw [List.length_take, List.length_drop]; omega, fun h0 => ?_⟩
  obtain ⟨b', o', e, hb, hc⟩ := h.2 (by omega)
  injection e with e
  injection e with e1 e2 e3
  subst e1 e2
  refine ⟨b, o + p, rfl, hb, fun j hj => ?_⟩
  rw [Nat.add_assoc, hc (p + j) (by omega)]
  congr 2
  unfold byteAt
  rw [List.getD_eq_getElem?_getD, List.getD_eq_getElem?_getD, List.getElem?_take_of_lt hj, List.getElem?_drop]
theorem byteAt_drop (l : List UInt8) (p j : Nat) : byteAt (l.drop p) j = byteAt l (p + j) := by
  unfold byteAt
  rw [List.getD_eq_getElem?_getD, List.getD_eq_getElem?_getD, List.getElem?_drop]
theorem byteAt_take (l : List UInt8) (s j : Nat) (h : j < s) : byteAt (l.take s) j = byteAt l j := by
  unfold byteAt
  rw [List.getD_eq_getElem?_getD, List.getD_eq_getElem?_getD, List.getElem?_take_of_lt h]

end Go.Proofs.YtjkdlmielckaaaaDoor
