/-
  What a call that was lent bytes keeps.
-/
import Derived.Test.YtamcoppfjmggcaaDoorRefPut2
import Derived.Test.YtamcoppfjmggcaaDoorRefSums16
import Derived.Test.YtamcoppfjmggcaaDoorRefSums32
namespace Go.Proofs.YtamcoppfjmggcaaDoor
open Go.RowKit
set_option maxRecDepth 100000
set_option maxHeartbeats 1000000
set_option linter.unusedSimpArgs false
set_option linter.unusedVariables false

/-- what a call that was lent bytes keeps: the copy, and all that was there -/
structure Keeps (w : World) (A : Option Addr) (n c g cap : Nat) (l : List UInt8) (W : World) : Prop where
  below : Below w.heap.size w W
  own : Own W w.heap.size (.slice (some ⟨g, 0, none⟩) (n + 1) cap) (l ++ [77])
  rd : Rd W w.heap.size A n l

theorem Keeps.later {w W W' : World} {A : Option Addr} {n c g cap : Nat} {l : List UInt8} (h : Keeps w A n c g cap l W) (hB : Below W.heap.size W W') : Keeps w A n c g cap l W' :=
  ⟨h.below.trans (hB.mono h.below.size), h.own.later hB, h.rd.below (hB.mono h.below.size)⟩
theorem Keeps.grown {w W W' : World} {A : Option Addr} {n c g cap : Nat} {l : List UInt8} {k : Nat} (h : Keeps w A n c g cap l W) (hG : W.grownBy W' (some k)) (hk : w.heap.size ≤ k) (hne : k ≠ g) : Keeps w A n c g cap l W' :=
  ⟨h.below.grown hG h.below.size (by intro j hj; injection hj with hj; omega), h.own.grown hG (.inr (by simp [Value.ownBlock]; omega)), h.rd.grown hG h.below.size (by intro j hj; injection hj with hj; omega)⟩
theorem Keeps.drewN {w W : World} {A : Option Addr} {n c g cap : Nat} {l : List UInt8} (h : Keeps w A n c g cap l W) (k : Nat) : Keeps w A n c g cap l (W.drewN k) := h.later (below_drewN (Below.refl _ _) k)
theorem Keeps.read {w W : World} {A : Option Addr} {n c g cap : Nat} {l : List UInt8} (h : Keeps w A n c g cap l W) : Rd W W.heap.size (some ⟨g, 0, none⟩) n l := by
  have hl := h.rd.1
  have h2 := h.own.rd (by rw [List.length_append]; simp; omega) n (by omega)
  rw [List.take_append_of_le_length (by omega), List.take_of_length_le (by omega)] at h2
  exact h2

/-- the two slices that are told apart by where they lie -/
theorem own_form_rd {w : World} {base : Nat} {v : Value} {l : List UInt8} (h : Own w base v l) :
    ∃ A c, v = .slice A l.length c ∧ Rd w w.heap.size A l.length l := by
  rcases h.form with ⟨rfl, rfl⟩ | ⟨g, cap, rfl, _, _, _⟩
  · exact ⟨none, 0, rfl, Rd.nil⟩
  · have h2 := h.rd rfl l.length (Nat.le_refl _)
    rw [List.take_of_length_le (Nat.le_refl _)] at h2
    exact ⟨some ⟨g, 0, none⟩, cap, rfl, h2⟩
end Go.Proofs.YtamcoppfjmggcaaDoor
