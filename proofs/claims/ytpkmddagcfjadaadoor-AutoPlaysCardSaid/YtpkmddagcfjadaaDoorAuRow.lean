/-
  The reference's rows of the table: tetherref10.Row.
-/
import Derived.Test.YtpkmddagcfjadaaDoorAuWords
import Derived.Test.YtpkmddagcfjadaaDoorAuMath
import Derived.Deep.Cut
namespace Go.Proofs.YtpkmddagcfjadaaDoor
open Go.RowKit
set_option maxRecDepth 100000
set_option maxHeartbeats 2000000
set_option linter.unusedSimpArgs false
set_option linter.unusedVariables false

/-- the texts of a row, as cells -/
def rowC (e : Nat) : List Value := (List.range 10).map fun s => .string ⟨(auRows.getD (e * 10 + s) []).toArray⟩
/-- the slices of the rows, built in blocks from b on -/
def rowS (b : Nat) (n : Nat) : List Value := (List.range n).map fun i => .slice (some ⟨b + i, 0, none⟩) 10 10
def rowW (w : World) : Nat → World
  | 0 => w
  | n + 1 => (rowW w n).alloc (.cells (rowC n).toArray 9)
theorem rowW_size (w : World) : ∀ n, (rowW w n).heap.size = w.heap.size + n
  | 0 => rfl
  | n + 1 => by rw [rowW, World.size_alloc, rowW_size w n]; omega
theorem rowW_below (w : World) : ∀ n, Below w.heap.size w (rowW w n)
  | 0 => Below.refl _ _
  | n + 1 => (rowW_below w n).alloc (by rw [rowW_size]; omega) _
theorem rowW_blk (w : World) : ∀ n e, e < n → Blk (rowW w n) (w.heap.size + e) 9 (rowC e)
  | n + 1, e, h => by
    rcases Nat.lt_succ_iff_lt_or_eq.1 h with h | h
    · have h1 := rowW_blk w n e h
      exact (Below.heap_alloc _ _ _ h1.lt).trans h1
    · subst h
      have h1 := blk_new (rowW w e) 9 (rowC e)
      rw [rowW_size] at h1
      exact h1
theorem row_any (e : Nat) (he : e < 16) (w : World) : Calls Tryd.prog 40 #[.int .i64 e] w fun r w' => ∃ g, r = .returned (.slice (some ⟨g, 0, none⟩) 10 10) ∧ Blk w' g 9 (rowC e) ∧ Below w.heap.size w w' := by
  have W1 : Hid (((((((((((((((((w.alloc (.cells #[.string ⟨#[47, 50]⟩, .string ⟨#[105, 114, 99, 32, 115, 99, 114, 47, 54]⟩, .string ⟨#[45]⟩, .string ⟨#[45]⟩, .string ⟨#[45]⟩, .string ⟨#[45]⟩, .string ⟨#[45]⟩, .string ⟨#[45]⟩, .string ⟨#[45]⟩, .string ⟨#[45]⟩] 9)).alloc (.cells #[.string ⟨#[45]⟩, .string ⟨#[45]⟩, .string ⟨#[47, 48]⟩, .string ⟨#[116, 108, 115, 47, 49]⟩, .string ⟨#[47, 48]⟩, .string ⟨#[47, 49]⟩, .string ⟨#[47, 49]⟩, .string ⟨#[47, 49]⟩, .string ⟨#[47, 49]⟩, .string ⟨#[116, 108, 100, 47, 49]⟩] 9)).alloc (.cells #[.string ⟨#[116, 108, 115, 47, 49]⟩, .string ⟨#[47, 49]⟩, .string ⟨#[105, 114, 99, 32, 115, 99, 114, 47, 54]⟩, .string ⟨#[47, 51]⟩, .string ⟨#[47, 53]⟩, .string ⟨#[47, 53]⟩, .string ⟨#[47, 54]⟩, .string ⟨#[47, 55]⟩, .string ⟨#[47, 56]⟩, .string ⟨#[47, 57]⟩] 9)).alloc (.cells #[.string ⟨#[47, 48]⟩, .string ⟨#[116, 108, 102, 47, 48]⟩, .string ⟨#[47, 50]⟩, .string ⟨#[47, 50]⟩, .string ⟨#[47, 52]⟩, .string ⟨#[47, 52]⟩, .string ⟨#[105, 114, 99, 32, 115, 116, 114, 47, 52]⟩, .string ⟨#[105, 114, 99, 32, 115, 116, 114, 47, 52]⟩, .string ⟨#[105, 114, 99, 32, 115, 116, 114, 47, 52]⟩, .string ⟨#[116, 108, 100, 32, 105, 114, 99, 32, 115, 116, 114, 47, 52]⟩] 9)).alloc (.cells #[.string ⟨#[45]⟩, .string ⟨#[45]⟩, .string ⟨#[45]⟩, .string ⟨#[45]⟩, .string ⟨#[115, 116, 114, 47, 52]⟩, .string ⟨#[115, 116, 114, 47, 53]⟩, .string ⟨#[115, 99, 114, 47, 54]⟩, .string ⟨#[115, 99, 114, 47, 54]⟩, .string ⟨#[115, 99, 114, 47, 56]⟩, .string ⟨#[45]⟩] 9)).alloc (.cells #[.string ⟨#[45]⟩, .string ⟨#[45]⟩, .string ⟨#[45]⟩, .string ⟨#[45]⟩, .string ⟨#[116, 108, 102, 47, 50]⟩, .string ⟨#[116, 108, 102, 47, 51]⟩, .string ⟨#[116, 108, 102, 47, 51]⟩, .string ⟨#[116, 108, 102, 47, 51]⟩, .string ⟨#[116, 108, 102, 47, 51]⟩, .string ⟨#[45]⟩] 9)).alloc (.cells #[.string ⟨#[45]⟩, .string ⟨#[45]⟩, .string ⟨#[115, 116, 97, 47, 50]⟩, .string ⟨#[105, 114, 99, 32, 115, 99, 114, 32, 115, 99, 97, 47, 56]⟩, .string ⟨#[47, 52]⟩, .string ⟨#[47, 53]⟩, .string ⟨#[115, 99, 97, 47, 56]⟩, .string ⟨#[115, 99, 97, 32, 116, 108, 117, 47, 57]⟩, .string ⟨#[115, 99, 97, 47, 56]⟩, .string ⟨#[116, 108, 100, 32, 115, 99, 114, 32, 115, 99, 97, 47, 56]⟩] 9)).alloc (.cells #[.string ⟨#[45]⟩, .string ⟨#[45]⟩, .string ⟨#[115, 116, 97, 47, 50]⟩, .string ⟨#[105, 114, 99, 32, 115, 99, 114, 32, 115, 99, 110, 47, 54]⟩, .string ⟨#[47, 52]⟩, .string ⟨#[47, 53]⟩, .string ⟨#[115, 99, 110, 47, 54]⟩, .string ⟨#[115, 99, 110, 47, 55]⟩, .string ⟨#[115, 99, 110, 47, 54]⟩, .string ⟨#[116, 108, 100, 32, 115, 99, 114, 32, 115, 99, 110, 47, 54]⟩] 9)).alloc (.cells #[.string ⟨#[45]⟩, .string ⟨#[45]⟩, .string ⟨#[115, 116, 97, 47, 50]⟩, .string ⟨#[115, 116, 97, 47, 51]⟩, .string ⟨#[47, 52]⟩, .string ⟨#[47, 53]⟩, .string ⟨#[105, 114, 99, 47, 55]⟩, .string ⟨#[115, 99, 114, 47, 54]⟩, .string ⟨#[105, 114, 99, 32, 116, 108, 117, 47, 57]⟩, .string ⟨#[116, 108, 100, 32, 115, 99, 114, 47, 54]⟩] 9)).alloc (.cells #[.string ⟨#[45]⟩, .string ⟨#[45]⟩, .string ⟨#[115, 116, 97, 47, 50]⟩, .string ⟨#[115, 116, 97, 47, 51]⟩, .string ⟨#[47, 52]⟩, .string ⟨#[47, 53]⟩, .string ⟨#[105, 114, 99, 32, 115, 99, 114, 47, 54]⟩, .string ⟨#[115, 99, 114, 47, 54]⟩, .string ⟨#[105, 114, 99, 32, 115, 99, 114, 47, 56]⟩, .string ⟨#[116, 108, 100, 32, 115, 99, 114, 47, 54]⟩] 9)).alloc (.cells #[.string ⟨#[45]⟩, .string ⟨#[45]⟩, .string ⟨#[115, 116, 97, 47, 50]⟩, .string ⟨#[115, 116, 97, 47, 51]⟩, .string ⟨#[115, 116, 97, 47, 52]⟩, .string ⟨#[115, 116, 97, 47, 53]⟩, .string ⟨#[115, 116, 97, 47, 54]⟩, .string ⟨#[115, 116, 97, 47, 54]⟩, .string ⟨#[115, 116, 97, 47, 54]⟩, .string ⟨#[116, 108, 100, 32, 122, 114, 99, 32, 115, 116, 97, 47, 53]⟩] 9)).alloc (.cells #[.string ⟨#[45]⟩, .string ⟨#[45]⟩, .string ⟨#[47, 50]⟩, .string ⟨#[47, 51]⟩, .string ⟨#[116, 108, 102, 47, 50]⟩, .string ⟨#[116, 108, 102, 47, 51]⟩, .string ⟨#[47, 54]⟩, .string ⟨#[47, 54]⟩, .string ⟨#[47, 56]⟩, .string ⟨#[116, 108, 100, 32, 115, 99, 114, 47, 54]⟩] 9)).alloc (.cells #[.string ⟨#[45]⟩, .string ⟨#[45]⟩, .string ⟨#[115, 99, 106, 47, 50]⟩, .string ⟨#[115, 99, 106, 47, 51]⟩, .string ⟨#[115, 99, 106, 47, 52]⟩, .string ⟨#[115, 99, 106, 47, 53]⟩, .string ⟨#[115, 99, 106, 47, 54]⟩, .string ⟨#[115, 99, 106, 47, 55]⟩, .string ⟨#[115, 99, 106, 47, 56]⟩, .string ⟨#[115, 99, 106, 47, 57]⟩] 9)).alloc (.cells #[.string ⟨#[45]⟩, .string ⟨#[45]⟩, .string ⟨#[47, 50]⟩, .string ⟨#[47, 51]⟩, .string ⟨#[47, 52]⟩, .string ⟨#[47, 53]⟩, .string ⟨#[47, 54]⟩, .string ⟨#[47, 54]⟩, .string ⟨#[47, 56]⟩, .string ⟨#[47, 57]⟩] 9)).alloc (.cells #[.string ⟨#[45]⟩, .string ⟨#[45]⟩, .string ⟨#[116, 108, 102, 47, 50]⟩, .string ⟨#[116, 108, 102, 47, 51]⟩, .string ⟨#[116, 108, 102, 47, 50]⟩, .string ⟨#[116, 108, 102, 47, 51]⟩, .string ⟨#[116, 108, 102, 47, 51]⟩, .string ⟨#[116, 108, 102, 47, 51]⟩, .string ⟨#[116, 108, 102, 47, 51]⟩, .string ⟨#[116, 108, 100, 32, 105, 114, 99, 32, 115, 116, 114, 47, 53]⟩] 9)).alloc (.cells #[.string ⟨#[45]⟩, .string ⟨#[45]⟩, .string ⟨#[47, 50]⟩, .string ⟨#[47, 51]⟩, .string ⟨#[47, 52]⟩, .string ⟨#[47, 53]⟩, .string ⟨#[47, 54]⟩, .string ⟨#[47, 55]⟩, .string ⟨#[47, 56]⟩, .string ⟨#[115, 101, 114, 47, 57]⟩] 9)).alloc (.cells #[.slice (some ⟨w.heap.size, 0, none⟩) 10 10, .slice (some ⟨w.heap.size + 1, 0, none⟩) 10 10, .slice (some ⟨w.heap.size + 1 + 1, 0, none⟩) 10 10, .slice (some ⟨w.heap.size + 1 + 1 + 1, 0, none⟩) 10 10, .slice (some ⟨w.heap.size + 1 + 1 + 1 + 1, 0, none⟩) 10 10, .slice (some ⟨w.heap.size + 1 + 1 + 1 + 1 + 1, 0, none⟩) 10 10, .slice (some ⟨w.heap.size + 1 + 1 + 1 + 1 + 1 + 1, 0, none⟩) 10 10, .slice (some ⟨w.heap.size + 1 + 1 + 1 + 1 + 1 + 1 + 1, 0, none⟩) 10 10, .slice (some ⟨w.heap.size + 1 + 1 + 1 + 1 + 1 + 1 + 1 + 1, 0, none⟩) 10 10, .slice (some ⟨w.heap.size + 1 + 1 + 1 + 1 + 1 + 1 + 1 + 1 + 1, 0, none⟩) 10 10, .slice (some ⟨w.heap.size + 1 + 1 + 1 + 1 + 1 + 1 + 1 + 1 + 1 + 1, 0, none⟩) 10 10, .slice (some ⟨w.heap.size + 1 + 1 + 1 + 1 + 1 + 1 + 1 + 1 + 1 + 1 + 1, 0, none⟩) 10 10, .slice (some ⟨w.heap.size + 1 + 1 + 1 + 1 + 1 + 1 + 1 + 1 + 1 + 1 + 1 + 1, 0, none⟩) 10 10, .slice (some ⟨w.heap.size + 1 + 1 + 1 + 1 + 1 + 1 + 1 + 1 + 1 + 1 + 1 + 1 + 1, 0, none⟩) 10 10, .slice (some ⟨w.heap.size + 1 + 1 + 1 + 1 + 1 + 1 + 1 + 1 + 1 + 1 + 1 + 1 + 1 + 1, 0, none⟩) 10 10, .slice (some ⟨w.heap.size + 1 + 1 + 1 + 1 + 1 + 1 + 1 + 1 + 1 + 1 + 1 + 1 + 1 + 1 + 1, 0, none⟩) 10 10] 65) = (rowW w 16).alloc (.cells (rowS w.heap.size 16).toArray 65)) := by rfl
  obtain ⟨W2, hW2⟩ : ∃ W2, W2 = (rowW w 16).alloc (.cells (rowS w.heap.size 16).toArray 65) := ⟨_, rfl⟩
  have hB : Blk W2 (w.heap.size + 16) 65 (rowS w.heap.size 16) := by
    rw [hW2]
    have h := blk_new (rowW w 16) 65 (rowS w.heap.size 16)
    rwa [rowW_size] at h
  have hR : Blk W2 (w.heap.size + e) 9 (rowC e) := by
    rw [hW2]
    have h := rowW_blk w 16 e he
    exact (Below.heap_alloc _ _ _ h.lt).trans h
  have hL : Below w.heap.size w W2 := by
    rw [hW2]
    exact (rowW_below w 16).alloc (by rw [rowW_size]; omega) _
  have hc : W2.cell? ⟨w.heap.size + 1 + 1 + 1 + 1 + 1 + 1 + 1 + 1 + 1 + 1 + 1 + 1 + 1 + 1 + 1 + 1, e, none⟩ = some (.slice (some ⟨w.heap.size + e, 0, none⟩) 10 10) := by
    refine (hB.cell e).trans ?_
    unfold rowS
    rw [List.getElem?_map, List.getElem?_range he]
    rfl
  have HR := Lib.hid hR
  have HL := Lib.hid hL
  have HW := Lib.hid (W1.out.trans hW2.symm)
  clear W1 hW2 hB hR hL
  go_enter Tryd.func40, Tryd.ntmps40
  go_upto_region 2 with (fail)
  rw [HW.out]
  clear HW
  go_wp2
  go_ret
  exact ⟨_, rfl, HR.out, HL.out⟩
end Go.Proofs.YtpkmddagcfjadaaDoor
