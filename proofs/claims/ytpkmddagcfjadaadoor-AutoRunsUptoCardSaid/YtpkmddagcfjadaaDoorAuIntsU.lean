/-
  A slice of whole numbers that came in, the second form: few.
-/
import Derived.Test.YtpkmddagcfjadaaDoorAuInts
import Derived.Test.YtpkmddagcfjadaaDoorBulk
namespace Go.Proofs.YtpkmddagcfjadaaDoor
open Go.RowKit
set_option maxRecDepth 100000
open Go.ChangeShapes Go.WideShapes Go.Deep
section
variable {H : Type} {enc : TypeId × Value → H}
theorem ints_few {W : World} {fuel : Nat} {a : Option Addr} {n c : Nat} {d : DataW H} {p : List MemPlace} (h : DataW.trod enc Tryd.prog W 0 (fun _ => true) true fuel 22 [.slice a n c] = some (d, p))
    (hw : Rows.uptoBulk d ≤ 1048576) : ∃ l : List Int, RdI W W.heap.size a n l ∧ (a = none → c = 0) ∧ n ≤ 1048576 := by
  rcases open_ints Tryd.underlying22 Tryd.underlying3 (by kernel_rfl) h with ⟨hcs, _⟩ | ⟨x, l, c', zs, hcs, hd, hl, hm, hz, hx, hcell, hwz⟩
  · simp at hcs
    obtain ⟨rfl, rfl, rfl⟩ := hcs
    exact ⟨[], RdI.nil, fun _ => rfl, by omega⟩
  · simp at hcs
    obtain ⟨rfl, rfl, rfl⟩ := hcs
    simp only [Prod.mk.injEq] at hx
    obtain ⟨rfl, _⟩ := hx
    simp only [if_true] at hz
    have hs : Rows.uptoBulk (H := H) (.slice (lits .i64 (zs.take n)) (lits .i64 (zs.drop n))) ≤ 1048576 := hw
    rw [Rows.uptoBulk] at hs
    have h3 := bulk_len (lits (H := H) .i64 (zs.take n))
    have h4 := bulk_len (lits (H := H) .i64 (zs.drop n))
    simp only [lits, List.length_map, List.length_take, List.length_drop] at h3 h4 hs
    obtain ⟨l, hr, _⟩ := rdi_open hl hz hcell
    exact ⟨l, hr, (fun e => by cases e), by omega⟩
end
end Go.Proofs.YtpkmddagcfjadaaDoor
