/-
  A slice of bytes that came in, as the walks are told of it.
-/
import Derived.Test.YtjkdlmielckaaaaDoorMath
import Derived.OpenShut
namespace Go.Proofs.YtjkdlmielckaaaaDoor
open Go.RowKit

theorem rd_open {w : World} {x : Addr} {len cap : Nat} {zs : List Int} (hl : len ≤ cap) (hz : zs.length = cap) (hcell : ∀ i, i < zs.length → w.cell? (x.add i) = some (.int .u8 (zs.getD i 0)))
    (hwz : ∀ n ∈ zs, (Lit.int .u8 n).wf = true) : ∃ l : List UInt8, Rd w w.heap.size (some x) len l := by
  refine ⟨(zs.take len).map fun n => UInt8.ofNat n.toNat, by rw [List.length_map, List.length_take]; omega, fun h0 => ?_⟩
  obtain ⟨b, off, spot⟩ := x
  have h1 := hcell 0 (by omega)
  have hspot : spot = none := by simpa [Addr.add] using World.cell?_spot h1
  subst hspot
  have hb := World.block_lt_of_cell? _ _ h1
  refine ⟨b, off, rfl, by simpa [Addr.add] using hb, fun j hj => ?_⟩
  have h2 := hcell j (by omega)
  have e : (⟨b, off, none⟩ : Addr).add j = ⟨b, off + j, none⟩ := by
    unfold Addr.add
    split
    · subst_vars
      rfl
    · rfl
  rw [e] at h2
  rw [h2]
  have hw := range_u8 hwz j
  have hj2 : j < zs.length := by omega
  congr 2
  unfold byteAt
  simp [List.getD_eq_getElem?_getD, hj, hj2] at hw ⊢
  omega
end Go.Proofs.YtjkdlmielckaaaaDoor
