/-
  A slice of whole numbers of 64 bits that came in.
-/
import Derived.Test.YtdjifjlkpimiaaaAuWords
import Derived.Test.YtdjifjlkpimiaaaPoOpen
import Derived.Deep.Slices
import Derived.ProofKit
import Derived.SizedLaws
import Derived.OpenShut
namespace Go.Proofs.Ytdjifjlkpimiaaa
open Go.RowKit
set_option maxRecDepth 100000

theorem rdi_open {w : World} {x : Addr} {len cap : Nat} {zs : List Int} (hl : len ≤ cap) (hz : zs.length = cap) (hcell : ∀ i, i < zs.length → w.cell? (x.add i) = some (.int .i64 (zs.getD i 0))) :
    ∃ l : List Int, RdI w w.heap.size (some x) len l ∧ (∀ z ∈ l, z ∈ zs) := by
  refine ⟨zs.take len, ⟨by rw [List.length_take]; omega, fun h0 => ?_⟩, fun z hz => List.mem_of_mem_take hz⟩
  obtain ⟨b, off, spot⟩ := x
  have h1 := hcell 0 (by omega)
  have hspot : spot = none := by simpa [Addr.add] using World.cell?_spot h1
  subst hspot
  have hb := World.block_lt_of_cell? _ _ h1
  refine ⟨b, off, rfl, by simpa [Addr.add] using hb, fun j hj => ?_⟩
  have h2 := hcell j (by omega)
  have e : (⟨b, off, none⟩ : Addr).add j = ⟨b, off + j, none⟩ := by
    unfold Addr.add
    split
    · subst_vars
      rfl
    · rfl
  rw [e] at h2
  rw [h2]
  have hj2 : j < zs.length := by omega
  congr 2
  unfold numAt
  simp [List.getD_eq_getElem?_getD, hj, hj2]
open Go.ChangeShapes Go.WideShapes Go.Deep
section
variable {H : Type} {enc : TypeId × Value → H}
theorem int64_bytes : Try.prog.bytesOf 2 = 8 := by kernel_rfl
theorem ints64_open {W : World} {fuel : Nat} {a : Option Addr} {n c : Nat} {d : DataW H} {p : List MemPlace} (h : DataW.trod enc Try.prog W 0 (fun _ => true) true fuel 46 [.slice a n c] = some (d, p))
    (hw : ∀ x ∈ d.weights Try.prog 46, x ≤ 140737488351232) : ∃ l : List Int, RdI W W.heap.size a n l ∧ (∀ v ∈ l, In64 v) ∧ n ≤ 17592186043904 := by
  rcases open_ints Try.underlying46 Try.underlying2 (by kernel_rfl) h with ⟨hcs, _⟩ | ⟨x, l, c', zs, hcs, _, hl, hm, hz, hx, hcell, hwz⟩
  · simp at hcs
    obtain ⟨rfl, rfl, rfl⟩ := hcs
    exact ⟨[], RdI.nil, fun v h => by simp at h, by omega⟩
  · simp at hcs
    obtain ⟨rfl, rfl, rfl⟩ := hcs
    simp only [Prod.mk.injEq] at hx
    obtain ⟨rfl, _⟩ := hx
    simp only [if_true] at hz
    have hs := hw ((zs.length) * 8) (by
      unfold DataW.weights
      rw [Try.underlying46]
      simp only [lits, List.length_map, List.length_take, List.length_drop, int64_bytes]
      refine List.mem_cons.2 (.inl ?_)
      omega)
    obtain ⟨l, hr, hmem⟩ := rdi_open hl hz hcell
    exact ⟨l, hr, fun v h => bounds_i64 (hwz v (hmem v h)), by omega⟩
end
end Go.Proofs.Ytdjifjlkpimiaaa
