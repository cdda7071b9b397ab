/-
  md5.Sum, as a plain call; digests as bytes.
-/
import Derived.Test.YtjimoegegigoiaaDoorMdSum
namespace Go.Proofs.YtjimoegegigoiaaDoor
open Go.RowKit Go.Shelf
set_option maxRecDepth 100000
set_option maxHeartbeats 1000000
set_option linter.unusedSimpArgs false
set_option linter.unusedVariables false

theorem sum_any (A : Option Addr) (nn c B : Nat) (l : List UInt8) (w : World) (hr : Rd w B A nn l) (hB : B ≤ w.heap.size) (hc : nn ≤ c) (hnil : A = none → c = 0) (hm : nn ≤ 140737488351240) (hK : TabK w) (hS : TabS w) :
    Calls Tryd.prog 53 #[.slice A nn c] w fun e w' => e = .returned (.agg (partB (mdOver (mdPad l) ((mdPad l).length / 64)) 16).toArray) ∧ Below w.heap.size w w' :=
  callsIn_wide.1 (sum_in A nn c B l w hr hB hc hnil hm hK hS)
theorem mdByte_in (V : W4) (k : Nat) : 0 ≤ mdByte V k ∧ mdByte V k < 256 := by
  unfold mdByte
  omega
theorem partB_bytes (V : W4) : partB V 16 = (mdBytes V).map cellOf := by
  unfold partB mdBytes
  rw [List.map_map]
  refine List.map_congr_left fun j hj => ?_
  have hj : j < 16 := by simpa using hj
  have h := mdByte_in V j
  rw [if_pos hj]
  show Value.int .u8 _ = Value.int .u8 _
  congr 1
  simp [UInt8.toNat_ofNat']
  omega
theorem rd_partB {w : World} {g : Nat} {V : W4} (h : Blk w g 55 (partB V 16)) : Rd w w.heap.size (some ⟨g, 0, none⟩) 16 (mdBytes V) := by
  rw [partB_bytes] at h
  refine ⟨by simp [mdBytes], fun _ => ⟨g, 0, rfl, Blk.lt h, fun j hj => ?_⟩⟩
  rw [Nat.zero_add, h.cell, cells_at _ j (by simpa [mdBytes] using hj)]
theorem rd_built3 (W : World) (l : List UInt8) (fr : Nat × Nat) : Rd (W.alloc (.cells (l.map cellOf).toArray 5 fr)) (W.heap.size + 1) (some ⟨W.heap.size, 0, none⟩) l.length l := by
  refine ⟨rfl, fun _ => ⟨W.heap.size, 0, rfl, by omega, fun j hj => ?_⟩⟩
  rw [cell_of_row _ W.heap.size (0 + j) _ _ fr (heap_alloc_new W _), Nat.zero_add]
  simpa using cells_at l j hj
theorem TabK.alloc {w : World} (h : TabK w) (o : Obj) : TabK (w.alloc o) := h.kept ((Below.refl _ _).alloc (Nat.le_refl _) _)
theorem TabS.alloc {w : World} (h : TabS w) (o : Obj) : TabS (w.alloc o) := h.kept ((Below.refl _ _).alloc (Nat.le_refl _) _)
end Go.Proofs.YtjimoegegigoiaaDoor
