/-
  tetherlaw12.kept.
-/
import Derived.Test.YtglboagjmbjehaaPaLent
namespace Go.Proofs.Ytglboagjmbjehaa
open Go.RowKit Go.Shelf
set_option maxRecDepth 100000
set_option maxHeartbeats 4000000
set_option linter.unusedSimpArgs false
set_option linter.unusedVariables false

theorem slice_more (g n cap : Nat) (hi : n + 1 ≤ cap) : ∀ W, (Instr.slice 36 (.slice (some ⟨g, 0, none⟩) n cap) none (some (.int .i64 ((n : Int) + 1))) none).run Try.prog W = .ok (.slice (some ⟨g, 0, none⟩) (n + 1) cap) W := by
  intro W
  rw [run_slice_h W 36 _ _ _ (by rw [slice_elem]; exact Try.underlying36) .i64 _ (by omega) (by omega), slice_elem, byte_sizeOf]
  simp only [Result.andThen_ok, sliced, Nat.sub_zero]
  rw [show ((n : Int) + 1).toNat = n + 1 by omega]
  congr 2
  split
  · rfl
  · show some _ = some _
    congr 1
theorem kept_pk (C I : Int) (A : Option Addr) (n c B base g cap : Nat) (l : List UInt8) (w : World) (ho : LentAt w base l n g cap) (hr : Rd w B A n l) (hB : B ≤ w.heap.size) (hc : n ≤ c) (hm : n ≤ 140737488351232) :
    Calls Try.prog 16 #[.agg #[.int .i64 C, .int .i64 I, .slice (some ⟨g, 0, none⟩) n cap], .agg #[.int .i64 C, .int .i64 I, .slice A n c]] w fun e w' => e = .returned (.bool true) ∧ Below w.heap.size w w' := by
  obtain ⟨ho, hcap⟩ := ho
  have hl := hr.1
  have hlen : n + 1 = (l ++ [77]).length := by simp [hl]
  have hrd := ho.rd hlen n (by omega)
  rw [List.take_append_of_le_length (by omega), List.take_of_length_le (by omega)] at hrd
  have hlast := ho.cell hlen n (by omega)
  have e77 : byteAt (l ++ [77]) n = 77 := by
    rw [byteAt_eq _ _ (by omega)]
    simp [← hl]
  rw [e77] at hlast
  have hgw : g < w.heap.size := World.block_lt_of_cell? w _ hlast
  obtain ⟨V, hV⟩ : ∃ V, (w.alloc (.cells #[.int .i64 C, .int .i64 I, .slice (some ⟨g, 0, none⟩) n cap] 38)).alloc (.cells #[.int .i64 C, .int .i64 I, .slice A n c] 38) = V := ⟨_, rfl⟩
  have bV : Below w.heap.size w V := by rw [← hV]; exact ((Below.refl _ _).alloc (Nat.le_refl _) _).alloc (by simp) _
  have zV : V.heap.size = w.heap.size + 2 := by rw [← hV]; simp
  have h0 : Blk V w.heap.size 38 [.int .i64 C, .int .i64 I, .slice (some ⟨g, 0, none⟩) n cap] := by
    rw [← hV]
    exact (Below.heap_alloc _ _ _ (by simp)).trans (heap_alloc_new w _)
  have h1 : Blk V (w.heap.size + 1) 38 [.int .i64 C, .int .i64 I, .slice A n c] := by
    rw [← hV]
    have h := heap_alloc_new (w.alloc (.cells #[.int .i64 C, .int .i64 I, .slice (some ⟨g, 0, none⟩) n cap] 38)) (.cells #[.int .i64 C, .int .i64 I, .slice A n c] 38)
    rw [World.size_alloc] at h
    exact h
  have SM : Hid (Calls Try.prog 15 #[.agg #[.int .i64 C, .int .i64 I, .slice (some ⟨g, 0, none⟩) n cap], .agg #[.int .i64 C, .int .i64 I, .slice A n c]] V.drew fun e w' => e = .returned (.bool true) ∧
      w'.cell? ⟨w.heap.size, 0, none⟩ = some (.int .i64 C) ∧ w'.cell? ⟨w.heap.size, 1, none⟩ = some (.int .i64 I) ∧ w'.cell? ⟨w.heap.size, 2, none⟩ = some (.slice (some ⟨g, 0, none⟩) n cap) ∧
      w'.cell? ⟨w.heap.size + 1, 0, none⟩ = some (.int .i64 C) ∧ w'.cell? ⟨w.heap.size + 1, 1, none⟩ = some (.int .i64 I) ∧ w'.cell? ⟨w.heap.size + 1, 2, none⟩ = some (.slice A n c) ∧ w'.cell? ⟨g, n, none⟩ = some (.int .u8 77) ∧ Below w.heap.size w w') := by
    have bD : Below w.heap.size w V.drew := below_drewS bV 1
    have h := same_any C I C I (some ⟨g, 0, none⟩) A n cap n c V.drew.heap.size l l V.drew ((hrd.below bD).wide bD.size) ((hr.below (bD.mono hB)).wide (Nat.le_trans hB bD.size)) (Nat.le_refl _)
    have hs : sameP C I l C I l = true := sameP_iff.2 ⟨rfl, rfl, rfl⟩
    rw [hs] at h
    refine h.mono ?_
    rintro e w' ⟨rfl, b⟩
    have hb : Below V.heap.size V w' := (below_drewS (Below.refl _ V) 1).trans b
    have p0 : Blk w' w.heap.size 38 _ := (hb.block _ (by omega)).trans h0
    have p1 : Blk w' (w.heap.size + 1) 38 _ := (hb.block _ (by omega)).trans h1
    have bw := bV.trans (hb.mono bV.size)
    exact ⟨rfl, p0.cell 0, p0.cell 1, p0.cell 2, p1.cell 0, p1.cell 1, p1.cell 2, (bw.cell hgw).trans hlast, bw⟩
  have x0 : V.cell? ⟨w.heap.size, 0, none⟩ = some (.int .i64 C) := h0.cell 0
  have x1 : V.cell? ⟨w.heap.size, 1, none⟩ = some (.int .i64 I) := h0.cell 1
  have x2 : V.cell? ⟨w.heap.size, 2, none⟩ = some (.slice (some ⟨g, 0, none⟩) n cap) := h0.cell 2
  have y0 : V.cell? ⟨w.heap.size + 1, 0, none⟩ = some (.int .i64 C) := h1.cell 0
  have y1 : V.cell? ⟨w.heap.size + 1, 1, none⟩ = some (.int .i64 I) := h1.cell 1
  have y2 : V.cell? ⟨w.heap.size + 1, 2, none⟩ = some (.slice A n c) := h1.cell 2
  have z77 : V.cell? ⟨g, n, none⟩ = some (.int .u8 77) := (bV.cell hgw).trans hlast
  have HV := Lib.hid hV
  have hsl := slice_more g n cap hcap
  have i3 : (n : Int) < (n : Int) + 1 := by omega
  have i4 : (0 : Int) ≤ (n : Int) := by omega
  have i5 : (n : Int) + 1 ≤ (cap : Int) := by omega
  have i6 : (0 : Int) ≤ (n : Int) + 1 := by omega
  have i7 : IntKind.i64.wrap ((n : Int) + 1) = (n : Int) + 1 := by rw [IntKind.wrap_i64]; omega
  have i8 : ((n : Int) + 1).toNat = n + 1 := by omega
  clear ho hr hl hlen hrd hlast e77 hV bV h0 h1
  go_enter Try.func16, Try.ntmps16
  go_upto_region 1 with (fail)
  rw [HV.out]
  go_region_held3 (fun w' => w'.cell? ⟨w.heap.size, 0, none⟩ = some (.int .i64 C) ∧ w'.cell? ⟨w.heap.size, 1, none⟩ = some (.int .i64 I) ∧ w'.cell? ⟨w.heap.size, 2, none⟩ = some (.slice (some ⟨g, 0, none⟩) n cap) ∧
      w'.cell? ⟨w.heap.size + 1, 0, none⟩ = some (.int .i64 C) ∧ w'.cell? ⟨w.heap.size + 1, 1, none⟩ = some (.int .i64 I) ∧ w'.cell? ⟨w.heap.size + 1, 2, none⟩ = some (.slice A n c) ∧ w'.cell? ⟨g, n, none⟩ = some (.int .u8 77)) (go_keep) (first
    | (go_at_call 15; ((with_reducible refine SM.out.mono ?_); rintro e w2 ⟨rfl, q0, q1, q2, q3, q4, q5, q6, hb⟩; have HB := Lib.hid hb; clear hb)))
  all_goals
    go_wp2
    go_ret
    exact ⟨rfl, HB.out⟩
end Go.Proofs.Ytglboagjmbjehaa
