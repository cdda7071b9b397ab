/-
  phase.entry of rows, rowOf, Next: the table.
-/
import Derived.Test.YtandakinbcfleaaPhEntry
namespace Go.Proofs.Ytandakinbcfleaa
open Go.RowKit
set_option maxRecDepth 100000
set_option maxHeartbeats 2000000
set_option linter.unusedSimpArgs false
set_option linter.unusedVariables false

theorem info9 : (Try.prog.info? 52).map (·.size) = some 9 := by kernel_rfl
theorem entryR_0 (g c : Nat) (w : World) (hb : Blk w g 52 (phT.map fun z => .int .i64 z)) :
    Calls Try.prog 39 #[.int .i64 0, .slice (some ⟨g, 0, none⟩) 5 c] w fun e w' => e = .returned (.agg #[.int .i64 2, .int .i64 1, .int .i64 0, .int .i64 0, .int .i64 1, .int .i64 0, .int .i64 0, .int .i64 0, .int .i64 1]) ∧ Below w.heap.size w w' := by
  have h0 : w.cell? ⟨g, 0, none⟩ = some (.int .i64 2) := hb.cell 0
  have h1 : w.cell? ⟨g, 1, none⟩ = some (.int .i64 1) := hb.cell 1
  have h2 : w.cell? ⟨g, 2, none⟩ = some (.int .i64 0) := hb.cell 2
  have h3 : w.cell? ⟨g, 3, none⟩ = some (.int .i64 0) := hb.cell 3
  have h4 : w.cell? ⟨g, 4, none⟩ = some (.int .i64 1) := hb.cell 4
  have h5 : w.cell? ⟨g, 5, none⟩ = some (.int .i64 0) := hb.cell 5
  have h6 : w.cell? ⟨g, 6, none⟩ = some (.int .i64 0) := hb.cell 6
  have h7 : w.cell? ⟨g, 7, none⟩ = some (.int .i64 0) := hb.cell 7
  have h8 : w.cell? ⟨g, 8, none⟩ = some (.int .i64 1) := hb.cell 8
  have hl : g < w.heap.size := hb.lt
  clear hb
  go_enter Try.func39, Try.ntmps39
  go_wp2
  exact bodyPost_ret (v := .agg #[.int .i64 2, .int .i64 1, .int .i64 0, .int .i64 0, .int .i64 1, .int .i64 0, .int .i64 0, .int .i64 0, .int .i64 1]) (by simp [results, Try.results39, go_sem]) rfl ⟨rfl, (Below.refl _ _).alloc (Nat.le_refl _) _⟩
theorem entryR_1 (g c : Nat) (w : World) (hb : Blk w g 52 (phT.map fun z => .int .i64 z)) :
    Calls Try.prog 39 #[.int .i64 1, .slice (some ⟨g, 0, none⟩) 5 c] w fun e w' => e = .returned (.agg #[.int .i64 0, .int .i64 1, .int .i64 0, .int .i64 2, .int .i64 1, .int .i64 0, .int .i64 0, .int .i64 0, .int .i64 5]) ∧ Below w.heap.size w w' := by
  have h0 : w.cell? ⟨g, 9, none⟩ = some (.int .i64 0) := hb.cell 9
  have h1 : w.cell? ⟨g, 10, none⟩ = some (.int .i64 1) := hb.cell 10
  have h2 : w.cell? ⟨g, 11, none⟩ = some (.int .i64 0) := hb.cell 11
  have h3 : w.cell? ⟨g, 12, none⟩ = some (.int .i64 2) := hb.cell 12
  have h4 : w.cell? ⟨g, 13, none⟩ = some (.int .i64 1) := hb.cell 13
  have h5 : w.cell? ⟨g, 14, none⟩ = some (.int .i64 0) := hb.cell 14
  have h6 : w.cell? ⟨g, 15, none⟩ = some (.int .i64 0) := hb.cell 15
  have h7 : w.cell? ⟨g, 16, none⟩ = some (.int .i64 0) := hb.cell 16
  have h8 : w.cell? ⟨g, 17, none⟩ = some (.int .i64 5) := hb.cell 17
  have hl : g < w.heap.size := hb.lt
  clear hb
  go_enter Try.func39, Try.ntmps39
  go_wp2
  exact bodyPost_ret (v := .agg #[.int .i64 0, .int .i64 1, .int .i64 0, .int .i64 2, .int .i64 1, .int .i64 0, .int .i64 0, .int .i64 0, .int .i64 5]) (by simp [results, Try.results39, go_sem]) rfl ⟨rfl, (Below.refl _ _).alloc (Nat.le_refl _) _⟩
theorem entryR_2 (g c : Nat) (w : World) (hb : Blk w g 52 (phT.map fun z => .int .i64 z)) :
    Calls Try.prog 39 #[.int .i64 2, .slice (some ⟨g, 0, none⟩) 5 c] w fun e w' => e = .returned (.agg #[.int .i64 0, .int .i64 1, .int .i64 0, .int .i64 2, .int .i64 5, .int .i64 0, .int .i64 0, .int .i64 5, .int .i64 5]) ∧ Below w.heap.size w w' := by
  have h0 : w.cell? ⟨g, 18, none⟩ = some (.int .i64 0) := hb.cell 18
  have h1 : w.cell? ⟨g, 19, none⟩ = some (.int .i64 1) := hb.cell 19
  have h2 : w.cell? ⟨g, 20, none⟩ = some (.int .i64 0) := hb.cell 20
  have h3 : w.cell? ⟨g, 21, none⟩ = some (.int .i64 2) := hb.cell 21
  have h4 : w.cell? ⟨g, 22, none⟩ = some (.int .i64 5) := hb.cell 22
  have h5 : w.cell? ⟨g, 23, none⟩ = some (.int .i64 0) := hb.cell 23
  have h6 : w.cell? ⟨g, 24, none⟩ = some (.int .i64 0) := hb.cell 24
  have h7 : w.cell? ⟨g, 25, none⟩ = some (.int .i64 5) := hb.cell 25
  have h8 : w.cell? ⟨g, 26, none⟩ = some (.int .i64 5) := hb.cell 26
  have hl : g < w.heap.size := hb.lt
  clear hb
  go_enter Try.func39, Try.ntmps39
  go_wp2
  exact bodyPost_ret (v := .agg #[.int .i64 0, .int .i64 1, .int .i64 0, .int .i64 2, .int .i64 5, .int .i64 0, .int .i64 0, .int .i64 5, .int .i64 5]) (by simp [results, Try.results39, go_sem]) rfl ⟨rfl, (Below.refl _ _).alloc (Nat.le_refl _) _⟩
theorem entryR_3 (g c : Nat) (w : World) (hb : Blk w g 52 (phT.map fun z => .int .i64 z)) :
    Calls Try.prog 39 #[.int .i64 3, .slice (some ⟨g, 0, none⟩) 5 c] w fun e w' => e = .returned (.agg #[.int .i64 0, .int .i64 1, .int .i64 0, .int .i64 2, .int .i64 5, .int .i64 0, .int .i64 0, .int .i64 5, .int .i64 5]) ∧ Below w.heap.size w w' := by
  have h0 : w.cell? ⟨g, 27, none⟩ = some (.int .i64 0) := hb.cell 27
  have h1 : w.cell? ⟨g, 28, none⟩ = some (.int .i64 1) := hb.cell 28
  have h2 : w.cell? ⟨g, 29, none⟩ = some (.int .i64 0) := hb.cell 29
  have h3 : w.cell? ⟨g, 30, none⟩ = some (.int .i64 2) := hb.cell 30
  have h4 : w.cell? ⟨g, 31, none⟩ = some (.int .i64 5) := hb.cell 31
  have h5 : w.cell? ⟨g, 32, none⟩ = some (.int .i64 0) := hb.cell 32
  have h6 : w.cell? ⟨g, 33, none⟩ = some (.int .i64 0) := hb.cell 33
  have h7 : w.cell? ⟨g, 34, none⟩ = some (.int .i64 5) := hb.cell 34
  have h8 : w.cell? ⟨g, 35, none⟩ = some (.int .i64 5) := hb.cell 35
  have hl : g < w.heap.size := hb.lt
  clear hb
  go_enter Try.func39, Try.ntmps39
  go_wp2
  exact bodyPost_ret (v := .agg #[.int .i64 0, .int .i64 1, .int .i64 0, .int .i64 2, .int .i64 5, .int .i64 0, .int .i64 0, .int .i64 5, .int .i64 5]) (by simp [results, Try.results39, go_sem]) rfl ⟨rfl, (Below.refl _ _).alloc (Nat.le_refl _) _⟩
theorem entryR_4 (g c : Nat) (w : World) (hb : Blk w g 52 (phT.map fun z => .int .i64 z)) :
    Calls Try.prog 39 #[.int .i64 4, .slice (some ⟨g, 0, none⟩) 5 c] w fun e w' => e = .returned (.agg #[.int .i64 0, .int .i64 1, .int .i64 0, .int .i64 5, .int .i64 1, .int .i64 0, .int .i64 0, .int .i64 5, .int .i64 5]) ∧ Below w.heap.size w w' := by
  have h0 : w.cell? ⟨g, 36, none⟩ = some (.int .i64 0) := hb.cell 36
  have h1 : w.cell? ⟨g, 37, none⟩ = some (.int .i64 1) := hb.cell 37
  have h2 : w.cell? ⟨g, 38, none⟩ = some (.int .i64 0) := hb.cell 38
  have h3 : w.cell? ⟨g, 39, none⟩ = some (.int .i64 5) := hb.cell 39
  have h4 : w.cell? ⟨g, 40, none⟩ = some (.int .i64 1) := hb.cell 40
  have h5 : w.cell? ⟨g, 41, none⟩ = some (.int .i64 0) := hb.cell 41
  have h6 : w.cell? ⟨g, 42, none⟩ = some (.int .i64 0) := hb.cell 42
  have h7 : w.cell? ⟨g, 43, none⟩ = some (.int .i64 5) := hb.cell 43
  have h8 : w.cell? ⟨g, 44, none⟩ = some (.int .i64 5) := hb.cell 44
  have hl : g < w.heap.size := hb.lt
  clear hb
  go_enter Try.func39, Try.ntmps39
  go_wp2
  exact bodyPost_ret (v := .agg #[.int .i64 0, .int .i64 1, .int .i64 0, .int .i64 5, .int .i64 1, .int .i64 0, .int .i64 0, .int .i64 5, .int .i64 5]) (by simp [results, Try.results39, go_sem]) rfl ⟨rfl, (Below.refl _ _).alloc (Nat.le_refl _) _⟩
theorem entryR_no (n : Int) (g c : Nat) (w : World) (h : n < 0 ∨ 5 ≤ n) :
    Calls Try.prog 39 #[.int .i64 n, .slice (some ⟨g, 0, none⟩) 5 c] w fun e w' => e = .returned (.agg #[.int .i64 0, .int .i64 0, .int .i64 0, .int .i64 0, .int .i64 0, .int .i64 0, .int .i64 0, .int .i64 0, .int .i64 0]) ∧ Below w.heap.size w w' := by
  rcases h with h | h
  all_goals
    go_enter Try.func39, Try.ntmps39
    go_wp2
    exact bodyPost_ret (v := .agg #[.int .i64 0, .int .i64 0, .int .i64 0, .int .i64 0, .int .i64 0, .int .i64 0, .int .i64 0, .int .i64 0, .int .i64 0]) (by simp [results, Try.results39, go_sem]) rfl ⟨rfl, ((Below.refl _ _).alloc (Nat.le_refl _) _).alloc (by simp) _⟩
theorem rowOf_0 (w : World) : Calls Try.prog 27 #[.int .i64 0] w fun e w' => e = .returned (.agg #[.int .i64 2, .int .i64 1, .int .i64 0, .int .i64 0, .int .i64 1, .int .i64 0, .int .i64 0, .int .i64 0, .int .i64 1]) ∧ Below w.heap.size w w' := by
  obtain ⟨W1, hW1⟩ : ∃ W1, W1 = (w.alloc (.cells #[.int .i64 0, .int .i64 0, .int .i64 0, .int .i64 0, .int .i64 0, .int .i64 0, .int .i64 0, .int .i64 0, .int .i64 0] 52)).alloc (.cells #[.int .i64 2, .int .i64 1, .int .i64 0, .int .i64 0, .int .i64 1, .int .i64 0, .int .i64 0, .int .i64 0, .int .i64 1, .int .i64 0, .int .i64 1, .int .i64 0, .int .i64 2, .int .i64 1, .int .i64 0, .int .i64 0, .int .i64 0, .int .i64 5, .int .i64 0, .int .i64 1, .int .i64 0, .int .i64 2, .int .i64 5, .int .i64 0, .int .i64 0, .int .i64 5, .int .i64 5, .int .i64 0, .int .i64 1, .int .i64 0, .int .i64 2, .int .i64 5, .int .i64 0, .int .i64 0, .int .i64 5, .int .i64 5, .int .i64 0, .int .i64 1, .int .i64 0, .int .i64 5, .int .i64 1, .int .i64 0, .int .i64 0, .int .i64 5, .int .i64 5] 52) := ⟨_, rfl⟩
  have hB : Below w.heap.size w W1 := by rw [hW1]; exact ((Below.refl _ _).alloc (Nat.le_refl _) _).alloc (by simp) _
  have hz : w.heap.size + 2 = W1.heap.size := by rw [hW1]; simp
  have hc : Blk W1 (w.heap.size + 1) 52 (phT.map fun z => .int .i64 z) := by
    have := blk_new (w.alloc (.cells #[.int .i64 0, .int .i64 0, .int .i64 0, .int .i64 0, .int .i64 0, .int .i64 0, .int .i64 0, .int .i64 0, .int .i64 0] 52)) 52 (phT.map fun z => .int .i64 z)
    rw [show (w.alloc (.cells #[.int .i64 0, .int .i64 0, .int .i64 0, .int .i64 0, .int .i64 0, .int .i64 0, .int .i64 0, .int .i64 0, .int .i64 0] 52)).heap.size = w.heap.size + 1 by simp] at this
    rw [hW1]
    exact this
  have HE := Lib.hid (entryR_0 (w.heap.size + 1) 5 W1 hc)
  have HRC : Hid (Blk W1 w.heap.size 52 [.int .i64 0, .int .i64 0, .int .i64 0, .int .i64 0, .int .i64 0, .int .i64 0, .int .i64 0, .int .i64 0, .int .i64 0]) := by
    rw [hW1]
    exact (blk_new w 52 [.int .i64 0, .int .i64 0, .int .i64 0, .int .i64 0, .int .i64 0, .int .i64 0, .int .i64 0, .int .i64 0, .int .i64 0]).below ((Below.refl _ _).alloc (Nat.le_refl _) _) (by simp)
  have HW := Lib.hid hW1.symm
  have HB := Lib.hid hB
  have HZ := Lib.hid hz
  clear hW1 hB hz hc
  go_enter Try.func27, Try.ntmps27
  go_wp2_with (go_at_call 39; rw [HW.out]; refine HE.out.mono ?_; rintro e w2 ⟨rfl, hb2⟩; have hk := (Blk.below HRC.out hb2 (by have := HZ.out; omega)); have HB2 := Lib.hid hb2; clear hb2; have kl := hk.lt; have k0 : w2.cell? ⟨w.heap.size, 0, none⟩ = some (.int .i64 0) := hk.cell 0; have f0 : w2.frozen? ⟨w.heap.size, 0, none⟩ = false := hk.frozen 0; have k1 : w2.cell? ⟨w.heap.size, 1, none⟩ = some (.int .i64 0) := hk.cell 1; have f1 : w2.frozen? ⟨w.heap.size, 1, none⟩ = false := hk.frozen 1; have k2 : w2.cell? ⟨w.heap.size, 2, none⟩ = some (.int .i64 0) := hk.cell 2; have f2 : w2.frozen? ⟨w.heap.size, 2, none⟩ = false := hk.frozen 2; have k3 : w2.cell? ⟨w.heap.size, 3, none⟩ = some (.int .i64 0) := hk.cell 3; have f3 : w2.frozen? ⟨w.heap.size, 3, none⟩ = false := hk.frozen 3; have k4 : w2.cell? ⟨w.heap.size, 4, none⟩ = some (.int .i64 0) := hk.cell 4; have f4 : w2.frozen? ⟨w.heap.size, 4, none⟩ = false := hk.frozen 4; have k5 : w2.cell? ⟨w.heap.size, 5, none⟩ = some (.int .i64 0) := hk.cell 5; have f5 : w2.frozen? ⟨w.heap.size, 5, none⟩ = false := hk.frozen 5; have k6 : w2.cell? ⟨w.heap.size, 6, none⟩ = some (.int .i64 0) := hk.cell 6; have f6 : w2.frozen? ⟨w.heap.size, 6, none⟩ = false := hk.frozen 6; have k7 : w2.cell? ⟨w.heap.size, 7, none⟩ = some (.int .i64 0) := hk.cell 7; have f7 : w2.frozen? ⟨w.heap.size, 7, none⟩ = false := hk.frozen 7; have k8 : w2.cell? ⟨w.heap.size, 8, none⟩ = some (.int .i64 0) := hk.cell 8; have f8 : w2.frozen? ⟨w.heap.size, 8, none⟩ = false := hk.frozen 8)
  have hb3 : Blk _ w.heap.size 52 [.int .i64 2, .int .i64 1, .int .i64 0, .int .i64 0, .int .i64 1, .int .i64 0, .int .i64 0, .int .i64 0, .int .i64 1] := (((((((((hk.set_ 0 (.int .i64 2)).set_ 1 (.int .i64 1)).set_ 2 (.int .i64 0)).set_ 3 (.int .i64 0)).set_ 4 (.int .i64 1)).set_ 5 (.int .i64 0)).set_ 6 (.int .i64 0)).set_ 7 (.int .i64 0)).set_ 8 (.int .i64 1))
  exact bodyPost_ret (results_cell_row rfl _ _ w.heap.size _ #[.int .i64 2, .int .i64 1, .int .i64 0, .int .i64 0, .int .i64 1, .int .i64 0, .int .i64 0, .int .i64 0, .int .i64 1] (0, 0) _ rfl hb3 Try.underlying52 rfl info9) rfl ⟨rfl, ((((((((((HB.out.trans (HB2.out.mono (by have := HZ.out; omega))).setCell (p := ⟨w.heap.size, 0, none⟩) (by simp) (.int .i64 2)).setCell (p := ⟨w.heap.size, 1, none⟩) (by simp) (.int .i64 1)).setCell (p := ⟨w.heap.size, 2, none⟩) (by simp) (.int .i64 0)).setCell (p := ⟨w.heap.size, 3, none⟩) (by simp) (.int .i64 0)).setCell (p := ⟨w.heap.size, 4, none⟩) (by simp) (.int .i64 1)).setCell (p := ⟨w.heap.size, 5, none⟩) (by simp) (.int .i64 0)).setCell (p := ⟨w.heap.size, 6, none⟩) (by simp) (.int .i64 0)).setCell (p := ⟨w.heap.size, 7, none⟩) (by simp) (.int .i64 0)).setCell (p := ⟨w.heap.size, 8, none⟩) (by simp) (.int .i64 1))⟩
theorem rowOf_1 (w : World) : Calls Try.prog 27 #[.int .i64 1] w fun e w' => e = .returned (.agg #[.int .i64 0, .int .i64 1, .int .i64 0, .int .i64 2, .int .i64 1, .int .i64 0, .int .i64 0, .int .i64 0, .int .i64 5]) ∧ Below w.heap.size w w' := by
  obtain ⟨W1, hW1⟩ : ∃ W1, W1 = (w.alloc (.cells #[.int .i64 0, .int .i64 0, .int .i64 0, .int .i64 0, .int .i64 0, .int .i64 0, .int .i64 0, .int .i64 0, .int .i64 0] 52)).alloc (.cells #[.int .i64 2, .int .i64 1, .int .i64 0, .int .i64 0, .int .i64 1, .int .i64 0, .int .i64 0, .int .i64 0, .int .i64 1, .int .i64 0, .int .i64 1, .int .i64 0, .int .i64 2, .int .i64 1, .int .i64 0, .int .i64 0, .int .i64 0, .int .i64 5, .int .i64 0, .int .i64 1, .int .i64 0, .int .i64 2, .int .i64 5, .int .i64 0, .int .i64 0, .int .i64 5, .int .i64 5, .int .i64 0, .int .i64 1, .int .i64 0, .int .i64 2, .int .i64 5, .int .i64 0, .int .i64 0, .int .i64 5, .int .i64 5, .int .i64 0, .int .i64 1, .int .i64 0, .int .i64 5, .int .i64 1, .int .i64 0, .int .i64 0, .int .i64 5, .int .i64 5] 52) := ⟨_, rfl⟩
  have hB : Below w.heap.size w W1 := by rw [hW1]; exact ((Below.refl _ _).alloc (Nat.le_refl _) _).alloc (by simp) _
  have hz : w.heap.size + 2 = W1.heap.size := by rw [hW1]; simp
  have hc : Blk W1 (w.heap.size + 1) 52 (phT.map fun z => .int .i64 z) := by
    have := blk_new (w.alloc (.cells #[.int .i64 0, .int .i64 0, .int .i64 0, .int .i64 0, .int .i64 0, .int .i64 0, .int .i64 0, .int .i64 0, .int .i64 0] 52)) 52 (phT.map fun z => .int .i64 z)
    rw [show (w.alloc (.cells #[.int .i64 0, .int .i64 0, .int .i64 0, .int .i64 0, .int .i64 0, .int .i64 0, .int .i64 0, .int .i64 0, .int .i64 0] 52)).heap.size = w.heap.size + 1 by simp] at this
    rw [hW1]
    exact this
  have HE := Lib.hid (entryR_1 (w.heap.size + 1) 5 W1 hc)
  have HRC : Hid (Blk W1 w.heap.size 52 [.int .i64 0, .int .i64 0, .int .i64 0, .int .i64 0, .int .i64 0, .int .i64 0, .int .i64 0, .int .i64 0, .int .i64 0]) := by
    rw [hW1]
    exact (blk_new w 52 [.int .i64 0, .int .i64 0, .int .i64 0, .int .i64 0, .int .i64 0, .int .i64 0, .int .i64 0, .int .i64 0, .int .i64 0]).below ((Below.refl _ _).alloc (Nat.le_refl _) _) (by simp)
  have HW := Lib.hid hW1.symm
  have HB := Lib.hid hB
  have HZ := Lib.hid hz
  clear hW1 hB hz hc
  go_enter Try.func27, Try.ntmps27
  go_wp2_with (go_at_call 39; rw [HW.out]; refine HE.out.mono ?_; rintro e w2 ⟨rfl, hb2⟩; have hk := (Blk.below HRC.out hb2 (by have := HZ.out; omega)); have HB2 := Lib.hid hb2; clear hb2; have kl := hk.lt; have k0 : w2.cell? ⟨w.heap.size, 0, none⟩ = some (.int .i64 0) := hk.cell 0; have f0 : w2.frozen? ⟨w.heap.size, 0, none⟩ = false := hk.frozen 0; have k1 : w2.cell? ⟨w.heap.size, 1, none⟩ = some (.int .i64 0) := hk.cell 1; have f1 : w2.frozen? ⟨w.heap.size, 1, none⟩ = false := hk.frozen 1; have k2 : w2.cell? ⟨w.heap.size, 2, none⟩ = some (.int .i64 0) := hk.cell 2; have f2 : w2.frozen? ⟨w.heap.size, 2, none⟩ = false := hk.frozen 2; have k3 : w2.cell? ⟨w.heap.size, 3, none⟩ = some (.int .i64 0) := hk.cell 3; have f3 : w2.frozen? ⟨w.heap.size, 3, none⟩ = false := hk.frozen 3; have k4 : w2.cell? ⟨w.heap.size, 4, none⟩ = some (.int .i64 0) := hk.cell 4; have f4 : w2.frozen? ⟨w.heap.size, 4, none⟩ = false := hk.frozen 4; have k5 : w2.cell? ⟨w.heap.size, 5, none⟩ = some (.int .i64 0) := hk.cell 5; have f5 : w2.frozen? ⟨w.heap.size, 5, none⟩ = false := hk.frozen 5; have k6 : w2.cell? ⟨w.heap.size, 6, none⟩ = some (.int .i64 0) := hk.cell 6; have f6 : w2.frozen? ⟨w.heap.size, 6, none⟩ = false := hk.frozen 6; have k7 : w2.cell? ⟨w.heap.size, 7, none⟩ = some (.int .i64 0) := hk.cell 7; have f7 : w2.frozen? ⟨w.heap.size, 7, none⟩ = false := hk.frozen 7; have k8 : w2.cell? ⟨w.heap.size, 8, none⟩ = some (.int .i64 0) := hk.cell 8; have f8 : w2.frozen? ⟨w.heap.size, 8, none⟩ = false := hk.frozen 8)
  have hb3 : Blk _ w.heap.size 52 [.int .i64 0, .int .i64 1, .int .i64 0, .int .i64 2, .int .i64 1, .int .i64 0, .int .i64 0, .int .i64 0, .int .i64 5] := (((((((((hk.set_ 0 (.int .i64 0)).set_ 1 (.int .i64 1)).set_ 2 (.int .i64 0)).set_ 3 (.int .i64 2)).set_ 4 (.int .i64 1)).set_ 5 (.int .i64 0)).set_ 6 (.int .i64 0)).set_ 7 (.int .i64 0)).set_ 8 (.int .i64 5))
  exact bodyPost_ret (results_cell_row rfl _ _ w.heap.size _ #[.int .i64 0, .int .i64 1, .int .i64 0, .int .i64 2, .int .i64 1, .int .i64 0, .int .i64 0, .int .i64 0, .int .i64 5] (0, 0) _ rfl hb3 Try.underlying52 rfl info9) rfl ⟨rfl, ((((((((((HB.out.trans (HB2.out.mono (by have := HZ.out; omega))).setCell (p := ⟨w.heap.size, 0, none⟩) (by simp) (.int .i64 0)).setCell (p := ⟨w.heap.size, 1, none⟩) (by simp) (.int .i64 1)).setCell (p := ⟨w.heap.size, 2, none⟩) (by simp) (.int .i64 0)).setCell (p := ⟨w.heap.size, 3, none⟩) (by simp) (.int .i64 2)).setCell (p := ⟨w.heap.size, 4, none⟩) (by simp) (.int .i64 1)).setCell (p := ⟨w.heap.size, 5, none⟩) (by simp) (.int .i64 0)).setCell (p := ⟨w.heap.size, 6, none⟩) (by simp) (.int .i64 0)).setCell (p := ⟨w.heap.size, 7, none⟩) (by simp) (.int .i64 0)).setCell (p := ⟨w.heap.size, 8, none⟩) (by simp) (.int .i64 5))⟩
theorem rowOf_2 (w : World) : Calls Try.prog 27 #[.int .i64 2] w fun e w' => e = .returned (.agg #[.int .i64 0, .int .i64 1, .int .i64 0, .int .i64 2, .int .i64 5, .int .i64 0, .int .i64 0, .int .i64 5, .int .i64 5]) ∧ Below w.heap.size w w' := by
  obtain ⟨W1, hW1⟩ : ∃ W1, W1 = (w.alloc (.cells #[.int .i64 0, .int .i64 0, .int .i64 0, .int .i64 0, .int .i64 0, .int .i64 0, .int .i64 0, .int .i64 0, .int .i64 0] 52)).alloc (.cells #[.int .i64 2, .int .i64 1, .int .i64 0, .int .i64 0, .int .i64 1, .int .i64 0, .int .i64 0, .int .i64 0, .int .i64 1, .int .i64 0, .int .i64 1, .int .i64 0, .int .i64 2, .int .i64 1, .int .i64 0, .int .i64 0, .int .i64 0, .int .i64 5, .int .i64 0, .int .i64 1, .int .i64 0, .int .i64 2, .int .i64 5, .int .i64 0, .int .i64 0, .int .i64 5, .int .i64 5, .int .i64 0, .int .i64 1, .int .i64 0, .int .i64 2, .int .i64 5, .int .i64 0, .int .i64 0, .int .i64 5, .int .i64 5, .int .i64 0, .int .i64 1, .int .i64 0, .int .i64 5, .int .i64 1, .int .i64 0, .int .i64 0, .int .i64 5, .int .i64 5] 52) := ⟨_, rfl⟩
  have hB : Below w.heap.size w W1 := by rw [hW1]; exact ((Below.refl _ _).alloc (Nat.le_refl _) _).alloc (by simp) _
  have hz : w.heap.size + 2 = W1.heap.size := by rw [hW1]; simp
  have hc : Blk W1 (w.heap.size + 1) 52 (phT.map fun z => .int .i64 z) := by
    have := blk_new (w.alloc (.cells #[.int .i64 0, .int .i64 0, .int .i64 0, .int .i64 0, .int .i64 0, .int .i64 0, .int .i64 0, .int .i64 0, .int .i64 0] 52)) 52 (phT.map fun z => .int .i64 z)
    rw [show (w.alloc (.cells #[.int .i64 0, .int .i64 0, .int .i64 0, .int .i64 0, .int .i64 0, .int .i64 0, .int .i64 0, .int .i64 0, .int .i64 0] 52)).heap.size = w.heap.size + 1 by simp] at this
    rw [hW1]
    exact this
  have HE := Lib.hid (entryR_2 (w.heap.size + 1) 5 W1 hc)
  have HRC : Hid (Blk W1 w.heap.size 52 [.int .i64 0, .int .i64 0, .int .i64 0, .int .i64 0, .int .i64 0, .int .i64 0, .int .i64 0, .int .i64 0, .int .i64 0]) := by
    rw [hW1]
    exact (blk_new w 52 [.int .i64 0, .int .i64 0, .int .i64 0, .int .i64 0, .int .i64 0, .int .i64 0, .int .i64 0, .int .i64 0, .int .i64 0]).below ((Below.refl _ _).alloc (Nat.le_refl _) _) (by simp)
  have HW := Lib.hid hW1.symm
  have HB := Lib.hid hB
  have HZ := Lib.hid hz
  clear hW1 hB hz hc
  go_enter Try.func27, Try.ntmps27
  go_wp2_with (go_at_call 39; rw [HW.out]; refine HE.out.mono ?_; rintro e w2 ⟨rfl, hb2⟩; have hk := (Blk.below HRC.out hb2 (by have := HZ.out; omega)); have HB2 := Lib.hid hb2; clear hb2; have kl := hk.lt; have k0 : w2.cell? ⟨w.heap.size, 0, none⟩ = some (.int .i64 0) := hk.cell 0; have f0 : w2.frozen? ⟨w.heap.size, 0, none⟩ = false := hk.frozen 0; have k1 : w2.cell? ⟨w.heap.size, 1, none⟩ = some (.int .i64 0) := hk.cell 1; have f1 : w2.frozen? ⟨w.heap.size, 1, none⟩ = false := hk.frozen 1; have k2 : w2.cell? ⟨w.heap.size, 2, none⟩ = some (.int .i64 0) := hk.cell 2; have f2 : w2.frozen? ⟨w.heap.size, 2, none⟩ = false := hk.frozen 2; have k3 : w2.cell? ⟨w.heap.size, 3, none⟩ = some (.int .i64 0) := hk.cell 3; have f3 : w2.frozen? ⟨w.heap.size, 3, none⟩ = false := hk.frozen 3; have k4 : w2.cell? ⟨w.heap.size, 4, none⟩ = some (.int .i64 0) := hk.cell 4; have f4 : w2.frozen? ⟨w.heap.size, 4, none⟩ = false := hk.frozen 4; have k5 : w2.cell? ⟨w.heap.size, 5, none⟩ = some (.int .i64 0) := hk.cell 5; have f5 : w2.frozen? ⟨w.heap.size, 5, none⟩ = false := hk.frozen 5; have k6 : w2.cell? ⟨w.heap.size, 6, none⟩ = some (.int .i64 0) := hk.cell 6; have f6 : w2.frozen? ⟨w.heap.size, 6, none⟩ = false := hk.frozen 6; have k7 : w2.cell? ⟨w.heap.size, 7, none⟩ = some (.int .i64 0) := hk.cell 7; have f7 : w2.frozen? ⟨w.heap.size, 7, none⟩ = false := hk.frozen 7; have k8 : w2.cell? ⟨w.heap.size, 8, none⟩ = some (.int .i64 0) := hk.cell 8; have f8 : w2.frozen? ⟨w.heap.size, 8, none⟩ = false := hk.frozen 8)
  have hb3 : Blk _ w.heap.size 52 [.int .i64 0, .int .i64 1, .int .i64 0, .int .i64 2, .int .i64 5, .int .i64 0, .int .i64 0, .int .i64 5, .int .i64 5] := (((((((((hk.set_ 0 (.int .i64 0)).set_ 1 (.int .i64 1)).set_ 2 (.int .i64 0)).set_ 3 (.int .i64 2)).set_ 4 (.int .i64 5)).set_ 5 (.int .i64 0)).set_ 6 (.int .i64 0)).set_ 7 (.int .i64 5)).set_ 8 (.int .i64 5))
  exact bodyPost_ret (results_cell_row rfl _ _ w.heap.size _ #[.int .i64 0, .int .i64 1, .int .i64 0, .int .i64 2, .int .i64 5, .int .i64 0, .int .i64 0, .int .i64 5, .int .i64 5] (0, 0) _ rfl hb3 Try.underlying52 rfl info9) rfl ⟨rfl, ((((((((((HB.out.trans (HB2.out.mono (by have := HZ.out; omega))).setCell (p := ⟨w.heap.size, 0, none⟩) (by simp) (.int .i64 0)).setCell (p := ⟨w.heap.size, 1, none⟩) (by simp) (.int .i64 1)).setCell (p := ⟨w.heap.size, 2, none⟩) (by simp) (.int .i64 0)).setCell (p := ⟨w.heap.size, 3, none⟩) (by simp) (.int .i64 2)).setCell (p := ⟨w.heap.size, 4, none⟩) (by simp) (.int .i64 5)).setCell (p := ⟨w.heap.size, 5, none⟩) (by simp) (.int .i64 0)).setCell (p := ⟨w.heap.size, 6, none⟩) (by simp) (.int .i64 0)).setCell (p := ⟨w.heap.size, 7, none⟩) (by simp) (.int .i64 5)).setCell (p := ⟨w.heap.size, 8, none⟩) (by simp) (.int .i64 5))⟩
theorem rowOf_3 (w : World) : Calls Try.prog 27 #[.int .i64 3] w fun e w' => e = .returned (.agg #[.int .i64 0, .int .i64 1, .int .i64 0, .int .i64 2, .int .i64 5, .int .i64 0, .int .i64 0, .int .i64 5, .int .i64 5]) ∧ Below w.heap.size w w' := by
  obtain ⟨W1, hW1⟩ : ∃ W1, W1 = (w.alloc (.cells #[.int .i64 0, .int .i64 0, .int .i64 0, .int .i64 0, .int .i64 0, .int .i64 0, .int .i64 0, .int .i64 0, .int .i64 0] 52)).alloc (.cells #[.int .i64 2, .int .i64 1, .int .i64 0, .int .i64 0, .int .i64 1, .int .i64 0, .int .i64 0, .int .i64 0, .int .i64 1, .int .i64 0, .int .i64 1, .int .i64 0, .int .i64 2, .int .i64 1, .int .i64 0, .int .i64 0, .int .i64 0, .int .i64 5, .int .i64 0, .int .i64 1, .int .i64 0, .int .i64 2, .int .i64 5, .int .i64 0, .int .i64 0, .int .i64 5, .int .i64 5, .int .i64 0, .int .i64 1, .int .i64 0, .int .i64 2, .int .i64 5, .int .i64 0, .int .i64 0, .int .i64 5, .int .i64 5, .int .i64 0, .int .i64 1, .int .i64 0, .int .i64 5, .int .i64 1, .int .i64 0, .int .i64 0, .int .i64 5, .int .i64 5] 52) := ⟨_, rfl⟩
  have hB : Below w.heap.size w W1 := by rw [hW1]; exact ((Below.refl _ _).alloc (Nat.le_refl _) _).alloc (by simp) _
  have hz : w.heap.size + 2 = W1.heap.size := by rw [hW1]; simp
  have hc : Blk W1 (w.heap.size + 1) 52 (phT.map fun z => .int .i64 z) := by
    have := blk_new (w.alloc (.cells #[.int .i64 0, .int .i64 0, .int .i64 0, .int .i64 0, .int .i64 0, .int .i64 0, .int .i64 0, .int .i64 0, .int .i64 0] 52)) 52 (phT.map fun z => .int .i64 z)
    rw [show (w.alloc (.cells #[.int .i64 0, .int .i64 0, .int .i64 0, .int .i64 0, .int .i64 0, .int .i64 0, .int .i64 0, .int .i64 0, .int .i64 0] 52)).heap.size = w.heap.size + 1 by simp] at this
    rw [hW1]
    exact this
  have HE := Lib.hid (entryR_3 (w.heap.size + 1) 5 W1 hc)
  have HRC : Hid (Blk W1 w.heap.size 52 [.int .i64 0, .int .i64 0, .int .i64 0, .int .i64 0, .int .i64 0, .int .i64 0, .int .i64 0, .int .i64 0, .int .i64 0]) := by
    rw [hW1]
    exact (blk_new w 52 [.int .i64 0, .int .i64 0, .int .i64 0, .int .i64 0, .int .i64 0, .int .i64 0, .int .i64 0, .int .i64 0, .int .i64 0]).below ((Below.refl _ _).alloc (Nat.le_refl _) _) (by simp)
  have HW := Lib.hid hW1.symm
  have HB := Lib.hid hB
  have HZ := Lib.hid hz
  clear hW1 hB hz hc
  go_enter Try.func27, Try.ntmps27
  go_wp2_with (go_at_call 39; rw [HW.out]; refine HE.out.mono ?_; rintro e w2 ⟨rfl, hb2⟩; have hk := (Blk.below HRC.out hb2 (by have := HZ.out; omega)); have HB2 := Lib.hid hb2; clear hb2; have kl := hk.lt; have k0 : w2.cell? ⟨w.heap.size, 0, none⟩ = some (.int .i64 0) := hk.cell 0; have f0 : w2.frozen? ⟨w.heap.size, 0, none⟩ = false := hk.frozen 0; have k1 : w2.cell? ⟨w.heap.size, 1, none⟩ = some (.int .i64 0) := hk.cell 1; have f1 : w2.frozen? ⟨w.heap.size, 1, none⟩ = false := hk.frozen 1; have k2 : w2.cell? ⟨w.heap.size, 2, none⟩ = some (.int .i64 0) := hk.cell 2; have f2 : w2.frozen? ⟨w.heap.size, 2, none⟩ = false := hk.frozen 2; have k3 : w2.cell? ⟨w.heap.size, 3, none⟩ = some (.int .i64 0) := hk.cell 3; have f3 : w2.frozen? ⟨w.heap.size, 3, none⟩ = false := hk.frozen 3; have k4 : w2.cell? ⟨w.heap.size, 4, none⟩ = some (.int .i64 0) := hk.cell 4; have f4 : w2.frozen? ⟨w.heap.size, 4, none⟩ = false := hk.frozen 4; have k5 : w2.cell? ⟨w.heap.size, 5, none⟩ = some (.int .i64 0) := hk.cell 5; have f5 : w2.frozen? ⟨w.heap.size, 5, none⟩ = false := hk.frozen 5; have k6 : w2.cell? ⟨w.heap.size, 6, none⟩ = some (.int .i64 0) := hk.cell 6; have f6 : w2.frozen? ⟨w.heap.size, 6, none⟩ = false := hk.frozen 6; have k7 : w2.cell? ⟨w.heap.size, 7, none⟩ = some (.int .i64 0) := hk.cell 7; have f7 : w2.frozen? ⟨w.heap.size, 7, none⟩ = false := hk.frozen 7; have k8 : w2.cell? ⟨w.heap.size, 8, none⟩ = some (.int .i64 0) := hk.cell 8; have f8 : w2.frozen? ⟨w.heap.size, 8, none⟩ = false := hk.frozen 8)
  have hb3 : Blk _ w.heap.size 52 [.int .i64 0, .int .i64 1, .int .i64 0, .int .i64 2, .int .i64 5, .int .i64 0, .int .i64 0, .int .i64 5, .int .i64 5] := (((((((((hk.set_ 0 (.int .i64 0)).set_ 1 (.int .i64 1)).set_ 2 (.int .i64 0)).set_ 3 (.int .i64 2)).set_ 4 (.int .i64 5)).set_ 5 (.int .i64 0)).set_ 6 (.int .i64 0)).set_ 7 (.int .i64 5)).set_ 8 (.int .i64 5))
  exact bodyPost_ret (results_cell_row rfl _ _ w.heap.size _ #[.int .i64 0, .int .i64 1, .int .i64 0, .int .i64 2, .int .i64 5, .int .i64 0, .int .i64 0, .int .i64 5, .int .i64 5] (0, 0) _ rfl hb3 Try.underlying52 rfl info9) rfl ⟨rfl, ((((((((((HB.out.trans (HB2.out.mono (by have := HZ.out; omega))).setCell (p := ⟨w.heap.size, 0, none⟩) (by simp) (.int .i64 0)).setCell (p := ⟨w.heap.size, 1, none⟩) (by simp) (.int .i64 1)).setCell (p := ⟨w.heap.size, 2, none⟩) (by simp) (.int .i64 0)).setCell (p := ⟨w.heap.size, 3, none⟩) (by simp) (.int .i64 2)).setCell (p := ⟨w.heap.size, 4, none⟩) (by simp) (.int .i64 5)).setCell (p := ⟨w.heap.size, 5, none⟩) (by simp) (.int .i64 0)).setCell (p := ⟨w.heap.size, 6, none⟩) (by simp) (.int .i64 0)).setCell (p := ⟨w.heap.size, 7, none⟩) (by simp) (.int .i64 5)).setCell (p := ⟨w.heap.size, 8, none⟩) (by simp) (.int .i64 5))⟩
theorem rowOf_4 (w : World) : Calls Try.prog 27 #[.int .i64 4] w fun e w' => e = .returned (.agg #[.int .i64 0, .int .i64 1, .int .i64 0, .int .i64 5, .int .i64 1, .int .i64 0, .int .i64 0, .int .i64 5, .int .i64 5]) ∧ Below w.heap.size w w' := by
  obtain ⟨W1, hW1⟩ : ∃ W1, W1 = (w.alloc (.cells #[.int .i64 0, .int .i64 0, .int .i64 0, .int .i64 0, .int .i64 0, .int .i64 0, .int .i64 0, .int .i64 0, .int .i64 0] 52)).alloc (.cells #[.int .i64 2, .int .i64 1, .int .i64 0, .int .i64 0, .int .i64 1, .int .i64 0, .int .i64 0, .int .i64 0, .int .i64 1, .int .i64 0, .int .i64 1, .int .i64 0, .int .i64 2, .int .i64 1, .int .i64 0, .int .i64 0, .int .i64 0, .int .i64 5, .int .i64 0, .int .i64 1, .int .i64 0, .int .i64 2, .int .i64 5, .int .i64 0, .int .i64 0, .int .i64 5, .int .i64 5, .int .i64 0, .int .i64 1, .int .i64 0, .int .i64 2, .int .i64 5, .int .i64 0, .int .i64 0, .int .i64 5, .int .i64 5, .int .i64 0, .int .i64 1, .int .i64 0, .int .i64 5, .int .i64 1, .int .i64 0, .int .i64 0, .int .i64 5, .int .i64 5] 52) := ⟨_, rfl⟩
  have hB : Below w.heap.size w W1 := by rw [hW1]; exact ((Below.refl _ _).alloc (Nat.le_refl _) _).alloc (by simp) _
  have hz : w.heap.size + 2 = W1.heap.size := by rw [hW1]; simp
  have hc : Blk W1 (w.heap.size + 1) 52 (phT.map fun z => .int .i64 z) := by
    have := blk_new (w.alloc (.cells #[.int .i64 0, .int .i64 0, .int .i64 0, .int .i64 0, .int .i64 0, .int .i64 0, .int .i64 0, .int .i64 0, .int .i64 0] 52)) 52 (phT.map fun z => .int .i64 z)
    rw [show (w.alloc (.cells #[.int .i64 0, .int .i64 0, .int .i64 0, .int .i64 0, .int .i64 0, .int .i64 0, .int .i64 0, .int .i64 0, .int .i64 0] 52)).heap.size = w.heap.size + 1 by simp] at this
    rw [hW1]
    exact this
  have HE := Lib.hid (entryR_4 (w.heap.size + 1) 5 W1 hc)
  have HRC : Hid (Blk W1 w.heap.size 52 [.int .i64 0, .int .i64 0, .int .i64 0, .int .i64 0, .int .i64 0, .int .i64 0, .int .i64 0, .int .i64 0, .int .i64 0]) := by
    rw [hW1]
    exact (blk_new w 52 [.int .i64 0, .int .i64 0, .int .i64 0, .int .i64 0, .int .i64 0, .int .i64 0, .int .i64 0, .int .i64 0, .int .i64 0]).below ((Below.refl _ _).alloc (Nat.le_refl _) _) (by simp)
  have HW := Lib.hid hW1.symm
  have HB := Lib.hid hB
  have HZ := Lib.hid hz
  clear hW1 hB hz hc
  go_enter Try.func27, Try.ntmps27
  go_wp2_with (go_at_call 39; rw [HW.out]; refine HE.out.mono ?_; rintro e w2 ⟨rfl, hb2⟩; have hk := (Blk.below HRC.out hb2 (by have := HZ.out; omega)); have HB2 := Lib.hid hb2; clear hb2; have kl := hk.lt; have k0 : w2.cell? ⟨w.heap.size, 0, none⟩ = some (.int .i64 0) := hk.cell 0; have f0 : w2.frozen? ⟨w.heap.size, 0, none⟩ = false := hk.frozen 0; have k1 : w2.cell? ⟨w.heap.size, 1, none⟩ = some (.int .i64 0) := hk.cell 1; have f1 : w2.frozen? ⟨w.heap.size, 1, none⟩ = false := hk.frozen 1; have k2 : w2.cell? ⟨w.heap.size, 2, none⟩ = some (.int .i64 0) := hk.cell 2; have f2 : w2.frozen? ⟨w.heap.size, 2, none⟩ = false := hk.frozen 2; have k3 : w2.cell? ⟨w.heap.size, 3, none⟩ = some (.int .i64 0) := hk.cell 3; have f3 : w2.frozen? ⟨w.heap.size, 3, none⟩ = false := hk.frozen 3; have k4 : w2.cell? ⟨w.heap.size, 4, none⟩ = some (.int .i64 0) := hk.cell 4; have f4 : w2.frozen? ⟨w.heap.size, 4, none⟩ = false := hk.frozen 4; have k5 : w2.cell? ⟨w.heap.size, 5, none⟩ = some (.int .i64 0) := hk.cell 5; have f5 : w2.frozen? ⟨w.heap.size, 5, none⟩ = false := hk.frozen 5; have k6 : w2.cell? ⟨w.heap.size, 6, none⟩ = some (.int .i64 0) := hk.cell 6; have f6 : w2.frozen? ⟨w.heap.size, 6, none⟩ = false := hk.frozen 6; have k7 : w2.cell? ⟨w.heap.size, 7, none⟩ = some (.int .i64 0) := hk.cell 7; have f7 : w2.frozen? ⟨w.heap.size, 7, none⟩ = false := hk.frozen 7; have k8 : w2.cell? ⟨w.heap.size, 8, none⟩ = some (.int .i64 0) := hk.cell 8; have f8 : w2.frozen? ⟨w.heap.size, 8, none⟩ = false := hk.frozen 8)
  have hb3 : Blk _ w.heap.size 52 [.int .i64 0, .int .i64 1, .int .i64 0, .int .i64 5, .int .i64 1, .int .i64 0, .int .i64 0, .int .i64 5, .int .i64 5] := (((((((((hk.set_ 0 (.int .i64 0)).set_ 1 (.int .i64 1)).set_ 2 (.int .i64 0)).set_ 3 (.int .i64 5)).set_ 4 (.int .i64 1)).set_ 5 (.int .i64 0)).set_ 6 (.int .i64 0)).set_ 7 (.int .i64 5)).set_ 8 (.int .i64 5))
  exact bodyPost_ret (results_cell_row rfl _ _ w.heap.size _ #[.int .i64 0, .int .i64 1, .int .i64 0, .int .i64 5, .int .i64 1, .int .i64 0, .int .i64 0, .int .i64 5, .int .i64 5] (0, 0) _ rfl hb3 Try.underlying52 rfl info9) rfl ⟨rfl, ((((((((((HB.out.trans (HB2.out.mono (by have := HZ.out; omega))).setCell (p := ⟨w.heap.size, 0, none⟩) (by simp) (.int .i64 0)).setCell (p := ⟨w.heap.size, 1, none⟩) (by simp) (.int .i64 1)).setCell (p := ⟨w.heap.size, 2, none⟩) (by simp) (.int .i64 0)).setCell (p := ⟨w.heap.size, 3, none⟩) (by simp) (.int .i64 5)).setCell (p := ⟨w.heap.size, 4, none⟩) (by simp) (.int .i64 1)).setCell (p := ⟨w.heap.size, 5, none⟩) (by simp) (.int .i64 0)).setCell (p := ⟨w.heap.size, 6, none⟩) (by simp) (.int .i64 0)).setCell (p := ⟨w.heap.size, 7, none⟩) (by simp) (.int .i64 5)).setCell (p := ⟨w.heap.size, 8, none⟩) (by simp) (.int .i64 5))⟩
theorem rowOf_no (n : Int) (w : World) (h : n < 0 ∨ 5 ≤ n) : Calls Try.prog 27 #[.int .i64 n] w fun e w' => e = .returned (.agg #[.int .i64 0, .int .i64 0, .int .i64 0, .int .i64 0, .int .i64 0, .int .i64 0, .int .i64 0, .int .i64 0, .int .i64 0]) ∧ Below w.heap.size w w' := by
  obtain ⟨W1, hW1⟩ : ∃ W1, W1 = (w.alloc (.cells #[.int .i64 0, .int .i64 0, .int .i64 0, .int .i64 0, .int .i64 0, .int .i64 0, .int .i64 0, .int .i64 0, .int .i64 0] 52)).alloc (.cells #[.int .i64 2, .int .i64 1, .int .i64 0, .int .i64 0, .int .i64 1, .int .i64 0, .int .i64 0, .int .i64 0, .int .i64 1, .int .i64 0, .int .i64 1, .int .i64 0, .int .i64 2, .int .i64 1, .int .i64 0, .int .i64 0, .int .i64 0, .int .i64 5, .int .i64 0, .int .i64 1, .int .i64 0, .int .i64 2, .int .i64 5, .int .i64 0, .int .i64 0, .int .i64 5, .int .i64 5, .int .i64 0, .int .i64 1, .int .i64 0, .int .i64 2, .int .i64 5, .int .i64 0, .int .i64 0, .int .i64 5, .int .i64 5, .int .i64 0, .int .i64 1, .int .i64 0, .int .i64 5, .int .i64 1, .int .i64 0, .int .i64 0, .int .i64 5, .int .i64 5] 52) := ⟨_, rfl⟩
  have hB : Below w.heap.size w W1 := by rw [hW1]; exact ((Below.refl _ _).alloc (Nat.le_refl _) _).alloc (by simp) _
  have hz : w.heap.size + 2 = W1.heap.size := by rw [hW1]; simp
  have hc : Blk W1 (w.heap.size + 1) 52 (phT.map fun z => .int .i64 z) := by
    have := blk_new (w.alloc (.cells #[.int .i64 0, .int .i64 0, .int .i64 0, .int .i64 0, .int .i64 0, .int .i64 0, .int .i64 0, .int .i64 0, .int .i64 0] 52)) 52 (phT.map fun z => .int .i64 z)
    rw [show (w.alloc (.cells #[.int .i64 0, .int .i64 0, .int .i64 0, .int .i64 0, .int .i64 0, .int .i64 0, .int .i64 0, .int .i64 0, .int .i64 0] 52)).heap.size = w.heap.size + 1 by simp] at this
    rw [hW1]
    exact this
  have HE := Lib.hid (entryR_no n (w.heap.size + 1) 5 W1 h)
  clear h
  have HRC : Hid (Blk W1 w.heap.size 52 [.int .i64 0, .int .i64 0, .int .i64 0, .int .i64 0, .int .i64 0, .int .i64 0, .int .i64 0, .int .i64 0, .int .i64 0]) := by
    rw [hW1]
    exact (blk_new w 52 [.int .i64 0, .int .i64 0, .int .i64 0, .int .i64 0, .int .i64 0, .int .i64 0, .int .i64 0, .int .i64 0, .int .i64 0]).below ((Below.refl _ _).alloc (Nat.le_refl _) _) (by simp)
  have HW := Lib.hid hW1.symm
  have HB := Lib.hid hB
  have HZ := Lib.hid hz
  clear hW1 hB hz hc
  go_enter Try.func27, Try.ntmps27
  go_wp2_with (go_at_call 39; rw [HW.out]; refine HE.out.mono ?_; rintro e w2 ⟨rfl, hb2⟩; have hk := (Blk.below HRC.out hb2 (by have := HZ.out; omega)); have HB2 := Lib.hid hb2; clear hb2; have kl := hk.lt; have k0 : w2.cell? ⟨w.heap.size, 0, none⟩ = some (.int .i64 0) := hk.cell 0; have f0 : w2.frozen? ⟨w.heap.size, 0, none⟩ = false := hk.frozen 0; have k1 : w2.cell? ⟨w.heap.size, 1, none⟩ = some (.int .i64 0) := hk.cell 1; have f1 : w2.frozen? ⟨w.heap.size, 1, none⟩ = false := hk.frozen 1; have k2 : w2.cell? ⟨w.heap.size, 2, none⟩ = some (.int .i64 0) := hk.cell 2; have f2 : w2.frozen? ⟨w.heap.size, 2, none⟩ = false := hk.frozen 2; have k3 : w2.cell? ⟨w.heap.size, 3, none⟩ = some (.int .i64 0) := hk.cell 3; have f3 : w2.frozen? ⟨w.heap.size, 3, none⟩ = false := hk.frozen 3; have k4 : w2.cell? ⟨w.heap.size, 4, none⟩ = some (.int .i64 0) := hk.cell 4; have f4 : w2.frozen? ⟨w.heap.size, 4, none⟩ = false := hk.frozen 4; have k5 : w2.cell? ⟨w.heap.size, 5, none⟩ = some (.int .i64 0) := hk.cell 5; have f5 : w2.frozen? ⟨w.heap.size, 5, none⟩ = false := hk.frozen 5; have k6 : w2.cell? ⟨w.heap.size, 6, none⟩ = some (.int .i64 0) := hk.cell 6; have f6 : w2.frozen? ⟨w.heap.size, 6, none⟩ = false := hk.frozen 6; have k7 : w2.cell? ⟨w.heap.size, 7, none⟩ = some (.int .i64 0) := hk.cell 7; have f7 : w2.frozen? ⟨w.heap.size, 7, none⟩ = false := hk.frozen 7; have k8 : w2.cell? ⟨w.heap.size, 8, none⟩ = some (.int .i64 0) := hk.cell 8; have f8 : w2.frozen? ⟨w.heap.size, 8, none⟩ = false := hk.frozen 8)
  have hb3 : Blk _ w.heap.size 52 [.int .i64 0, .int .i64 0, .int .i64 0, .int .i64 0, .int .i64 0, .int .i64 0, .int .i64 0, .int .i64 0, .int .i64 0] := (((((((((hk.set_ 0 (.int .i64 0)).set_ 1 (.int .i64 0)).set_ 2 (.int .i64 0)).set_ 3 (.int .i64 0)).set_ 4 (.int .i64 0)).set_ 5 (.int .i64 0)).set_ 6 (.int .i64 0)).set_ 7 (.int .i64 0)).set_ 8 (.int .i64 0))
  exact bodyPost_ret (results_cell_row rfl _ _ w.heap.size _ #[.int .i64 0, .int .i64 0, .int .i64 0, .int .i64 0, .int .i64 0, .int .i64 0, .int .i64 0, .int .i64 0, .int .i64 0] (0, 0) _ rfl hb3 Try.underlying52 rfl info9) rfl ⟨rfl, ((((((((((HB.out.trans (HB2.out.mono (by have := HZ.out; omega))).setCell (p := ⟨w.heap.size, 0, none⟩) (by simp) (.int .i64 0)).setCell (p := ⟨w.heap.size, 1, none⟩) (by simp) (.int .i64 0)).setCell (p := ⟨w.heap.size, 2, none⟩) (by simp) (.int .i64 0)).setCell (p := ⟨w.heap.size, 3, none⟩) (by simp) (.int .i64 0)).setCell (p := ⟨w.heap.size, 4, none⟩) (by simp) (.int .i64 0)).setCell (p := ⟨w.heap.size, 5, none⟩) (by simp) (.int .i64 0)).setCell (p := ⟨w.heap.size, 6, none⟩) (by simp) (.int .i64 0)).setCell (p := ⟨w.heap.size, 7, none⟩) (by simp) (.int .i64 0)).setCell (p := ⟨w.heap.size, 8, none⟩) (by simp) (.int .i64 0))⟩
end Go.Proofs.Ytandakinbcfleaa
