/-
  ip.num; carried of the chapter's example.
-/
import Derived.Test.YtjkdlmielckaaaaDoorIpFour
import Derived.Test.YtjkdlmielckaaaaDoorGet
namespace Go.Proofs.YtjkdlmielckaaaaDoor
open Go.RowKit
set_option maxRecDepth 100000
set_option maxHeartbeats 4000000
set_option linter.unusedSimpArgs false
set_option linter.unusedVariables false

theorem ipnum_two (A : Option Addr) (n c B p : Nat) (l : List UInt8) (z : Int) (w : World) (hr : Rd w B A n l) (hc : n ≤ c) (hn : n ≤ 140737488351232) (hp : p + 2 ≤ n) (hz : num (l.drop p) 2 = z) (hz0 : 0 ≤ z) (hz1 : z ≤ 65535) :
    Calls Tryd.prog 23 #[.slice A n c, .int .i64 (p : Int), .int .i64 2] w fun e w' => e = .returned (.int .i64 z) ∧ w = w' := by
  have G : Hid (Calls Tryd.prog 40 #[.slice A n c, .int .i64 (p : Int), .int .i64 2] w fun e w' => e = .returned (.tuple #[.int .u64 (num (l.drop p) 2), .int .i64 0]) ∧ w = w') := get_ok A n c p 2 l w B hr (by decide) (by decide) (by omega) hc hp
  rw [hz] at G
  clear hr hz
  go_enter Tryd.func23, Tryd.ntmps23
  go_wp2_with (go_at_call 40; ((with_reducible refine G.out.mono ?_); rintro e w' ⟨rfl, rfl⟩))
  go_ret
  exact ⟨rfl, rfl⟩
/-- the example's fields, what the data's headers say too -/
def ipF3 : List Value := [.int .i64 4, .int .i64 0, .int .i64 0, .int .i64 28, .int .i64 20, .int .i64 0, .bool false, .bool false, .int .i64 0, .int .i64 64, .int .i64 17, .int .i64 167772161, .int .i64 167772162, .int .u8 0, .int .u8 0, .int .u8 0, .int .u8 0, .int .u8 0, .int .u8 0, .int .u8 0, .int .u8 0, .int .u8 0, .int .u8 0, .int .u8 0, .int .u8 0, .int .u8 0, .int .u8 0, .int .u8 0, .int .u8 0, .int .u8 0, .int .u8 0, .int .u8 0, .int .u8 0, .int .u8 0, .int .u8 0, .int .u8 0, .int .u8 0, .int .u8 0, .int .u8 0, .int .u8 0, .int .u8 0, .int .u8 0, .int .u8 0, .int .u8 0, .int .u8 0, .bool true, .int .i64 5, .int .i64 7, .int .i64 0, .int .i64 0, .int .i64 0]
theorem ipF3_one : ∀ v ∈ ipF3, v.oneCell' = true := by decide
theorem ipF3_len : ipF3.length = 51 := by rfl
def exD : List UInt8 := [0, 5, 0, 7, 0, 8, 0, 0]
theorem carried_ex (A : Option Addr) (c : Nat) (w : World) (hr : Rd w w.heap.size A 8 exD) (hc : 8 ≤ c) :
    Calls Tryd.prog 14 #[.agg ipF2.toArray, .slice A 8 c] w fun e w' => e = .returned (.agg ipF3.toArray) ∧ Below w.heap.size w w' := by
  obtain ⟨W1, hW1⟩ : ∃ W1, w.alloc (.cells ipF2.toArray 25) = W1 := ⟨_, rfl⟩
  have k1 : Blk W1 w.heap.size 25 ipF2 := by rw [← hW1]; exact blk_new w _ ipF2
  have B1 : Below w.heap.size w W1 := by rw [← hW1]; exact (Below.refl _ _).alloc (Nat.le_refl _) _
  have s1 : W1.heap.size = w.heap.size + 1 := by rw [← hW1]; simp
  obtain ⟨W2, hW2⟩ : ∃ W2, W1.alloc (.cells (.int .i64 0 :: .int .i64 0 :: .int .i64 0 :: .int .i64 0 :: .int .i64 0 :: .int .i64 0 :: .bool false :: .bool false :: .int .i64 0 :: .int .i64 0 :: .int .i64 0 :: .int .i64 0 :: .int .i64 0 :: .int .u8 0 :: .int .u8 0 :: .int .u8 0 :: .int .u8 0 :: .int .u8 0 :: .int .u8 0 :: .int .u8 0 :: .int .u8 0 :: .int .u8 0 :: .int .u8 0 :: .int .u8 0 :: .int .u8 0 :: .int .u8 0 :: .int .u8 0 :: .int .u8 0 :: .int .u8 0 :: .int .u8 0 :: .int .u8 0 :: .int .u8 0 :: .int .u8 0 :: .int .u8 0 :: .int .u8 0 :: .int .u8 0 :: .int .u8 0 :: .int .u8 0 :: .int .u8 0 :: .int .u8 0 :: .int .u8 0 :: .int .u8 0 :: .int .u8 0 :: .int .u8 0 :: .int .u8 0 :: .bool false :: .int .i64 0 :: .int .i64 0 :: .int .i64 0 :: .int .i64 0 :: .int .i64 0 :: []).toArray 25) = W2 := ⟨_, rfl⟩
  have kz : Blk W2 W1.heap.size 25 ipZ := by rw [← hW2]; exact blk_new W1 _ ipZ
  have B12 : Below W1.heap.size W1 W2 := by rw [← hW2]; exact (Below.refl _ _).alloc (Nat.le_refl _) _
  have k2 : Blk W2 w.heap.size 25 ipF2 := (B12.block _ (by omega)).trans k1
  have B2 : Below w.heap.size w W2 := B1.trans (B12.mono B1.size)
  have c8 : W2.cell? ⟨w.heap.size, 8, none⟩ = some (.int .i64 0) := k2.cell 8
  have c10 : W2.cell? ⟨w.heap.size, 10, none⟩ = some (.int .i64 17) := k2.cell 10
  have c45 : W2.cell? ⟨w.heap.size, 45, none⟩ = some (.bool false) := k2.cell 45
  have c46 : W2.cell? ⟨w.heap.size, 46, none⟩ = some (.int .i64 0) := k2.cell 46
  have c47 : W2.cell? ⟨w.heap.size, 47, none⟩ = some (.int .i64 0) := k2.cell 47
  have f45 := k2.frozen 45
  have f46 := k2.frozen 46
  have f47 := k2.frozen 47
  have N0 : Hid (Calls Tryd.prog 23 #[.slice A 8 c, .int .i64 0, .int .i64 2] W2 fun e w' => e = .returned (.int .i64 5) ∧ W2 = w') := Lib.hid (ipnum_two A 8 c w.heap.size 0 exD 5 W2 (hr.below B2) hc (by decide) (by decide) (by decide +kernel) (by decide) (by decide))
  have N2 : Hid (Calls Tryd.prog 23 #[.slice A 8 c, .int .i64 2, .int .i64 2] W2 fun e w' => e = .returned (.int .i64 7) ∧ W2 = w') := Lib.hid (ipnum_two A 8 c w.heap.size 2 exD 7 W2 (hr.below B2) hc (by decide) (by decide) (by decide +kernel) (by decide) (by decide))
  have HI : Hid ((Tryd.prog.info? 25).map (·.size) = some ipF3.toArray.size) := info25
  obtain ⟨WA, hWA⟩ : ∃ WA, ((W2.setCell ⟨w.heap.size, 46, none⟩ (.int .i64 5)).setCell ⟨w.heap.size, 47, none⟩ (.int .i64 7)).setCell ⟨w.heap.size, 45, none⟩ (.bool true) = WA := ⟨_, rfl⟩
  have KA : Hid (Blk WA w.heap.size 25 ipF3) := by rw [← hWA]; exact ((k2.set_ 46 _).set_ 47 _).set_ 45 _
  have hg : W2.grownBy WA (some w.heap.size) := by rw [← hWA]; exact only_then (only_then (only_set _) (only_set _) (fun i hi => .inl hi)) (only_set _) (fun i hi => .inl hi)
  have KZ : Hid (Blk WA W1.heap.size 25 ipZ) := (hg.block _ kz.lt (by simp; omega)).trans kz
  have BA : Hid (Below w.heap.size w WA) := B2.grown hg B2.size (fun k e => by cases e; exact Nat.le_refl _)
  have HL : Hid (w.heap.size ≤ W1.heap.size) := B1.size
  clear k1 kz B1 s1 B12 k2 B2 hg hr
  go_enter Tryd.func14, Tryd.ntmps14
  go_upto_region 11 with (go_at_call 23; first
    | ((with_reducible refine N0.out.mono ?_); rintro e w' ⟨rfl, rfl⟩)
    | ((with_reducible refine N2.out.mono ?_); rintro e w' ⟨rfl, rfl⟩))
  have SA := KA.out
  have SZ := KZ.out
  have HI2 := HI.out
  refine wp_region_lit ?_
  refine wpList_load_row rfl 25 (.tmp 2) rfl w.heap.size rfl 25 ipF3.toArray (0, 0) _ SA Tryd.underlying25 rfl HI2 ?_
  refine wpList_store_rowTo rfl 25 _ _ rfl rfl W1.heap.size ipF3.toArray rfl rfl 25 ipZ.toArray SZ info25 rfl (by kernel_rfl) ?_
  have kF : Blk (WA.setRow W1.heap.size ipF3.toArray) W1.heap.size 25 ipF3 := setRow_heap _ _ _ _ _ _ SZ
  have BF : Below w.heap.size w (WA.setRow W1.heap.size ipF3.toArray) := BA.out.grown (grown_setRow _) BA.out.size (fun k e => by cases e; exact HL.out)
  refine wpList_nil ?_
  try simp only [Act.put, List.setIfInBounds_toArray, List.set_cons_zero, List.set_cons_succ]
  try simp only [Exit.inBlock, Exit.then]
  try go_wp2
  exact bodyPost_ret (results_cell_row rfl _ _ W1.heap.size _ ipF3.toArray (0, 0) _ rfl kF Tryd.underlying25 rfl HI.out) rfl ⟨rfl, BF⟩
end Go.Proofs.YtjkdlmielckaaaaDoor
