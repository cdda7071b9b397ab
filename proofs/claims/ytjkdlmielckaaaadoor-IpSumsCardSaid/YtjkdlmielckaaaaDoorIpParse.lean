/-
  ip.Parse of the chapter's example.
-/
import Derived.Test.YtjkdlmielckaaaaDoorIpCarr
namespace Go.Proofs.YtjkdlmielckaaaaDoor
open Go.RowKit
set_option maxRecDepth 100000
set_option maxHeartbeats 4000000
set_option linter.unusedSimpArgs false
set_option linter.unusedVariables false

def exB : List UInt8 := exH ++ exD
theorem exB_take : exB.take 20 = exH := by rfl
theorem exB_drop : exB.drop 20 = exD := by rfl
theorem rd_tail {w : World} {B b o : Nat} (h : Rd w B (some ⟨b, o, none⟩) 28 exB) : Rd w B (some ⟨b, o + 20, none⟩) 8 exD := by
  have h2 := h.cut (k := 20) (c := 29) (by decide) (by decide)
  rw [exB_drop, if_neg (by decide)] at h2
  exact h2
theorem parse_ex (b o c : Nat) (w : World) (hr : Rd w w.heap.size (some ⟨b, o, none⟩) 28 exB) (hc : 28 ≤ c) :
    Calls Tryd.prog 7 #[.slice (some ⟨b, o, none⟩) 28 c] w fun e w' => e = .returned (.tuple #[.agg ipF3.toArray, .int .i64 0]) ∧ Below w.heap.size w w' := by
  obtain ⟨W1, hW1⟩ : ∃ W1, w.alloc (.cells (.int .i64 0 :: .int .i64 0 :: .int .i64 0 :: .int .i64 0 :: .int .i64 0 :: .int .i64 0 :: .bool false :: .bool false :: .int .i64 0 :: .int .i64 0 :: .int .i64 0 :: .int .i64 0 :: .int .i64 0 :: .int .u8 0 :: .int .u8 0 :: .int .u8 0 :: .int .u8 0 :: .int .u8 0 :: .int .u8 0 :: .int .u8 0 :: .int .u8 0 :: .int .u8 0 :: .int .u8 0 :: .int .u8 0 :: .int .u8 0 :: .int .u8 0 :: .int .u8 0 :: .int .u8 0 :: .int .u8 0 :: .int .u8 0 :: .int .u8 0 :: .int .u8 0 :: .int .u8 0 :: .int .u8 0 :: .int .u8 0 :: .int .u8 0 :: .int .u8 0 :: .int .u8 0 :: .int .u8 0 :: .int .u8 0 :: .int .u8 0 :: .int .u8 0 :: .int .u8 0 :: .int .u8 0 :: .int .u8 0 :: .bool false :: .int .i64 0 :: .int .i64 0 :: .int .i64 0 :: .int .i64 0 :: .int .i64 0 :: []).toArray 25) = W1 := ⟨_, rfl⟩
  have kz : Blk W1 w.heap.size 25 ipZ := by rw [← hW1]; exact blk_new w _ ipZ
  have B1 : Below w.heap.size w W1 := by rw [← hW1]; exact (Below.refl _ _).alloc (Nat.le_refl _) _
  have s1 : W1.heap.size = w.heap.size + 1 := by rw [← hW1]; simp
  obtain ⟨b9, o9, he9, hb9, hcell⟩ := (hr.below B1).2 (by decide)
  cases he9
  have c0 : W1.cell? ⟨b, o, none⟩ = some (.int .u8 69) := hcell 0 (by decide)
  have F := Lib.hid (four_ex b o c exB W1 ((hr.below B1).wide B1.size) exB_take hc)
  have HR := Lib.hid hr
  have HKZ := Lib.hid kz
  have HB1 := Lib.hid B1
  have HS1 := Lib.hid s1
  have HI : Hid ((Tryd.prog.info? 25).map (·.size) = some ipF3.toArray.size) := info25
  have len2 := ipF2_len
  have hci : (28 : Int) ≤ (c : Int) := by omega
  clear kz B1 s1 hr hcell hb9
  go_enter Tryd.func7, Tryd.ntmps7
  go_upto_region 14 with (go_at_call 12; ((with_reducible refine F.out.mono ?_); rintro e w4 ⟨rfl, hb4⟩; obtain ⟨W5, hst, k5, B5⟩ := fresh_row2 w4 25 ipF2 ipF2_len ipF2_one; have HB4 := Lib.hid hb4; have K5 := Lib.hid k5; have HB5 := Lib.hid B5; clear hb4 k5 B5))
  have z1 := HS1.out
  have z4 := HB4.out.size
  have BW5 : Below w.heap.size w W5 := (HB1.out.trans (HB4.out.mono HB1.out.size)).trans (HB5.out.mono (by omega))
  have BD : Below w.heap.size w W5.drew := below_drewN BW5 1
  have KZ5 : Blk W5.drew w.heap.size 25 ipZ := (HB5.out.block _ (by omega)).trans ((HB4.out.block _ (by omega)).trans HKZ.out)
  have K5D : Blk W5.drew w4.heap.size 25 ipF2 := K5.out
  have CE := Lib.hid (carried_ex (some ⟨b, o + 20, none⟩) 8 W5.drew (rd_tail ((HR.out.below BD).wide BD.size)) (by decide))
  have HBD := Lib.hid BD
  have HKZ5 := Lib.hid KZ5
  have HK5D := Lib.hid K5D
  have HZ1 := Lib.hid z1
  clear hst hW1 z4 BW5 BD KZ5 K5D c0 z1
  have ID2 : Hid ((Tryd.prog.info? 25).map (·.size) = some ipF2.length) := info25
  refine wp_region_held_drew (S := fun w' => w'.rangeAt w4.heap.size 0 ipF2) (by kernel_rfl) ?_ (fun hHeld => ?_)
  · exact blk_range HK5D.out
  refine' wpAnyH_take (i := 0) (oi := _) (v := _) rfl (by kernel_rfl) (by kernel_rfl) (by kernel_rfl) (fun _ _ _ h => h) (yieldsIf_load_mid (by kernel_rfl) _ _ rfl _ _ rfl ipF2 _ (fun _ h => h) Tryd.underlying25 rfl ID2.out) hHeld ?_
  try simp only [Act.put, List.setIfInBounds_toArray, List.set_cons_zero, List.set_cons_succ]
  refine wpAnyH_take (i := 1) (oi := _) (v := ?_) rfl (by kernel_rfl) (by kernel_rfl) (by kernel_rfl) (fun _ _ _ h => h) (Or.inl ⟨by kernel_rfl, ?_⟩) hHeld ?_
  rotate_left
  · intro w5 hSw
    go_simp
    try with_reducible rfl
  try simp only [Act.put, List.setIfInBounds_toArray, List.set_cons_zero, List.set_cons_succ]
  refine wpAnyH_take (i := 2) (oi := _) (v := ?_) rfl (by kernel_rfl) (by kernel_rfl) (by kernel_rfl) (fun _ _ _ h => h) (Or.inl ⟨by kernel_rfl, ?_⟩) hHeld ?_
  rotate_left
  · intro w5 hSw
    go_simp
    try with_reducible rfl
  try simp only [Act.put, List.setIfInBounds_toArray, List.set_cons_zero, List.set_cons_succ]
  refine wpAnyH_take (i := 3) (oi := _) (v := ?_) rfl (by kernel_rfl) (by kernel_rfl) (by kernel_rfl) (fun _ _ _ h => h) (Or.inl ⟨by kernel_rfl, ?_⟩) hHeld ?_
  rotate_left
  · intro w5 hSw
    have q4 : w5.cell? ⟨w4.heap.size, 4, none⟩ = some (.int .i64 20) := hSw 4 _ rfl
    go_simp
    try with_reducible rfl
  try simp only [Act.put, List.setIfInBounds_toArray, List.set_cons_zero, List.set_cons_succ]
  refine wpAnyH_take (i := 4) (oi := _) (v := ?_) rfl (by kernel_rfl) (by kernel_rfl) (by kernel_rfl) (fun _ _ _ h => h) (Or.inl ⟨by kernel_rfl, ?_⟩) hHeld ?_
  rotate_left
  · intro w5 hSw
    go_simp
    try with_reducible rfl
  try simp only [Act.put, List.setIfInBounds_toArray, List.set_cons_zero, List.set_cons_succ]
  refine wpAnyH_take (i := 5) (oi := _) (v := ?_) rfl (by kernel_rfl) (by kernel_rfl) (by kernel_rfl) (fun _ _ _ h => h) (Or.inl ⟨by kernel_rfl, ?_⟩) hHeld ?_
  rotate_left
  · intro w5 hSw
    have q3 : w5.cell? ⟨w4.heap.size, 3, none⟩ = some (.int .i64 28) := hSw 3 _ rfl
    go_simp
    try with_reducible rfl
  try simp only [Act.put, List.setIfInBounds_toArray, List.set_cons_zero, List.set_cons_succ]
  refine wpAnyH_take (i := 6) (oi := _) (v := ?_) rfl (by kernel_rfl) (by kernel_rfl) (by kernel_rfl) (fun _ _ _ h => h) (Or.inl ⟨by kernel_rfl, ?_⟩) hHeld ?_
  rotate_left
  · intro w5 hSw
    go_simp
    try with_reducible rfl
  try simp only [Act.put, List.setIfInBounds_toArray, List.set_cons_zero, List.set_cons_succ]
  refine wpAnyH_take (i := 7) (oi := _) (v := ?_) rfl (by kernel_rfl) (by kernel_rfl) (by kernel_rfl) (fun _ _ _ h => h) (Or.inl ⟨by kernel_rfl, ?_⟩) hHeld ?_
  rotate_left
  · intro w5 hSw
    have q3 : w5.cell? ⟨w4.heap.size, 3, none⟩ = some (.int .i64 28) := hSw 3 _ rfl
    go_simp
    try with_reducible rfl
  try simp only [Act.put, List.setIfInBounds_toArray, List.set_cons_zero, List.set_cons_succ]
  refine wpAnyH_take (i := 8) (oi := _) (v := ?_) rfl (by kernel_rfl) (by kernel_rfl) (by kernel_rfl) (fun _ _ _ h => h) (Or.inl ⟨by kernel_rfl, ?_⟩) hHeld ?_
  rotate_left
  · intro w5 hSw
    go_simp
    try with_reducible rfl
  try simp only [Act.put, List.setIfInBounds_toArray, List.set_cons_zero, List.set_cons_succ]
  refine wpAnyH_ready (rs := [9]) (by kernel_rfl) (by decide) (AllReadyH.cons (o := _) rfl (fun K hK => ?_) AllReadyH.nil)
  go_simp
  refine CE.out.mono ?_
  rintro e w7 ⟨rfl, hb7⟩
  dsimp only
  have K5D := HK5D.out
  have KZ5 := HKZ5.out
  have BD := HBD.out
  have z1 := HZ1.out
  have z4 := HB4.out.size
  have lz4 : w4.heap.size < W5.drew.heap.size := K5D.lt
  have lz0 : w.heap.size < W5.drew.heap.size := KZ5.lt
  have K7 : Blk w7 w4.heap.size 25 ipF2 := (hb7.block _ lz4).trans K5D
  have KZ7 : Blk w7 w.heap.size 25 ipZ := (hb7.block _ lz0).trans KZ5
  obtain ⟨W8, hst8, k8, g8⟩ := store_row (vs := ipF3) KZ7 (by rfl) ipF3_one
  have K8 : Blk W8 w4.heap.size 25 ipF2 := (g8.block _ K7.lt (by simp; omega)).trans K7
  have B8 : Below w.heap.size w W8 := (BD.trans (hb7.mono BD.size)).grown g8 (by have := BD.size; have := hb7.size; omega) (fun k e => by cases e; exact Nat.le_refl _)
  refine hK.out _ _ (blk_range K7) (fun hHeld => ?_)
  clear hK K
  try simp only [Act.put, List.setIfInBounds_toArray, List.set_cons_zero, List.set_cons_succ]
  have len3 := ipF3_len
  refine wpAnyH_ready (rs := [10]) (by kernel_rfl) (by decide) (AllReadyH.cons (o := _) rfl (fun K hK => ?_) AllReadyH.nil)
  go_simp
  refine hK.out _ _ (blk_range K8) (fun hHeld => ?_)
  clear hK K
  try simp only [Act.put, List.setIfInBounds_toArray, List.set_cons_zero, List.set_cons_succ]
  refine wpAnyH_take (i := 11) (oi := _) (v := ?_) rfl (by kernel_rfl) (by kernel_rfl) (by kernel_rfl) (fun _ _ _ h => h) (Or.inl ⟨by kernel_rfl, ?_⟩) hHeld ?_
  rotate_left
  · intro w5 hSw
    go_simp
    try with_reducible rfl
  try simp only [Act.put, List.setIfInBounds_toArray, List.set_cons_zero, List.set_cons_succ]
  refine wpAnyH_done (by kernel_rfl) ?_ _
  try simp only [List.getElem_toArray, List.getElem_cons_succ, List.getElem_cons_zero, List.setIfInBounds_toArray, List.set_cons_zero, List.set_cons_succ]
  have KF := Lib.hid k8
  have HBF := Lib.hid B8
  clear k8 B8 K8 K7 KZ7 g8 hst8 KZ5 K5D BD z1 z4 lz4 lz0 hb7
  go_wp2
  try simp only [Exit.inBlock, Exit.then]
  exact bodyPost_ret (results_row_tmp rfl _ _ w.heap.size _ ipF3.toArray _ rfl KF.out Tryd.underlying25 rfl HI.out) rfl ⟨rfl, HBF.out⟩
end Go.Proofs.YtjkdlmielckaaaaDoor
