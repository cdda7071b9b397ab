/-
  strconv.ParseUint of two bytes, in base 16, of 8 bits: the number, or an error.
-/
import Derived.Test.YtpdmopfnllfomaaDoorMdHexByte
import Derived.Lib.AppendStr
import Derived.WalkMore
import Derived.Lib.BufferWrite
import Derived.Lib.UnsafeStr
import Derived.Laws.MakeOwn
namespace Go.Proofs.YtpdmopfnllfomaaDoor
open Go.RowKit
set_option maxRecDepth 100000
set_option maxHeartbeats 1000000
set_option linter.unusedSimpArgs false
set_option linter.unusedVariables false

/-- what the variable of the syntax's error holds: one cell -/
def TabE (w : World) : Prop := ∃ te pe, w.cell? ⟨2, 0, none⟩ = some (.iface te pe)
theorem TabE.kept {w w' : World} (h : TabE w) (hB : Below w.heap.size w w') : TabE w' := by
  obtain ⟨te, pe, h⟩ := h
  exact ⟨te, pe, (hB.cell (p := ⟨2, 0, none⟩) (World.block_lt_of_cell? _ _ h)).trans h⟩
theorem mk2_run (w : World) : (Instr.makeSlice 22 (.int .i64 2) (.int .i64 2)).run Tryd.prog w = .ok (.slice (some ⟨w.heap.size, 0, none⟩) 2 2) (w.alloc (.cells (zeros 2).toArray 5)) := by
  obtain ⟨i, hi, hz, h1, h2⟩ := info_parts byte_info
  have h := run_make (P := Tryd.prog) w 22 5 i (.int .u8 0) Tryd.underlying22 hi hz .i64 .i64 2 2 (by omega) (Int.le_refl _) (by rw [h2]; omega) (by omega)
  rw [h1, Nat.mul_one] at h
  rw [h]
  have e : madeCells (Value.int .u8 0).cells 2 = (zeros 2).toArray := by
    apply Array.toList_inj.1
    exact toList_madeCells_one _ _
  exact congrArg (fun c => Result.ok _ (w.alloc (.cells c _))) e
theorem u8_info1 : (Tryd.prog.info? 5).map (·.size) = some 1 := by kernel_rfl
theorem u8_cells : Tryd.prog.cellsOf 5 = 1 := by kernel_rfl
theorem clone2 (c0 c1 : UInt8) (w : World) : Calls Tryd.prog 61 #[.string { data := #[c0, c1] }] w fun e w' => e = .returned (.string { data := #[c0, c1] }) ∧ Below w.heap.size w w' := by
  have hmk := mk2_run w
  obtain ⟨W1, hW1⟩ : ∃ W1, W1 = w.alloc (.cells (zeros 2).toArray 5) := ⟨_, rfl⟩
  have hg1 : W1.heap[w.heap.size]? = some (.cells (zeros 2).toArray 5 (0, 0)) := by rw [hW1]; exact heap_alloc_new w _
  have hcp := Lib.run_copy_row_string (P := Tryd.prog) W1 22 9 3 5 w.heap.size 0 2 2 { data := #[c0, c1] } (zeros 2).toArray 5 Tryd.underlying22 u8_info1 hg1 (Nat.le_refl _) (Nat.le_refl _)
  obtain ⟨W2, hW2⟩ : ∃ W2, W2 = W1.setRow w.heap.size ((zeros 2).take 0 ++ Lib.byteCells [c0, c1] ++ (zeros 2).drop (0 + 2)).toArray := ⟨_, rfl⟩
  have hcp2 : (Builtin.copy_ #[22, 9] 3 #[.slice (some ⟨w.heap.size, 0, none⟩) 2 2, .string { data := #[c0, c1] }]).run Tryd.prog W1 = .ok (.int .i64 2) W2 := by rw [hW2]; exact hcp
  have hg2 : W2.heap[w.heap.size]? = some (.cells #[.int .u8 (c0.toNat : Int), .int .u8 (c1.toNat : Int)] 5 (0, 0)) := by rw [hW2]; exact setRow_heap _ _ _ _ 5 (0, 0) hg1
  have hus := Lib.run_unsafeString_row (P := Tryd.prog) W2 105 3 9 5 Tryd.underlying105 u8_cells w.heap.size 2 (by unfold World.shape?; rw [hg2]; rfl) [c0, c1] (by simp) (Nat.le_refl _) (by simp)
    (fun j x hx => Lib.cells_of_row hg2 2 j _ (by
      match j, hx with
      | 0, hx => simp at hx; subst hx; rfl
      | 1, hx => simp at hx; subst hx; rfl))
  have hus2 : (Builtin.unsafeString_ #[105, 3] 9 #[.pointer (some ⟨w.heap.size, 0, none⟩), .int .i64 2]).run Tryd.prog W2 = .ok (.string { data := #[c0, c1] }) (W2.freeze ⟨w.heap.size, 0, none⟩ 2) := hus
  have hb1 : Below w.heap.size w W1 := by rw [hW1]; exact (Below.refl _ w).alloc (Nat.le_refl _) _
  have hb2 : Below w.heap.size W1 W2 := by rw [hW2]; exact ⟨rfl, rfl, rfl, by simp, fun k hk => setRow_other _ _ _ _ (by omega)⟩
  have BF := Lib.hid (Lib.below_freeze (hb1.trans hb2) (p := ⟨w.heap.size, 0, none⟩) (Nat.le_refl _) 2)
  rw [← hW1] at hmk
  clear hcp hus hg1 hW1 hW2 hb1 hb2
  go_enter Tryd.func61, Tryd.ntmps61
  go_wp2
  go_ret
  exact ⟨rfl, BF.out⟩
theorem syntax2 (c0 c1 : UInt8) (fn : ByteArray) (w : World) (hE : TabE w) : Calls Tryd.prog 57 #[.string fn, .string { data := #[c0, c1] }] w fun e w' => (∃ N, e = .returned (.pointer (some ⟨N, 0, none⟩))) ∧ Below w.heap.size w w' := by
  obtain ⟨te, pe, hE⟩ := hE
  have hG := World.block_lt_of_cell? _ _ hE
  have hvd : w.drew.cell? ⟨2, 0, none⟩ = some (.iface te pe) := hE
  go_enter Tryd.func57, Tryd.ntmps57
  go_wp2
  go_region_with (go_at_call 61; refine (clone2 c0 c1 _).mono ?_; rintro e w2 ⟨rfl, hbel⟩; have hv2 : w2.cell? ⟨2, 0, none⟩ = some (.iface te pe) := (hbel.cell (show (⟨2, 0, none⟩ : Addr).block < w.drew.heap.size from hG)).trans hvd)
  all_goals (
    go_wp2
    go_ret
    have hs2 : w.heap.size ≤ w2.heap.size := hbel.size
    exact ⟨⟨_, rfl⟩, ((Below.drew (Below.refl _ w)).trans hbel).alloc hs2 _⟩)
theorem toError2 (c0 c1 : UInt8) (fn : ByteArray) (w : World) (hE : TabE w) : Calls Tryd.prog 53 #[.string fn, .string { data := #[c0, c1] }, .int .i64 16, .int .i64 8, .iface 94 (.int .i64 2)] w fun e w' => (∃ T v, e = .returned (.iface T v)) ∧ Below w.heap.size w w' := by
  have heq : ∀ W, (binOp .eql 67 (.iface 94 (.int .i64 2)) (.iface 94 (.int .i64 2))).run Tryd.prog W = .ok (.bool true) W := fun W => by kernel_rfl
  go_enter Tryd.func53, Tryd.ntmps53
  go_wp2_with fail
  refine (syntax2 c0 c1 fn _ hE).mono ?_
  rintro e w2 ⟨⟨N, rfl⟩, hb⟩
  have HB := Lib.hid hb
  clear hb
  go_wp2
  go_ret
  exact ⟨⟨_, _, rfl⟩, HB.out⟩
theorem parse16_any (c0 c1 : UInt8) (w : World) (hE : TabE w) : Calls Tryd.prog 39 #[.string { data := #[c0, c1] }, .int .i64 16, .int .i64 8] w fun e w' => Below w.heap.size w w' ∧
    ((isDig c0 = true ∧ isDig c1 = true ∧ e = .returned (.tuple #[.int .u64 ((16 * digVal c0 + digVal c1 : Nat) : Int), .nilIface])) ∨
     (¬ (isDig c0 = true ∧ isDig c1 = true) ∧ ∃ T v, e = .returned (.tuple #[.int .u64 0, .iface T v]))) := by
  have P := parse16_in c0 c1 w
  have HE := Lib.hid hE
  clear hE
  go_enter Tryd.func39, Tryd.ntmps39
  go_wp2_with fail
  refine P.mono ?_
  rintro e w1 ⟨hb, (⟨h0, h1, rfl⟩ | ⟨hn, rfl⟩)⟩
  · have HB := Lib.hid hb
    have H0 := Lib.hid h0
    have H1 := Lib.hid h1
    clear hb h0 h1
    go_wp2
    go_ret2
    exact ⟨HB.out, .inl ⟨H0.out, H1.out, rfl⟩⟩
  · have HB := Lib.hid hb
    have HN := Lib.hid hn
    have T := Lib.hid (toError2 c0 c1 { data := #[80, 97, 114, 115, 101, 85, 105, 110, 116] } w1 (HE.out.kept hb))
    clear hb hn
    go_wp2_with fail
    refine T.out.mono ?_
    rintro e w2 ⟨⟨te, ve, rfl⟩, hb2⟩
    have HB2 := Lib.hid (HB.out.trans (hb2.mono HB.out.size))
    clear hb2
    go_wp2
    go_ret2
    exact ⟨HB2.out, .inr ⟨HN.out, _, _, rfl⟩⟩
end Go.Proofs.YtpdmopfnllfomaaDoor
