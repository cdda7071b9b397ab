/-
  ip.Build of the chapter's example.
-/
import Derived.Test.YtjkdlmielckaaaaDoorIpHead
import Derived.Deep.RegionHeld3
import Derived.Deep.RegionHeldLaw
import Derived.Deep.RegionLaw
import Derived.Deep.MidRow
import Derived.Laws.Tables
import Derived.Laws.Rows
namespace Go.Proofs.YtjkdlmielckaaaaDoor
open Go.RowKit
set_option maxRecDepth 100000
set_option maxHeartbeats 4000000
set_option linter.unusedSimpArgs false
set_option linter.unusedVariables false

theorem blk_range {W : World} {z t : Nat} {cs : List Value} (h : Blk W z t cs) : W.rangeAt z 0 cs := by
  intro j v hj
  rw [Nat.zero_add]
  exact (h.cell j).trans hj
theorem store_row {w : World} {g t : Nat} {cs vs : List Value} (h : Blk w g t cs) (hl : vs.length = cs.length) (h1 : ∀ v ∈ vs, v.oneCell' = true) :
    ∃ w', (storeCells ⟨g, 0, none⟩ vs).run Tryd.prog w = .ok () w' ∧ Blk w' g t vs ∧ w.grownBy w' (some g) := by
  have h2 := run_storeCells_from (P := Tryd.prog) g t vs 0 cs.toArray w h (by simp [hl]) h1
  exact ⟨w.setRow g vs.toArray, by simpa using h2, setRow_heap w g _ _ t _ h, grown_setRow _⟩
theorem info25 : (Tryd.prog.info? 25).map (·.size) = some 51 := by kernel_rfl
theorem info54 : (Tryd.prog.info? 54).map (·.size) = some 51 := by kernel_rfl
/-- zero fields, a row of 51 cells -/
def ipZ : List Value := [.int .i64 0, .int .i64 0, .int .i64 0, .int .i64 0, .int .i64 0, .int .i64 0, .bool false, .bool false, .int .i64 0, .int .i64 0, .int .i64 0, .int .i64 0, .int .i64 0, .int .u8 0, .int .u8 0, .int .u8 0, .int .u8 0, .int .u8 0, .int .u8 0, .int .u8 0, .int .u8 0, .int .u8 0, .int .u8 0, .int .u8 0, .int .u8 0, .int .u8 0, .int .u8 0, .int .u8 0, .int .u8 0, .int .u8 0, .int .u8 0, .int .u8 0, .int .u8 0, .int .u8 0, .int .u8 0, .int .u8 0, .int .u8 0, .int .u8 0, .int .u8 0, .int .u8 0, .int .u8 0, .int .u8 0, .int .u8 0, .int .u8 0, .int .u8 0, .bool false, .int .i64 0, .int .i64 0, .int .i64 0, .int .i64 0, .int .i64 0]
/-- a new row of zeros, and other cells stored into it -/
theorem fresh_row (W1 : World) (t : Nat) (vs : List Value) (hl : vs.length = 51) (h1 : ∀ v ∈ vs, v.oneCell' = true) :
    ∃ W3, (storeCells ⟨W1.heap.size, 0, none⟩ vs).run Tryd.prog (W1.alloc (.cells #[.int .i64 0, .int .i64 0, .int .i64 0, .int .i64 0, .int .i64 0, .int .i64 0, .bool false, .bool false, .int .i64 0, .int .i64 0, .int .i64 0, .int .i64 0, .int .i64 0, .int .u8 0, .int .u8 0, .int .u8 0, .int .u8 0, .int .u8 0, .int .u8 0, .int .u8 0, .int .u8 0, .int .u8 0, .int .u8 0, .int .u8 0, .int .u8 0, .int .u8 0, .int .u8 0, .int .u8 0, .int .u8 0, .int .u8 0, .int .u8 0, .int .u8 0, .int .u8 0, .int .u8 0, .int .u8 0, .int .u8 0, .int .u8 0, .int .u8 0, .int .u8 0, .int .u8 0, .int .u8 0, .int .u8 0, .int .u8 0, .int .u8 0, .int .u8 0, .bool false, .int .i64 0, .int .i64 0, .int .i64 0, .int .i64 0, .int .i64 0] t)) = .ok () W3 ∧ Blk W3 W1.heap.size t vs ∧ Below W1.heap.size W1 W3 := by
  obtain ⟨W3, h2, h3, h4⟩ := store_row (blk_new W1 t ipZ) (show vs.length = ipZ.length by rw [hl]; rfl) h1
  exact ⟨W3, h2, h3, ((Below.refl _ _).alloc (Nat.le_refl _) _).grown h4 (by simp) (fun k e => by cases e; exact Nat.le_refl _)⟩

theorem build_ex (fv : Array Value) (A : Option Addr) (n c B : Nat) (l : List UInt8) (w : World) (hf : FldA fv) (hs : fv.size = 51) (h1 : ∀ v ∈ fv.toList, v.oneCell' = true) (hr : Rd w w.heap.size A n l) (hA : A = none → c = 0) (hn : n = 8) :
    Calls Tryd.prog 15 #[.agg fv, .slice A n c] w fun e w' => ∃ v, e = .returned (.tuple #[v, .int .i64 0]) ∧ Own w' w.heap.size v (exH ++ l) ∧ Below w.heap.size w w' := by
  subst hn
  obtain ⟨W1, hW1⟩ : ∃ W1, w.alloc (.cells fv 25) = W1 := ⟨_, rfl⟩
  have k1 : Blk W1 w.heap.size 25 fv.toList := by rw [← hW1]; exact blk_new w _ _
  have B1 : Below w.heap.size w W1 := by rw [← hW1]; exact (Below.refl _ _).alloc (Nat.le_refl _) _
  have IL : Hid ((Tryd.prog.info? 25).map (·.size) = some fv.size) := by show _ = _; rw [hs]; exact info25
  have ID : Hid ((Tryd.prog.info? 54).map (·.size) = some fv.size) := by show _ = _; rw [hs]; exact info54
  have ID2 : Hid ((Tryd.prog.info? 54).map (·.size) = some fv.toList.length) := by show _ = _; rw [Array.length_toList, hs]; exact info54
  have K1 : Hid (W1.heap[w.heap.size]? = some (.cells fv 25 (0, 0))) := by show _ = _; simpa [Blk] using k1
  obtain ⟨W3, hst, k3, B3⟩ := fresh_row W1 54 fv.toList (by rw [Array.length_toList, hs]) h1
  have HS := Lib.hid (blk_range k3)
  have HF := Lib.hid hf
  have B13 : Below w.heap.size w W3 := B1.trans (B3.mono B1.size)
  have c0 : W3.cell? ⟨w.heap.size, 0, none⟩ = some (.int .i64 4) := (B3.cell (show w.heap.size < W1.heap.size from k1.lt)).trans (by rw [k1.cell 0, Array.getElem?_toList]; exact hf.f0)
  have K3 : Hid (W3.heap[W1.heap.size]? = some (.cells fv 54 (0, 0))) := by show _ = _; simpa [Blk] using k3
  have HB := Lib.hid B13
  have HR := Lib.hid hr
  clear k1 B1 B3 hf k3 B13 h1 hr
  go_enter Tryd.func15, Tryd.ntmps15
  go_upto_region 2 with (refine wpList_load_row rfl 25 (.tmp 2) rfl w.heap.size rfl 25 fv (0, 0) _ K1.out Tryd.underlying25 rfl IL.out ?_)
  refine wp_region_held_drew (S := fun w' => w'.rangeAt W1.heap.size 0 fv.toList) (by kernel_rfl) ?_ (fun hHeld => ?_)
  · exact HS.out
  refine' wpAnyH_take (i := 0) (oi := _) (v := _) rfl (by kernel_rfl) (by kernel_rfl) (by kernel_rfl) (fun _ _ _ h => h) (yieldsIf_load_mid (by kernel_rfl) _ _ rfl _ _ rfl fv.toList _ (fun _ h => h) Tryd.underlying54 rfl ID2.out) hHeld ?_
  try simp only [Act.put, List.setIfInBounds_toArray, List.set_cons_zero, List.set_cons_succ]
  refine wpAnyH_take (i := 1) (oi := _) (v := ?_) rfl (by kernel_rfl) (by kernel_rfl) (by kernel_rfl) (fun _ _ _ h => h) (Or.inl ⟨by kernel_rfl, ?_⟩) hHeld ?_
  rotate_left
  · intro w5 hSw
    go_simp
    try with_reducible rfl
  try simp only [Act.put, List.setIfInBounds_toArray, List.set_cons_zero, List.set_cons_succ]
  refine' wpAnyH_take (i := 2) (oi := _) (v := _) rfl (by kernel_rfl) (by kernel_rfl) (by kernel_rfl) (fun _ _ _ h => h) (yieldsIf_load_mid (by kernel_rfl) _ _ rfl _ _ rfl fv.toList _ (fun _ h => h) Tryd.underlying54 rfl ID2.out) hHeld ?_
  try simp only [Act.put, List.setIfInBounds_toArray, List.set_cons_zero, List.set_cons_succ]
  refine wpAnyH_take (i := 3) (oi := _) (v := ?_) rfl (by kernel_rfl) (by kernel_rfl) (by kernel_rfl) (fun _ _ _ h => h) (Or.inl ⟨by kernel_rfl, ?_⟩) hHeld ?_
  rotate_left
  · intro w5 hSw
    go_simp
    try with_reducible rfl
  try simp only [Act.put, List.setIfInBounds_toArray, List.set_cons_zero, List.set_cons_succ]
  refine wpAnyH_take (i := 4) (oi := _) (v := ?_) rfl (by kernel_rfl) (by kernel_rfl) (by kernel_rfl) (fun _ _ _ h => h) (Or.inl ⟨by kernel_rfl, ?_⟩) hHeld ?_
  rotate_left
  · intro w5 hSw
    go_simp
    try with_reducible rfl
  try simp only [Act.put, List.setIfInBounds_toArray, List.set_cons_zero, List.set_cons_succ]
  refine wpAnyH_take (i := 5) (oi := _) (v := ?_) rfl (by kernel_rfl) (by kernel_rfl) (by kernel_rfl) (fun _ _ _ h => h) (Or.inl ⟨by kernel_rfl, ?_⟩) hHeld ?_
  rotate_left
  · intro w5 hSw
    go_simp
    try with_reducible rfl
  try simp only [Act.put, List.setIfInBounds_toArray, List.set_cons_zero, List.set_cons_succ]
  refine wpAnyH_take (i := 6) (oi := _) (v := ?_) rfl (by kernel_rfl) (by kernel_rfl) (by kernel_rfl) (fun _ _ _ h => h) (Or.inl ⟨by kernel_rfl, ?_⟩) hHeld ?_
  rotate_left
  · intro w5 hSw
    go_simp
    try with_reducible rfl
  try simp only [Act.put, List.setIfInBounds_toArray, List.set_cons_zero, List.set_cons_succ]
  refine wpAnyH_done (by kernel_rfl) ?_ _
  try simp only [List.getElem_toArray, List.getElem_cons_succ, List.getElem_cons_zero, List.setIfInBounds_toArray, List.set_cons_zero, List.set_cons_succ]
  have HBD : Hid (Below w.heap.size w W3.drew) := below_drewN HB.out 1
  clear HB
  go_wp2_with (first
    | (refine wpList_load_row rfl 54 (.tmp 6) rfl W1.heap.size rfl 54 fv (0, 0) _ K3.out Tryd.underlying54 rfl ID.out ?_)
    | (go_at_call 29; ((with_reducible refine (right_ex fv _ HF.out).mono ?_); rintro e w4 ⟨rfl, hb4⟩; have HB4 : Hid (Below w.heap.size w w4) := HBD.out.trans (hb4.mono HBD.out.size); clear hb4))
    | (go_at_call 25; ((with_reducible refine (fourRight_ex fv _ HF.out).mono ?_); rintro e w5 ⟨rfl, hb5⟩; have HB5 : Hid (Below w.heap.size w w5) := HB4.out.trans (hb5.mono HB4.out.size); clear hb5))
    | (go_at_call 26; ((with_reducible refine (fourHead_ex fv _ HF.out).mono ?_); rintro e w6 ⟨v, rfl, ho6, hb6⟩; have HB6 : Hid (Below w.heap.size w w6) := HB5.out.trans (hb6.mono HB5.out.size); obtain ⟨v7, w7, r7, o7, g7, b7⟩ := append_run (own_low ho6 HB5.out.size) c (HR.out.below HB6.out) hA (by decide) HB6.out.size; have R7 := Lib.hid r7; have O7 := Lib.hid o7; have HB7 : Hid (Below w.heap.size w w7) := HB6.out.grown g7 HB6.out.size (fun j hj => ((own_low ho6 HB5.out.size).block j hj).1); clear ho6 hb6 r7 o7 g7 b7))
    | (at_builtin; refine wpList_app rfl (.tmp 42) (.tmp 43) rfl _ _ rfl rfl _ _ R7.out ?_))
  go_ret2
  exact ⟨_, rfl, O7.out, HB7.out⟩
end Go.Proofs.YtjkdlmielckaaaaDoor
