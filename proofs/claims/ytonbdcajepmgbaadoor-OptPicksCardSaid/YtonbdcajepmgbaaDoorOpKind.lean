/-
  opt.Kind, tetherref09.Kind: what a code is called.
-/
import Derived.Test.YtonbdcajepmgbaaDoorOpRFits
import Derived.Deep.Cut
namespace Go.Proofs.YtonbdcajepmgbaaDoor
open Go.RowKit
set_option maxRecDepth 100000
set_option maxHeartbeats 2000000
set_option linter.unusedSimpArgs false
set_option linter.unusedVariables false

def opNames : List (List UInt8) := [[], [99, 111, 110, 102, 45, 114, 101, 113], [99, 111, 110, 102, 45, 97, 99, 107], [99, 111, 110, 102, 45, 110, 97, 107], [99, 111, 110, 102, 45, 114, 101, 106], [116, 101, 114, 109, 45, 114, 101, 113], [116, 101, 114, 109, 45, 97, 99, 107], [99, 111, 100, 101, 45, 114, 101, 106], [112, 114, 111, 116, 45, 114, 101, 106], [101, 99, 104, 111, 45, 114, 101, 113], [101, 99, 104, 111, 45, 114, 101, 112], [100, 105, 115, 99, 97, 114, 100], [105, 100, 101, 110, 116], [], [114, 101, 115, 101, 116, 45, 114, 101, 113], [114, 101, 115, 101, 116, 45, 97, 99, 107]]
/-- the names lie in the program's variable -/
def TabK (w : World) : Prop := ∀ i, i < 16 → w.cell? ⟨0, i, none⟩ = some (.string ⟨(opNames.getD i []).toArray⟩)
theorem TabK.lt {w : World} (h : TabK w) : 0 < w.heap.size := World.block_lt_of_cell? _ _ (h 0 (by omega))
theorem TabK.keptB {w w' : World} {base : Nat} (h : TabK w) (hB : Below base w w') (hb : 0 < base) : TabK w' := fun i hi =>
  (hB.cell (p := ⟨0, i, none⟩) hb).trans (h i hi)
def nameK (s : Int) : List UInt8 := if decide (0 ≤ s ∧ s ≤ 15) then opNames.getD s.toNat [] else []
theorem okind_any (s : Int) (w : World) (hT : TabK w) : Calls Tryd.prog 19 #[.int .i64 s] w fun r w' => r = .returned (.string ⟨(nameK s).toArray⟩) ∧ w = w' := by
  by_cases h : 0 ≤ s ∧ s ≤ 15
  · have e : nameK s = opNames.getD s.toNat [] := by unfold nameK; rw [decide_eq_true h]; rfl
    rw [e]
    obtain ⟨k, rfl⟩ := Int.eq_ofNat_of_zero_le h.1
    have hc := hT k (by omega)
    have hk : k < 16 := by omega
    rw [Int.toNat_natCast]
    obtain ⟨x, hx⟩ : ∃ x, opNames.getD k [] = x := ⟨_, rfl⟩
    rw [hx] at hc ⊢
    clear hT hx e h
    go_enter Tryd.func19, Tryd.ntmps19
    go_wp2
    go_ret
    exact ⟨rfl, rfl⟩
  · have e : nameK s = [] := by unfold nameK; rw [decide_eq_false h]; rfl
    rw [e]
    clear e hT
    by_cases h0 : s < 0
    · clear h
      go_enter Tryd.func19, Tryd.ntmps19
      go_wp2
      go_ret
      exact ⟨rfl, rfl⟩
    · have h1 : 16 ≤ s := by omega
      clear h
      go_enter Tryd.func19, Tryd.ntmps19
      go_wp2
      go_ret
      exact ⟨rfl, rfl⟩
theorem rkind_any (s : Int) (w : World) : Calls Tryd.prog 20 #[.int .i64 s] w fun r w' => r = .returned (.string ⟨(nameK s).toArray⟩) ∧ Below w.heap.size w w' := by
  obtain ⟨W1, hW1⟩ : ∃ W1, W1 = w.alloc (.cells (opNames.map fun l => .string ⟨l.toArray⟩).toArray 9) := ⟨_, rfl⟩
  have hb : Blk W1 w.heap.size 9 (opNames.map fun l => .string ⟨l.toArray⟩) := by rw [hW1]; exact blk_new w _ _
  have HB : Hid (∀ k, k < 16 → W1.cell? ⟨w.heap.size, k, none⟩ = some (.string ⟨(opNames.getD k []).toArray⟩)) := by
    show ∀ k, _ → _
    intro k hk
    rw [hb.cell, List.getElem?_map, List.getElem?_eq_getElem (show k < opNames.length from hk), List.getD_eq_getElem?_getD, List.getElem?_eq_getElem (show k < opNames.length from hk)]
    rfl
  have HL : Hid (Below w.heap.size w W1) := by rw [hW1]; exact (Below.refl _ _).alloc (Nat.le_refl _) _
  have HW : Hid (w.alloc (.cells #[.string ⟨#[]⟩, .string ⟨#[99, 111, 110, 102, 45, 114, 101, 113]⟩, .string ⟨#[99, 111, 110, 102, 45, 97, 99, 107]⟩, .string ⟨#[99, 111, 110, 102, 45, 110, 97, 107]⟩, .string ⟨#[99, 111, 110, 102, 45, 114, 101, 106]⟩, .string ⟨#[116, 101, 114, 109, 45, 114, 101, 113]⟩, .string ⟨#[116, 101, 114, 109, 45, 97, 99, 107]⟩, .string ⟨#[99, 111, 100, 101, 45, 114, 101, 106]⟩, .string ⟨#[112, 114, 111, 116, 45, 114, 101, 106]⟩, .string ⟨#[101, 99, 104, 111, 45, 114, 101, 113]⟩, .string ⟨#[101, 99, 104, 111, 45, 114, 101, 112]⟩, .string ⟨#[100, 105, 115, 99, 97, 114, 100]⟩, .string ⟨#[105, 100, 101, 110, 116]⟩, .string ⟨#[]⟩, .string ⟨#[114, 101, 115, 101, 116, 45, 114, 101, 113]⟩, .string ⟨#[114, 101, 115, 101, 116, 45, 97, 99, 107]⟩] 9) = W1) := by show _ = _; rw [hW1]; rfl
  clear hb hW1
  by_cases h : 0 ≤ s ∧ s ≤ 15
  · have e : nameK s = opNames.getD s.toNat [] := by unfold nameK; rw [decide_eq_true h]; rfl
    rw [e]
    obtain ⟨k, rfl⟩ := Int.eq_ofNat_of_zero_le h.1
    have hc := HB.out k (by omega)
    have hk : k < 16 := by omega
    rw [Int.toNat_natCast]
    obtain ⟨x, hx⟩ : ∃ x, opNames.getD k [] = x := ⟨_, rfl⟩
    rw [hx] at hc ⊢
    clear hx e h
    go_enter Tryd.func20, Tryd.ntmps20
    go_upto_region 2 with (fail)
    rw [HW.out]
    clear HW
    go_wp2
    go_ret
    exact ⟨rfl, HL.out⟩
  · have e : nameK s = [] := by unfold nameK; rw [decide_eq_false h]; rfl
    rw [e]
    clear e
    by_cases h0 : s < 0
    · clear h
      go_enter Tryd.func20, Tryd.ntmps20
      go_upto_region 2 with (fail)
      rw [HW.out]
      clear HW
      go_wp2
      go_ret
      exact ⟨rfl, HL.out⟩
    · have h1 : 16 ≤ s := by omega
      clear h
      go_enter Tryd.func20, Tryd.ntmps20
      go_upto_region 2 with (fail)
      rw [HW.out]
      clear HW
      go_wp2
      go_ret
      exact ⟨rfl, HL.out⟩
end Go.Proofs.YtonbdcajepmgbaaDoor
