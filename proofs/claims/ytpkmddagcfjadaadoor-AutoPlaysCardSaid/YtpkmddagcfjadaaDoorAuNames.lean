/-
  The names of states and events: the program's and the reference's.
-/
import Derived.Test.YtpkmddagcfjadaaDoorAuAwake
import Derived.Deep.Cut
namespace Go.Proofs.YtpkmddagcfjadaaDoor
open Go.RowKit
set_option maxRecDepth 100000
set_option maxHeartbeats 2000000
set_option linter.unusedSimpArgs false
set_option linter.unusedVariables false

/-- the events' names lie in the program's variable -/
def TabV (w : World) : Prop := ∀ i, i < 16 → w.cell? ⟨2, i, none⟩ = some (.string ⟨(auEvents.getD i []).toArray⟩)
theorem TabV.lt {w : World} (h : TabV w) : 2 < w.heap.size := World.block_lt_of_cell? _ _ (h 0 (by omega))
theorem TabV.keptB {w w' : World} {base : Nat} (h : TabV w) (hB : Below base w w') (hb : 2 < base) : TabV w' := fun i hi =>
  (hB.cell (p := ⟨2, i, none⟩) hb).trans (h i hi)
def nameV (s : Int) : List UInt8 := if decide (0 ≤ s ∧ s ≤ 15) then auEvents.getD s.toNat [] else []
theorem eventName_any (s : Int) (w : World) (hT : TabV w) : Calls Tryd.prog 17 #[.int .i64 s] w fun r w' => r = .returned (.string ⟨(nameV s).toArray⟩) ∧ w = w' := by
  by_cases h : 0 ≤ s ∧ s ≤ 15
  · have e : nameV s = auEvents.getD s.toNat [] := by unfold nameV; rw [decide_eq_true h]; rfl
    rw [e]
    obtain ⟨k, rfl⟩ := Int.eq_ofNat_of_zero_le h.1
    have hc := hT k (by omega)
    have hk : k < 16 := by omega
    rw [Int.toNat_natCast]
    obtain ⟨x, hx⟩ : ∃ x, auEvents.getD k [] = x := ⟨_, rfl⟩
    rw [hx] at hc ⊢
    clear hT hx e h
    go_enter Tryd.func17, Tryd.ntmps17
    go_wp2_with (go_at_call 39; refine (isEvent_yes _ _ ⟨by omega, by omega⟩).mono ?_; rintro e w' ⟨rfl, rfl⟩)
    go_ret
    exact ⟨rfl, rfl⟩
  · have e : nameV s = [] := by unfold nameV; rw [decide_eq_false h]; rfl
    rw [e]
    have H := Lib.hid h
    clear h e hT
    go_enter Tryd.func17, Tryd.ntmps17
    go_wp2_with (go_at_call 39; refine (isEvent_no _ _ H.out).mono ?_; rintro e w' ⟨rfl, rfl⟩)
    go_ret
    exact ⟨rfl, rfl⟩
theorem rruns_any (s : Int) (w : World) : Calls Tryd.prog 20 #[.int .i64 s] w fun r w' => r = .returned (.bool (runsB s)) ∧ w = w' := by
  unfold runsB
  by_cases h : 4 ≤ s
  · by_cases h2 : s ≤ 8
    · rw [decide_eq_true (by omega)]
      go_enter Tryd.func20, Tryd.ntmps20
      go_wp2
      go_ret
      exact ⟨rfl, rfl⟩
    · rw [decide_eq_false (by omega)]
      have h3 : 8 < s := by omega
      go_enter Tryd.func20, Tryd.ntmps20
      go_wp2
      go_ret
      exact ⟨rfl, rfl⟩
  · rw [decide_eq_false (by omega)]
    go_enter Tryd.func20, Tryd.ntmps20
    go_wp2
    go_ret
    exact ⟨rfl, rfl⟩
theorem rstateName_any (s : Int) (w : World) : Calls Tryd.prog 16 #[.int .i64 s] w fun r w' => r = .returned (.string ⟨(nameS s).toArray⟩) ∧ Below w.heap.size w w' := by
  obtain ⟨W1, hW1⟩ : ∃ W1, W1 = w.alloc (.cells (auStates.map fun l => .string ⟨l.toArray⟩).toArray 9) := ⟨_, rfl⟩
  have hb : Blk W1 w.heap.size 9 (auStates.map fun l => .string ⟨l.toArray⟩) := by rw [hW1]; exact blk_new w _ _
  have HB : Hid (∀ k, k < 10 → W1.cell? ⟨w.heap.size, k, none⟩ = some (.string ⟨(auStates.getD k []).toArray⟩)) := by
    show ∀ k, _ → _
    intro k hk
    rw [hb.cell, List.getElem?_map, List.getElem?_eq_getElem (show k < auStates.length from hk), List.getD_eq_getElem?_getD, List.getElem?_eq_getElem (show k < auStates.length from hk)]
    rfl
  have HL : Hid (Below w.heap.size w W1) := by rw [hW1]; exact (Below.refl _ _).alloc (Nat.le_refl _) _
  have HW : Hid (w.alloc (.cells #[.string ⟨#[73, 110, 105, 116, 105, 97, 108]⟩, .string ⟨#[83, 116, 97, 114, 116, 105, 110, 103]⟩, .string ⟨#[67, 108, 111, 115, 101, 100]⟩, .string ⟨#[83, 116, 111, 112, 112, 101, 100]⟩, .string ⟨#[67, 108, 111, 115, 105, 110, 103]⟩, .string ⟨#[83, 116, 111, 112, 112, 105, 110, 103]⟩, .string ⟨#[82, 101, 113, 45, 83, 101, 110, 116]⟩, .string ⟨#[65, 99, 107, 45, 82, 99, 118, 100]⟩, .string ⟨#[65, 99, 107, 45, 83, 101, 110, 116]⟩, .string ⟨#[79, 112, 101, 110, 101, 100]⟩] 9) = W1) := hW1.symm
  clear hb hW1
  by_cases h : 0 ≤ s ∧ s ≤ 9
  · have e : nameS s = auStates.getD s.toNat [] := by unfold nameS; rw [decide_eq_true h]; rfl
    rw [e]
    obtain ⟨k, rfl⟩ := Int.eq_ofNat_of_zero_le h.1
    have hc := HB.out k (by omega)
    have hk : k < 10 := by omega
    rw [Int.toNat_natCast]
    obtain ⟨x, hx⟩ : ∃ x, auStates.getD k [] = x := ⟨_, rfl⟩
    rw [hx] at hc ⊢
    clear hx e h
    go_enter Tryd.func16, Tryd.ntmps16
    go_upto_region 2 with (fail)
    rw [HW.out]
    clear HW
    go_wp2
    go_ret
    exact ⟨rfl, HL.out⟩
  · have e : nameS s = [] := by unfold nameS; rw [decide_eq_false h]; rfl
    rw [e]
    clear e
    by_cases h0 : s < 0
    · clear h
      go_enter Tryd.func16, Tryd.ntmps16
      go_upto_region 2 with (fail)
      rw [HW.out]
      clear HW
      go_wp2
      go_ret
      exact ⟨rfl, HL.out⟩
    · have h1 : 10 ≤ s := by omega
      clear h
      go_enter Tryd.func16, Tryd.ntmps16
      go_upto_region 2 with (fail)
      rw [HW.out]
      clear HW
      go_wp2
      go_ret
      exact ⟨rfl, HL.out⟩
theorem reventName_any (s : Int) (w : World) : Calls Tryd.prog 18 #[.int .i64 s] w fun r w' => r = .returned (.string ⟨(nameV s).toArray⟩) ∧ Below w.heap.size w w' := by
  obtain ⟨W1, hW1⟩ : ∃ W1, W1 = w.alloc (.cells (auEvents.map fun l => .string ⟨l.toArray⟩).toArray 9) := ⟨_, rfl⟩
  have hb : Blk W1 w.heap.size 9 (auEvents.map fun l => .string ⟨l.toArray⟩) := by rw [hW1]; exact blk_new w _ _
  have HB : Hid (∀ k, k < 16 → W1.cell? ⟨w.heap.size, k, none⟩ = some (.string ⟨(auEvents.getD k []).toArray⟩)) := by
    show ∀ k, _ → _
    intro k hk
    rw [hb.cell, List.getElem?_map, List.getElem?_eq_getElem (show k < auEvents.length from hk), List.getD_eq_getElem?_getD, List.getElem?_eq_getElem (show k < auEvents.length from hk)]
    rfl
  have HL : Hid (Below w.heap.size w W1) := by rw [hW1]; exact (Below.refl _ _).alloc (Nat.le_refl _) _
  have HW : Hid (w.alloc (.cells #[.string ⟨#[85, 112]⟩, .string ⟨#[68, 111, 119, 110]⟩, .string ⟨#[79, 112, 101, 110]⟩, .string ⟨#[67, 108, 111, 115, 101]⟩, .string ⟨#[84, 79, 43]⟩, .string ⟨#[84, 79, 45]⟩, .string ⟨#[82, 67, 82, 43]⟩, .string ⟨#[82, 67, 82, 45]⟩, .string ⟨#[82, 67, 65]⟩, .string ⟨#[82, 67, 78]⟩, .string ⟨#[82, 84, 82]⟩, .string ⟨#[82, 84, 65]⟩, .string ⟨#[82, 85, 67]⟩, .string ⟨#[82, 88, 74, 43]⟩, .string ⟨#[82, 88, 74, 45]⟩, .string ⟨#[82, 88, 82]⟩] 9) = W1) := hW1.symm
  clear hb hW1
  by_cases h : 0 ≤ s ∧ s ≤ 15
  · have e : nameV s = auEvents.getD s.toNat [] := by unfold nameV; rw [decide_eq_true h]; rfl
    rw [e]
    obtain ⟨k, rfl⟩ := Int.eq_ofNat_of_zero_le h.1
    have hc := HB.out k (by omega)
    have hk : k < 16 := by omega
    rw [Int.toNat_natCast]
    obtain ⟨x, hx⟩ : ∃ x, auEvents.getD k [] = x := ⟨_, rfl⟩
    rw [hx] at hc ⊢
    clear hx e h
    go_enter Tryd.func18, Tryd.ntmps18
    go_upto_region 2 with (fail)
    rw [HW.out]
    clear HW
    go_wp2
    go_ret
    exact ⟨rfl, HL.out⟩
  · have e : nameV s = [] := by unfold nameV; rw [decide_eq_false h]; rfl
    rw [e]
    clear e
    by_cases h0 : s < 0
    · clear h
      go_enter Tryd.func18, Tryd.ntmps18
      go_upto_region 2 with (fail)
      rw [HW.out]
      clear HW
      go_wp2
      go_ret
      exact ⟨rfl, HL.out⟩
    · have h1 : 16 ≤ s := by omega
      clear h
      go_enter Tryd.func18, Tryd.ntmps18
      go_upto_region 2 with (fail)
      rw [HW.out]
      clear HW
      go_wp2
      go_ret
      exact ⟨rfl, HL.out⟩
end Go.Proofs.YtpkmddagcfjadaaDoor
