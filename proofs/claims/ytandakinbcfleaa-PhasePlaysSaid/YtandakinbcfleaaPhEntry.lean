/-
  phase.entry of numbers, of names and of rows; Name, Event, rowOf, Next.
-/
import Derived.Test.YtandakinbcfleaaPhMath
import Derived.ChangeKeysEq
import Derived.Laws.StructEq
import Derived.Deep.Cut
namespace Go.Proofs.Ytandakinbcfleaa
open Go.RowKit
set_option maxRecDepth 100000
set_option maxHeartbeats 2000000
set_option linter.unusedSimpArgs false
set_option linter.unusedVariables false

theorem entryI_any (n : Int) (A : Option Addr) (m c B : Nat) (l : List Int) (w : World) (hr : RdI w B A m l) (hm : m ≤ 1152921504606846976) :
    Calls Try.prog 28 #[.int .i64 n, .slice A m c] w fun e w' => e = .returned (.int .i64 (if 0 ≤ n then numAt l n.toNat else 0)) ∧ w = w' := by
  by_cases h0 : 0 ≤ n
  · rw [if_pos h0]
    obtain ⟨k, rfl⟩ := Int.eq_ofNat_of_zero_le h0
    rw [Int.toNat_natCast]
    by_cases h1 : k < m
    · obtain ⟨b, off, rfl, hb, hc⟩ := hr.2 (by omega)
      have hcell := hc k h1
      obtain ⟨y, hy⟩ : ∃ y, numAt l k = y := ⟨_, rfl⟩
      rw [hy] at hcell ⊢
      clear hy hc hr h0
      go_enter Try.func28, Try.ntmps28
      go_wp2
      go_ret
      exact ⟨rfl, rfl⟩
    · have e : numAt l k = 0 := by
        unfold numAt
        rw [List.getD_eq_getElem?_getD, List.getElem?_eq_none (by have := hr.1; omega)]
        rfl
      rw [e]
      clear e hr h0
      go_enter Try.func28, Try.ntmps28
      go_wp2
      go_ret
      exact ⟨rfl, rfl⟩
  · rw [if_neg h0]
    have h1 : n < 0 := by omega
    clear hr h0
    go_enter Try.func28, Try.ntmps28
    go_wp2
    go_ret
    exact ⟨rfl, rfl⟩

/-- names in a block -/
def RdN (w : World) (g : Nat) (l : List (List UInt8)) : Prop := ∀ k, k < l.length → w.cell? ⟨g, k, none⟩ = some (.string ⟨(l.getD k []).toArray⟩)
theorem entryS_any (n : Int) (g c : Nat) (l : List (List UInt8)) (w : World) (hr : RdN w g l) (hm : l.length ≤ 9) :
    Calls Try.prog 30 #[.int .i64 n, .slice (some ⟨g, 0, none⟩) l.length c] w fun e w' => e = .returned (.string ⟨(if 0 ≤ n then l.getD n.toNat [] else []).toArray⟩) ∧ w = w' := by
  by_cases h0 : 0 ≤ n
  · rw [if_pos h0]
    obtain ⟨k, rfl⟩ := Int.eq_ofNat_of_zero_le h0
    rw [Int.toNat_natCast]
    obtain ⟨m, hl⟩ : ∃ m, l.length = m := ⟨_, rfl⟩
    rw [hl] at hm ⊢
    by_cases h1 : k < m
    · have hcell := hr k (by omega)
      obtain ⟨y, hy⟩ : ∃ y, l.getD k [] = y := ⟨_, rfl⟩
      rw [hy] at hcell ⊢
      clear hy hr h0 hl
      go_enter Try.func30, Try.ntmps30
      go_wp2
      go_ret
      exact ⟨rfl, rfl⟩
    · have e : l.getD k [] = [] := by
        rw [List.getD_eq_getElem?_getD, List.getElem?_eq_none (by omega)]
        rfl
      rw [e]
      clear e hr h0 hl
      go_enter Try.func30, Try.ntmps30
      go_wp2
      go_ret
      exact ⟨rfl, rfl⟩
  · rw [if_neg h0]
    have h1 : n < 0 := by omega
    obtain ⟨m, hl⟩ : ∃ m, l.length = m := ⟨_, rfl⟩
    rw [hl] at hm ⊢
    clear hr h0 hl
    go_enter Try.func30, Try.ntmps30
    go_wp2
    go_ret
    exact ⟨rfl, rfl⟩
theorem phName_any (n : Int) (w : World) : Calls Try.prog 11 #[.int .i64 n] w fun e w' => e = .returned (.string ⟨(nameP n).toArray⟩) ∧ Below w.heap.size w w' := by
  obtain ⟨W1, hW1⟩ : ∃ W1, W1 = w.alloc (.cells (phNames.map fun l => .string ⟨l.toArray⟩).toArray 9) := ⟨_, rfl⟩
  have hb : Blk W1 w.heap.size 9 (phNames.map fun l => .string ⟨l.toArray⟩) := by rw [hW1]; exact blk_new w _ _
  have hR : RdN W1 w.heap.size phNames := by
    intro k hk
    rw [hb.cell, List.getElem?_map, List.getElem?_eq_getElem hk, List.getD_eq_getElem?_getD, List.getElem?_eq_getElem hk]
    rfl
  have HE : Hid (∀ c, Calls Try.prog 30 #[.int .i64 n, .slice (some ⟨w.heap.size, 0, none⟩) 5 c] W1 fun e w' => e = .returned (.string ⟨(nameP n).toArray⟩) ∧ W1 = w') := by
    show ∀ c, _
    intro c
    have := entryS_any n w.heap.size c phNames W1 hR (by decide)
    have e : (if 0 ≤ n then phNames.getD n.toNat [] else []) = nameP n := by
      unfold nameP
      by_cases h : 0 ≤ n ∧ n ≤ 4
      · rw [decide_eq_true h, if_pos h.1]
        rfl
      · rw [decide_eq_false h]
        split
        · rw [List.getD_eq_getElem?_getD, List.getElem?_eq_none (by show 5 ≤ _; omega)]
          rfl
        · rfl
    rw [e] at this
    exact this
  have HL : Hid (Below w.heap.size w W1) := by rw [hW1]; exact (Below.refl _ _).alloc (Nat.le_refl _) _
  have HW : Hid (w.alloc (.cells #[.string ⟨#[68, 101, 97, 100]⟩, .string ⟨#[69, 115, 116, 97, 98, 108, 105, 115, 104]⟩, .string ⟨#[65, 117, 116, 104, 101, 110, 116, 105, 99, 97, 116, 101]⟩, .string ⟨#[78, 101, 116, 119, 111, 114, 107]⟩, .string ⟨#[84, 101, 114, 109, 105, 110, 97, 116, 101]⟩] 9) = W1) := hW1.symm
  clear hb hW1 hR
  go_enter Try.func11, Try.ntmps11
  go_wp2_with (go_at_call 30; rw [HW.out]; refine (HE.out _).mono ?_; rintro e w' ⟨rfl, rfl⟩)
  go_ret
  exact ⟨rfl, HL.out⟩
theorem phEvent_any (n : Int) (w : World) : Calls Try.prog 13 #[.int .i64 n] w fun e w' => e = .returned (.string ⟨(nameEv n).toArray⟩) ∧ Below w.heap.size w w' := by
  obtain ⟨W1, hW1⟩ : ∃ W1, W1 = w.alloc (.cells (phEvents.map fun l => .string ⟨l.toArray⟩).toArray 9) := ⟨_, rfl⟩
  have hb : Blk W1 w.heap.size 9 (phEvents.map fun l => .string ⟨l.toArray⟩) := by rw [hW1]; exact blk_new w _ _
  have hR : RdN W1 w.heap.size phEvents := by
    intro k hk
    rw [hb.cell, List.getElem?_map, List.getElem?_eq_getElem hk, List.getD_eq_getElem?_getD, List.getElem?_eq_getElem hk]
    rfl
  have HE : Hid (∀ c, Calls Try.prog 30 #[.int .i64 n, .slice (some ⟨w.heap.size, 0, none⟩) 9 c] W1 fun e w' => e = .returned (.string ⟨(nameEv n).toArray⟩) ∧ W1 = w') := by
    show ∀ c, _
    intro c
    have := entryS_any n w.heap.size c phEvents W1 hR (by decide)
    have e : (if 0 ≤ n then phEvents.getD n.toNat [] else []) = nameEv n := by
      unfold nameEv
      by_cases h : 0 ≤ n ∧ n ≤ 8
      · rw [decide_eq_true h, if_pos h.1]
        rfl
      · rw [decide_eq_false h]
        split
        · rw [List.getD_eq_getElem?_getD, List.getElem?_eq_none (by show 9 ≤ _; omega)]
          rfl
        · rfl
    rw [e] at this
    exact this
  have HL : Hid (Below w.heap.size w W1) := by rw [hW1]; exact (Below.refl _ _).alloc (Nat.le_refl _) _
  have HW : Hid (w.alloc (.cells #[.string ⟨#[85, 112]⟩, .string ⟨#[68, 111, 119, 110]⟩, .string ⟨#[79, 112, 101, 110, 101, 100]⟩, .string ⟨#[82, 101, 110, 101, 103]⟩, .string ⟨#[70, 105, 110, 105, 115, 104, 101, 100]⟩, .string ⟨#[84, 104, 101, 105, 114, 115]⟩, .string ⟨#[77, 105, 110, 101]⟩, .string ⟨#[66, 97, 100]⟩, .string ⟨#[67, 108, 111, 115, 101]⟩] 9) = W1) := hW1.symm
  clear hb hW1 hR
  go_enter Try.func13, Try.ntmps13
  go_wp2_with (go_at_call 30; rw [HW.out]; refine (HE.out _).mono ?_; rintro e w' ⟨rfl, rfl⟩)
  go_ret
  exact ⟨rfl, HL.out⟩
end Go.Proofs.Ytandakinbcfleaa
