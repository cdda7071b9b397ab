/-
  The automaton's other methods, of one that is there and of one that is not; New.
-/
import Derived.Test.YtpkmddagcfjadaaDoorAuDo
namespace Go.Proofs.YtpkmddagcfjadaaDoor
open Go.RowKit
set_option maxRecDepth 100000
set_option maxHeartbeats 2000000
set_option linter.unusedSimpArgs false
set_option linter.unusedVariables false
attribute [local go_sem] Oper.semAt_some

theorem do_nil (e : Int) (w : World) : Calls Tryd.prog 33 #[.pointer none, .int .i64 e] w fun r w' => r = .returned (.tuple #[.slice none 0 0, .int .i64 2]) ∧ w = w' := by
  go_enter Tryd.func33, Tryd.ntmps33
  go_wp2
  go_ret2
  exact ⟨rfl, rfl⟩
theorem timeout_nil (w : World) : Calls Tryd.prog 32 #[.pointer none] w fun r w' => r = .returned (.tuple #[.slice none 0 0, .int .i64 2]) ∧ w = w' := by
  go_enter Tryd.func32, Tryd.ntmps32
  go_wp2
  go_ret2
  exact ⟨rfl, rfl⟩
theorem state_nil (w : World) : Calls Tryd.prog 34 #[.pointer none] w fun r w' => r = .returned (.int .i64 0) ∧ w = w' := by
  go_enter Tryd.func34, Tryd.ntmps34
  go_wp2
  go_ret
  exact ⟨rfl, rfl⟩
theorem count_nil (w : World) : Calls Tryd.prog 36 #[.pointer none] w fun r w' => r = .returned (.int .i64 0) ∧ w = w' := by
  go_enter Tryd.func36, Tryd.ntmps36
  go_wp2
  go_ret
  exact ⟨rfl, rfl⟩
theorem running_nil (w : World) : Calls Tryd.prog 35 #[.pointer none] w fun r w' => r = .returned (.bool false) ∧ w = w' := by
  go_enter Tryd.func35, Tryd.ntmps35
  go_wp2
  go_ret
  exact ⟨rfl, rfl⟩
theorem copy_nil (w : World) : Calls Tryd.prog 28 #[.pointer none] w fun r w' => r = .returned (.pointer none) ∧ w = w' := by
  go_enter Tryd.func28, Tryd.ntmps28
  go_wp2
  go_ret
  exact ⟨rfl, rfl⟩
theorem state_any (g : Nat) (s c mc mt : Int) (w : World) (ha : AuB w g s c mc mt) : Calls Tryd.prog 34 #[.pointer (some ⟨g, 0, none⟩)] w fun r w' => r = .returned (.int .i64 s) ∧ w = w' := by
  have k : w.cell? ⟨g, 0, none⟩ = some (.int .i64 s) := ha.cell 0
  clear ha
  go_enter Tryd.func34, Tryd.ntmps34
  go_wp2
  go_ret
  exact ⟨rfl, rfl⟩
theorem count_any (g : Nat) (s c mc mt : Int) (w : World) (ha : AuB w g s c mc mt) : Calls Tryd.prog 36 #[.pointer (some ⟨g, 0, none⟩)] w fun r w' => r = .returned (.int .i64 c) ∧ w = w' := by
  have k : w.cell? ⟨g, 1, none⟩ = some (.int .i64 c) := ha.cell 1
  clear ha
  go_enter Tryd.func36, Tryd.ntmps36
  go_wp2
  go_ret
  exact ⟨rfl, rfl⟩
def runsB (s : Int) : Bool := decide (4 ≤ s ∧ s ≤ 8)
theorem runs_any (s : Int) (w : World) : Calls Tryd.prog 19 #[.int .i64 s] w fun r w' => r = .returned (.bool (runsB s)) ∧ w = w' := by
  unfold runsB
  by_cases h : 4 ≤ s
  · by_cases h2 : s ≤ 8
    · rw [decide_eq_true (by omega)]
      go_enter Tryd.func19, Tryd.ntmps19
      go_wp2
      go_ret
      exact ⟨rfl, rfl⟩
    · rw [decide_eq_false (by omega)]
      have h3 : 8 < s := by omega
      go_enter Tryd.func19, Tryd.ntmps19
      go_wp2
      go_ret
      exact ⟨rfl, rfl⟩
  · rw [decide_eq_false (by omega)]
    go_enter Tryd.func19, Tryd.ntmps19
    go_wp2
    go_ret
    exact ⟨rfl, rfl⟩
theorem running_any (g : Nat) (s c mc mt : Int) (w : World) (ha : AuB w g s c mc mt) : Calls Tryd.prog 35 #[.pointer (some ⟨g, 0, none⟩)] w fun r w' => r = .returned (.bool (runsB s)) ∧ w = w' := by
  have k : w.cell? ⟨g, 0, none⟩ = some (.int .i64 s) := ha.cell 0
  clear ha
  obtain ⟨b, hb⟩ : ∃ b, runsB s = b := ⟨_, rfl⟩
  have HB := Lib.hid hb
  rw [hb]
  clear hb
  go_enter Tryd.func35, Tryd.ntmps35
  go_wp2_with (go_at_call 19; refine (runs_any _ _).mono ?_; rintro e w' ⟨rfl, rfl⟩; rw [HB.out])
  go_ret
  exact ⟨rfl, rfl⟩
/-- a new automaton, in a block of its own -/
theorem new_yes (mc mt : Int) (w : World) (h1 : 1 ≤ mc ∧ mc ≤ 255) (h2 : 1 ≤ mt ∧ mt ≤ 255) : Calls Tryd.prog 26 #[.int .i64 mc, .int .i64 mt] w fun r w' => r = .returned (.pointer (some ⟨w.heap.size, 0, none⟩)) ∧ AuB w' w.heap.size 0 0 mc mt ∧ Below w.heap.size w w' := by
  have hz : ∀ W, (zeroValue 73).run Tryd.prog W = .ok (.agg #[.int .i64 0, .int .i64 0, .int .i64 0, .int .i64 0]) W := fun W => by kernel_rfl
  have HA : Hid (AuB (w.alloc (.cells #[.int .i64 0, .int .i64 0, .int .i64 mc, .int .i64 mt] 73)) w.heap.size 0 0 mc mt) := blk_new w 73 (auC 0 0 mc mt)
  have HB : Hid (Below w.heap.size w (w.alloc (.cells #[.int .i64 0, .int .i64 0, .int .i64 mc, .int .i64 mt] 73))) := (Below.refl _ _).alloc (Nat.le_refl _) _
  obtain ⟨a1, a2⟩ := h1
  obtain ⟨a3, a4⟩ := h2
  go_enter Tryd.func26, Tryd.ntmps26
  go_wp2_with (go_in)
  go_ret
  exact ⟨rfl, HA.out, HB.out⟩
theorem new_no (mc mt : Int) (w : World) (h : ¬ ((1 ≤ mc ∧ mc ≤ 255) ∧ (1 ≤ mt ∧ mt ≤ 255))) : Calls Tryd.prog 26 #[.int .i64 mc, .int .i64 mt] w fun r w' => r = .returned (.pointer none) ∧ w = w' := by
  by_cases a1 : 1 ≤ mc
  · by_cases a2 : mc ≤ 255
    · by_cases a3 : 1 ≤ mt
      · have a4 : ¬ mt ≤ 255 := fun x => h ⟨⟨a1, a2⟩, a3, x⟩
        clear h
        go_enter Tryd.func26, Tryd.ntmps26
        go_wp2_with (go_in)
        go_ret
        exact ⟨rfl, rfl⟩
      · clear h
        go_enter Tryd.func26, Tryd.ntmps26
        go_wp2_with (go_in)
        go_ret
        exact ⟨rfl, rfl⟩
    · clear h
      go_enter Tryd.func26, Tryd.ntmps26
      go_wp2_with (go_in)
      go_ret
      exact ⟨rfl, rfl⟩
  · clear h
    go_enter Tryd.func26, Tryd.ntmps26
    go_wp2_with (go_in)
    go_ret
    exact ⟨rfl, rfl⟩
theorem copy_any (g : Nat) (s c mc mt : Int) (w : World) (ha : AuB w g s c mc mt) : Calls Tryd.prog 28 #[.pointer (some ⟨g, 0, none⟩)] w fun r w' => r = .returned (.pointer (some ⟨w.heap.size, 0, none⟩)) ∧ AuB w' w.heap.size s c mc mt ∧ Below w.heap.size w w' := by
  have k0 : w.cell? ⟨g, 0, none⟩ = some (.int .i64 s) := ha.cell 0
  have k1 : w.cell? ⟨g, 1, none⟩ = some (.int .i64 c) := ha.cell 1
  have k2 : w.cell? ⟨g, 2, none⟩ = some (.int .i64 mc) := ha.cell 2
  have k3 : w.cell? ⟨g, 3, none⟩ = some (.int .i64 mt) := ha.cell 3
  have hgl := ha.lt
  clear ha
  have hz : ∀ W, (zeroValue 73).run Tryd.prog W = .ok (.agg #[.int .i64 0, .int .i64 0, .int .i64 0, .int .i64 0]) W := fun W => by kernel_rfl
  have HA : Hid (AuB (w.alloc (.cells #[.int .i64 s, .int .i64 c, .int .i64 mc, .int .i64 mt] 73)) w.heap.size s c mc mt) := blk_new w 73 (auC s c mc mt)
  have HB : Hid (Below w.heap.size w (w.alloc (.cells #[.int .i64 s, .int .i64 c, .int .i64 mc, .int .i64 mt] 73))) := (Below.refl _ _).alloc (Nat.le_refl _) _
  go_enter Tryd.func28, Tryd.ntmps28
  go_wp2
  go_ret
  exact ⟨rfl, HA.out, HB.out⟩
end Go.Proofs.YtpkmddagcfjadaaDoor
