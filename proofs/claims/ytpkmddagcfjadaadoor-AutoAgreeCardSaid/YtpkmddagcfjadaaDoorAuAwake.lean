/-
  The law's awake: the chapter's first example.
-/
import Derived.Test.YtpkmddagcfjadaaDoorAuRun
namespace Go.Proofs.YtpkmddagcfjadaaDoor
open Go.RowKit
set_option maxRecDepth 100000
set_option maxHeartbeats 4000000
set_option linter.unusedSimpArgs false
set_option linter.unusedVariables false

/-- the states' names lie in the program's variable -/
def TabN (w : World) : Prop := ∀ i, i < 10 → w.cell? ⟨1, i, none⟩ = some (.string ⟨(auStates.getD i []).toArray⟩)
theorem TabN.kept {w w' : World} (h : TabN w) (hB : Below w.heap.size w w') : TabN w' := fun i hi => by
  have h1 := h i hi
  exact (hB.cell (p := ⟨1, i, none⟩) (World.block_lt_of_cell? _ _ h1)).trans h1
theorem TabN.lt {w : World} (h : TabN w) : 1 < w.heap.size := World.block_lt_of_cell? _ _ (h 0 (by omega))
theorem TabN.keptB {w w' : World} {base : Nat} (h : TabN w) (hB : Below base w w') (hb : 1 < base) : TabN w' := fun i hi =>
  (hB.cell (p := ⟨1, i, none⟩) hb).trans (h i hi)
def nameS (s : Int) : List UInt8 := if decide (0 ≤ s ∧ s ≤ 9) then auStates.getD s.toNat [] else []
theorem stateName_any (s : Int) (w : World) (hT : TabN w) : Calls Tryd.prog 15 #[.int .i64 s] w fun r w' => r = .returned (.string ⟨(nameS s).toArray⟩) ∧ w = w' := by
  by_cases h : 0 ≤ s ∧ s ≤ 9
  · have e : nameS s = auStates.getD s.toNat [] := by unfold nameS; rw [decide_eq_true h]; rfl
    rw [e]
    obtain ⟨k, rfl⟩ := Int.eq_ofNat_of_zero_le h.1
    have hc := hT k (by omega)
    have hk : k < 10 := by omega
    rw [Int.toNat_natCast]
    obtain ⟨x, hx⟩ : ∃ x, auStates.getD k [] = x := ⟨_, rfl⟩
    rw [hx] at hc ⊢
    clear hT hx e h
    go_enter Tryd.func15, Tryd.ntmps15
    go_wp2_with (go_at_call 38; refine (isState_yes _ _ ⟨by omega, by omega⟩).mono ?_; rintro e w' ⟨rfl, rfl⟩)
    go_ret
    exact ⟨rfl, rfl⟩
  · have e : nameS s = [] := by unfold nameS; rw [decide_eq_false h]; rfl
    rw [e]
    have H := Lib.hid h
    clear h e hT
    go_enter Tryd.func15, Tryd.ntmps15
    go_wp2_with (go_at_call 38; refine (isState_no _ _ H.out).mono ?_; rintro e w' ⟨rfl, rfl⟩)
    go_ret
    exact ⟨rfl, rfl⟩
theorem awake_any (w : World) (hT : TabA w) (hN : TabN w) : Calls Tryd.prog 21 #[] w fun e w' => e = .returned (.bool true) ∧ Below w.heap.size w w' := by
  have hal : Below w.heap.size w (w.alloc (.cells #[.int .i64 2, .int .i64 0, .int .i64 6, .int .i64 8] 3)) := (Below.refl _ _).alloc (Nat.le_refl _) _
  have hb4 := blk_new w 3 [.int .i64 2, .int .i64 0, .int .i64 6, .int .i64 8]
  have R := arun_any 10 2 (some ⟨w.heap.size, 0, none⟩) 4 4 (w.heap.size + 1) [2, 0, 6, 8] (w.alloc (.cells #[.int .i64 2, .int .i64 0, .int .i64 6, .int .i64 8] 3))
    ⟨rfl, fun _ => ⟨_, _, rfl, Nat.lt_succ_self _, fun j hj => by
      rw [Nat.zero_add]
      refine (hb4.cell j).trans ?_
      match j, hj with
      | 0, _ => rfl
      | 1, _ => rfl
      | 2, _ => rfl
      | 3, _ => rfl⟩⟩ (by simp) (by omega) (hT.kept hal)
  rw [show rnR 10 2 [2, 0, 6, 8] = ⟨9, 10, [3, 5, 7, 8, 5, 1], 0, 0⟩ by kernel_rfl] at R
  have hR : Calls Tryd.prog 30 #[.int .i64 10, .int .i64 2, .slice (some ⟨w.heap.size, 0, none⟩) 4 4] (w.alloc (.cells #[.int .i64 2, .int .i64 0, .int .i64 6, .int .i64 8] 3)) fun r w' =>
      ∃ g c, r = .returned (.tuple #[.int .i64 9, .int .i64 10, .slice (some ⟨g, 0, none⟩) 6 c, .int .i64 0, .int .i64 0]) ∧ (w'.cell? ⟨g, 0, none⟩ = some (.int .i64 3) ∧ w'.cell? ⟨g, 5, none⟩ = some (.int .i64 1) ∧ 6 ≤ c) ∧ Below w.heap.size w w' ∧ TabA w' ∧ TabN w' := by
    refine R.mono ?_
    rintro r w' ⟨v, rfl, ho, hb⟩
    obtain ⟨A, c, rfl, hc, _⟩ := ho.slice
    obtain ⟨g, rfl, _⟩ := ho.rd.2.2.2 (by decide)
    have hB : Below w.heap.size w w' := hal.trans (hb.mono (by simp))
    exact ⟨g, c, rfl, ⟨ho.cell 0 (by decide), ho.cell 5 (by decide), hc⟩, hB, hT.kept hB, hN.kept hB⟩
  have HR := Lib.hid hR
  clear R hR hb4 hal hT hN
  go_enter Tryd.func21, Tryd.ntmps21
  go_wp2_with (first
    | (go_at_call 30; refine HR.out.mono ?_; rintro e w1 ⟨g, c, rfl, ⟨q0, q5, hc⟩, hb, ht, hn⟩; have HB := Lib.hid hb; have HT := Lib.hid ht; have HN := Lib.hid hn; clear hb ht hn HR)
    | (go_at_call 12; refine (next_never 0 1 _ (by omega) (by omega) HT.out rfl).mono ?_; rintro e w2 ⟨rfl, rfl⟩)
    | (go_at_call 15; refine (stateName_any 6 _ HN.out).mono ?_; rintro e w2 ⟨rfl, rfl⟩; rw [show nameS 6 = [82, 101, 113, 45, 83, 101, 110, 116] by decide]))
  go_ret
  exact ⟨rfl, HB.out⟩
theorem autonil_walk (e : Int) (w : World) (hT : TabA w) (hN : TabN w) : Calls Tryd.prog 11 #[.int .i64 e] w fun e w' => e = .returned (.bool true) ∧ Below w.heap.size w w' := by
  have AW := Lib.hid (awake_any w hT hN)
  clear hT hN
  go_enter Tryd.func11, Tryd.ntmps11
  go_wp2_with (first
    | (go_at_call 33; refine (do_nil _ _).mono ?_; rintro e w' ⟨rfl, rfl⟩)
    | (go_at_call 32; refine (timeout_nil _).mono ?_; rintro e w' ⟨rfl, rfl⟩)
    | (go_at_call 34; refine (state_nil _).mono ?_; rintro e w' ⟨rfl, rfl⟩)
    | (go_at_call 36; refine (count_nil _).mono ?_; rintro e w' ⟨rfl, rfl⟩)
    | (go_at_call 35; refine (running_nil _).mono ?_; rintro e w' ⟨rfl, rfl⟩)
    | (go_at_call 28; refine (copy_nil _).mono ?_; rintro e w' ⟨rfl, rfl⟩)
    | (go_at_call 21; refine AW.out.mono ?_; rintro e w' ⟨rfl, hb⟩; have HB := Lib.hid hb; clear hb))
  go_ret
  exact ⟨rfl, HB.out⟩
end Go.Proofs.YtpkmddagcfjadaaDoor
