/-
  A judge that is not there: the law ChapNil.
-/
import Derived.Test.YtdijgmijnoiliaaDoorChKnown
namespace Go.Proofs.YtdijgmijnoiliaaDoor
open Go.RowKit Go.Shelf
set_option maxRecDepth 100000
set_option maxHeartbeats 1000000
set_option linter.unusedSimpArgs false
set_option linter.unusedVariables false

def noP : Value := .agg #[.int .i64 0, .int .i64 0, .slice none 0 0]
theorem jnil_ask (id : Int) (A : Option Addr) (n c : Nat) (w : World) : Calls Tryd.prog 25 #[.pointer none, .int .i64 id, .slice A n c] w fun e w' => e = .returned (.tuple #[.agg #[.int .i64 0, .int .i64 0, .slice none 0 0], .int .i64 2]) ∧ Below w.heap.size w w' := by
  obtain ⟨V, hV⟩ : ∃ V, w.alloc (.cells #[.int .i64 0, .int .i64 0, .slice none 0 0] 24) = V := ⟨_, rfl⟩
  have bV : Below w.heap.size w V := by rw [← hV]; exact (Below.refl _ _).alloc (Nat.le_refl _) _
  have h0 : Blk V w.heap.size 24 [.int .i64 0, .int .i64 0, .slice none 0 0] := by rw [← hV]; exact heap_alloc_new w _
  have r0 := h0.cell 0
  have r1 := h0.cell 1
  have r2 := h0.cell 2
  have e0 := h0.frozen 0
  have e1 := h0.frozen 1
  have e2 := h0.frozen 2
  have lr := Blk.lt h0
  have hb4 := blk3 (x := .int .i64 0) (y := .int .i64 0) (z := .slice none 0 0) h0
  have p0 := hb4.cell 0
  have p1 := hb4.cell 1
  have p2 := hb4.cell 2
  have FN : Hid (Below w.heap.size w (((V.setCell ⟨w.heap.size, 0, none⟩ (.int .i64 0)).setCell ⟨w.heap.size, 1, none⟩ (.int .i64 0)).setCell ⟨w.heap.size, 2, none⟩ (.slice none 0 0))) := below_row bV (gset3 _ _ _ _ _) (Nat.le_refl _)
  have HV := Lib.hid hV
  clear hV bV h0 hb4
  go_enter Tryd.func25, Tryd.ntmps25
  go_wp2_with (rw [HV.out])
  exact bodyPost_ret (v := .tuple #[.agg #[.int .i64 0, .int .i64 0, .slice none 0 0], .int .i64 2]) (by simp [results, Tryd.results25, go_sem, p0, p1, p2]) rfl ⟨rfl, FN.out⟩
theorem jnil_again (w : World) : Calls Tryd.prog 26 #[.pointer none] w fun e w' => e = .returned (.tuple #[.agg #[.int .i64 0, .int .i64 0, .slice none 0 0], .int .i64 2]) ∧ Below w.heap.size w w' := by
  obtain ⟨V, hV⟩ : ∃ V, w.alloc (.cells #[.int .i64 0, .int .i64 0, .slice none 0 0] 24) = V := ⟨_, rfl⟩
  have bV : Below w.heap.size w V := by rw [← hV]; exact (Below.refl _ _).alloc (Nat.le_refl _) _
  have h0 : Blk V w.heap.size 24 [.int .i64 0, .int .i64 0, .slice none 0 0] := by rw [← hV]; exact heap_alloc_new w _
  have r0 := h0.cell 0
  have r1 := h0.cell 1
  have r2 := h0.cell 2
  have e0 := h0.frozen 0
  have e1 := h0.frozen 1
  have e2 := h0.frozen 2
  have lr := Blk.lt h0
  have hb4 := blk3 (x := .int .i64 0) (y := .int .i64 0) (z := .slice none 0 0) h0
  have p0 := hb4.cell 0
  have p1 := hb4.cell 1
  have p2 := hb4.cell 2
  have FN : Hid (Below w.heap.size w (((V.setCell ⟨w.heap.size, 0, none⟩ (.int .i64 0)).setCell ⟨w.heap.size, 1, none⟩ (.int .i64 0)).setCell ⟨w.heap.size, 2, none⟩ (.slice none 0 0))) := below_row bV (gset3 _ _ _ _ _) (Nat.le_refl _)
  have HV := Lib.hid hV
  clear hV bV h0 hb4
  go_enter Tryd.func26, Tryd.ntmps26
  go_wp2_with (rw [HV.out])
  exact bodyPost_ret (v := .tuple #[.agg #[.int .i64 0, .int .i64 0, .slice none 0 0], .int .i64 2]) (by simp [results, Tryd.results26, go_sem, p0, p1, p2]) rfl ⟨rfl, FN.out⟩
theorem jnil_take (c i : Int) (A : Option Addr) (n d : Nat) (w : World) : Calls Tryd.prog 27 #[.pointer none, .agg #[.int .i64 c, .int .i64 i, .slice A n d]] w fun e w' => e = .returned (.tuple #[.agg #[.int .i64 0, .int .i64 0, .slice none 0 0], .int .i64 2]) ∧ Below w.heap.size w w' := by
  obtain ⟨V, hV, bV, -, h0⟩ := alloc_two w #[.int .i64 c, .int .i64 i, .slice A n d] #[.int .i64 0, .int .i64 0, .slice none 0 0] 24 24
  have h0 : Blk V (w.heap.size + 1) 24 [.int .i64 0, .int .i64 0, .slice none 0 0] := h0
  have r0 := h0.cell 0
  have r1 := h0.cell 1
  have r2 := h0.cell 2
  have e0 := h0.frozen 0
  have e1 := h0.frozen 1
  have e2 := h0.frozen 2
  have lr := Blk.lt h0
  have hb4 := blk3 (x := .int .i64 0) (y := .int .i64 0) (z := .slice none 0 0) h0
  have p0 := hb4.cell 0
  have p1 := hb4.cell 1
  have p2 := hb4.cell 2
  have FN : Hid (Below w.heap.size w (((V.setCell ⟨w.heap.size + 1, 0, none⟩ (.int .i64 0)).setCell ⟨w.heap.size + 1, 1, none⟩ (.int .i64 0)).setCell ⟨w.heap.size + 1, 2, none⟩ (.slice none 0 0))) := below_row bV (gset3 _ _ _ _ _) (by omega)
  have HV := Lib.hid hV
  clear hV bV h0 hb4
  go_enter Tryd.func27, Tryd.ntmps27
  go_wp2_with (rw [HV.out])
  exact bodyPost_ret (v := .tuple #[.agg #[.int .i64 0, .int .i64 0, .slice none 0 0], .int .i64 2]) (by simp [results, Tryd.results27, go_sem, p0, p1, p2]) rfl ⟨rfl, FN.out⟩
theorem jnil_state (w : World) : Calls Tryd.prog 28 #[.pointer none] w fun e w' => e = .returned (.int .i64 0) ∧ w = w' := by
  go_enter Tryd.func28, Tryd.ntmps28
  go_wp2
  go_ret
  exact ⟨rfl, rfl⟩
theorem jnil_who (w : World) : Calls Tryd.prog 29 #[.pointer none] w fun e w' => e = .returned (.string ⟨#[]⟩) ∧ w = w' := by
  go_enter Tryd.func29, Tryd.ntmps29
  go_wp2
  go_ret
  exact ⟨rfl, rfl⟩
theorem jnil_asked (w : World) : Calls Tryd.prog 30 #[.pointer none] w fun e w' => e = .returned (.int .i64 0) ∧ w = w' := by
  go_enter Tryd.func30, Tryd.ntmps30
  go_wp2
  go_ret
  exact ⟨rfl, rfl⟩
theorem chapnil_walk (id : Int) (A : Option Addr) (n c : Nat) (C I : Int) (A2 : Option Addr) (n2 c2 : Nat) (w : World) (hK : TabK w) (hS : TabS w) : Calls Tryd.prog 6 #[.int .i64 id, .slice A n c, .agg #[.int .i64 C, .int .i64 I, .slice A2 n2 c2]] w fun e w' => e = .returned (.bool true) ∧ Below w.heap.size w w' := by
  obtain ⟨V, hV⟩ : ∃ V, w.alloc (.cells #[.int .i64 C, .int .i64 I, .slice A2 n2 c2] 24) = V := ⟨_, rfl⟩
  have bV : Below w.heap.size w V := by rw [← hV]; exact (Below.refl _ _).alloc (Nat.le_refl _) _
  have h0 : Blk V w.heap.size 24 [.int .i64 C, .int .i64 I, .slice A2 n2 c2] := by rw [← hV]; exact heap_alloc_new w _
  have CC : Hid (Calls Tryd.prog 25 #[.pointer none, .int .i64 id, .slice A n c] V fun e w1 => e = .returned (.tuple #[.agg #[.int .i64 0, .int .i64 0, .slice none 0 0], .int .i64 2]) ∧ 
      Calls Tryd.prog 26 #[.pointer none] (w1.alloc (.cells #[.int .i64 0, .int .i64 0, .slice none 0 0] 24)) fun e w2 => e = .returned (.tuple #[.agg #[.int .i64 0, .int .i64 0, .slice none 0 0], .int .i64 2]) ∧  Blk (w2.alloc (.cells #[.int .i64 0, .int .i64 0, .slice none 0 0] 24)) w.heap.size 24 [.int .i64 C, .int .i64 I, .slice A2 n2 c2] ∧
      Calls Tryd.prog 27 #[.pointer none, .agg #[.int .i64 C, .int .i64 I, .slice A2 n2 c2]] (w2.alloc (.cells #[.int .i64 0, .int .i64 0, .slice none 0 0] 24)) fun e w3 => e = .returned (.tuple #[.agg #[.int .i64 0, .int .i64 0, .slice none 0 0], .int .i64 2]) ∧ 
      Calls Tryd.prog 18 #[] (w3.alloc (.cells #[.int .i64 0, .int .i64 0, .slice none 0 0] 24)) fun e w4 => e = .returned (.bool true) ∧ Below w.heap.size w w4) := by
    refine (jnil_ask id A n c V).mono ?_
    rintro e w1 ⟨rfl, b1⟩
    refine ⟨rfl, ?_⟩
    have B1 := step_to (step_to bV b1) ((Below.refl w1.heap.size w1).alloc (Nat.le_refl _) (.cells #[.int .i64 0, .int .i64 0, .slice none 0 0] 24))
    have k1 := past_same (past_same h0 b1) ((Below.refl w1.heap.size w1).alloc (Nat.le_refl _) (.cells #[.int .i64 0, .int .i64 0, .slice none 0 0] 24))
    refine (jnil_again _).mono ?_
    rintro e w2 ⟨rfl, b2⟩
    refine ⟨rfl, ?_, ?_⟩
    · exact past_same (past_same k1 b2) ((Below.refl w2.heap.size w2).alloc (Nat.le_refl _) _)
    have B2 := step_to (step_to B1 b2) ((Below.refl w2.heap.size w2).alloc (Nat.le_refl _) (.cells #[.int .i64 0, .int .i64 0, .slice none 0 0] 24))
    refine (jnil_take C I A2 n2 c2 _).mono ?_
    rintro e w3 ⟨rfl, b3⟩
    refine ⟨rfl, ?_⟩
    have B3 := step_to (step_to B2 b3) ((Below.refl w3.heap.size w3).alloc (Nat.le_refl _) (.cells #[.int .i64 0, .int .i64 0, .slice none 0 0] 24))
    refine (known_any _ (hK.kept B3) (hS.kept B3)).mono ?_
    rintro e w4 ⟨rfl, b4⟩
    exact ⟨rfl, step_to B3 b4⟩
  have T1 := Lib.hid (fun W => jnil_state W)
  have T2 := Lib.hid (fun W => jnil_who W)
  have T3 := Lib.hid (fun W => jnil_asked W)
  have HV := Lib.hid hV
  clear hV bV h0 hK hS
  go_enter Tryd.func6, Tryd.ntmps6
  go_wp2_with (first
    | (rw [HV.out])
    | (go_at_call 25; ((with_reducible refine CC.out.mono ?_); rintro e w1 ⟨rfl, n1⟩; have C1 := Lib.hid n1; clear n1))
    | (go_at_call 26; ((with_reducible refine C1.out.mono ?_); rintro e w2 ⟨rfl, k2, n1⟩; have x0 := k2.cell 0; have x1 := k2.cell 1; have x2 := k2.cell 2; have C2 := Lib.hid n1; clear k2 n1))
    | (go_at_call 27; ((with_reducible refine C2.out.mono ?_); rintro e w3 ⟨rfl, n1⟩; have C3 := Lib.hid n1; clear n1))
    | (go_at_call 28; ((with_reducible refine (T1.out _).mono ?_); rintro e w' ⟨rfl, rfl⟩))
    | (go_at_call 29; ((with_reducible refine (T2.out _).mono ?_); rintro e w' ⟨rfl, rfl⟩))
    | (go_at_call 30; ((with_reducible refine (T3.out _).mono ?_); rintro e w' ⟨rfl, rfl⟩))
    | (go_at_call 18; ((with_reducible refine C3.out.mono ?_); rintro e w4 ⟨rfl, b4⟩; have F := Lib.hid b4; clear b4)))
  go_ret
  exact ⟨rfl, F.out⟩
end Go.Proofs.YtdijgmijnoiliaaDoor
