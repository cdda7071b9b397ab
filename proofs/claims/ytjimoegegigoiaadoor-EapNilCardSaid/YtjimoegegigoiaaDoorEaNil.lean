/-
  The law EapNil: what there is not answers ErrNil (written by gen_eanil.py).
-/
import Derived.Test.YtjimoegegigoiaaDoorEaAwake
namespace Go.Proofs.YtjimoegegigoiaaDoor
open Go.RowKit Go.Shelf
set_option maxRecDepth 100000
set_option maxHeartbeats 1000000
set_option linter.unusedSimpArgs false
set_option linter.unusedVariables false

structure Zs (W : World) (b1 b2 b3 b4 b5 b6 : Nat) : Prop where
  k1 : Blk W b1 24 [.int .i64 0, .int .i64 0, .slice none 0 0]
  k2 : Blk W b2 24 [.int .i64 0, .int .i64 0, .slice none 0 0]
  k3 : Blk W b3 24 [.int .i64 0, .int .i64 0, .slice none 0 0]
  k4 : Blk W b4 24 [.int .i64 0, .int .i64 0, .slice none 0 0]
  k5 : Blk W b5 24 [.int .i64 0, .int .i64 0, .slice none 0 0]
  k6 : Blk W b6 24 [.int .i64 0, .int .i64 0, .slice none 0 0]
theorem Zs.later {W W' : World} {b1 b2 b3 b4 b5 b6 : Nat} (h : Zs W b1 b2 b3 b4 b5 b6) (hB : Below W.heap.size W W') : Zs W' b1 b2 b3 b4 b5 b6 :=
  ⟨past_same h.k1 hB, past_same h.k2 hB, past_same h.k3 hB, past_same h.k4 hB, past_same h.k5 hB, past_same h.k6 hB⟩
theorem same_zero (W : World) : Calls Tryd.prog 16 #[.agg #[.int .i64 0, .int .i64 0, .slice none 0 0], .agg #[.int .i64 0, .int .i64 0, .slice none 0 0]] W fun e w' => e = .returned (.bool true) ∧ Below W.heap.size W w' :=
  psame_any 0 0 0 0 none none 0 0 0 0 0 [] [] W Rd.nil Rd.nil (Nat.zero_le _)
theorem eapnil_walk (C I : Int) (A : Option Addr) (n c : Nat) (A2 : Option Addr) (n2 c2 : Nat) (w : World) (hK : TabK w) (hS : TabS w) : Calls Tryd.prog 6 #[.agg #[.int .i64 C, .int .i64 I, .slice A n c], .slice A2 n2 c2] w fun e w' => e = .returned (.bool true) ∧ Below w.heap.size w w' := by
  obtain ⟨V, hV⟩ : ∃ V, w.alloc (.cells #[.int .i64 C, .int .i64 I, .slice A n c] 24) = V := ⟨_, rfl⟩
  have bV : Below w.heap.size w V := by rw [← hV]; exact (Below.refl _ _).alloc (Nat.le_refl _) _
  have h0 : Blk V w.heap.size 24 [.int .i64 C, .int .i64 I, .slice A n c] := by rw [← hV]; exact heap_alloc_new w _
  have C0 : Hid (Calls Tryd.prog 20 #[.pointer none] V fun e w1 => e = .returned (.tuple #[.agg #[.int .i64 0, .int .i64 0, .slice none 0 0], .int .i64 2]) ∧ 
      Calls Tryd.prog 31 #[.pointer none, .slice A2 n2 c2] (w1.alloc (.cells #[.int .i64 0, .int .i64 0, .slice none 0 0] 24)) fun e w2 => e = .returned (.tuple #[.agg #[.int .i64 0, .int .i64 0, .slice none 0 0], .bool false, .int .i64 2]) ∧ Blk (w2.alloc (.cells #[.int .i64 0, .int .i64 0, .slice none 0 0] 24)) w.heap.size 24 [.int .i64 C, .int .i64 I, .slice A n c] ∧ 
      Calls Tryd.prog 21 #[.pointer none, .agg #[.int .i64 C, .int .i64 I, .slice A n c], .slice A2 n2 c2] (w2.alloc (.cells #[.int .i64 0, .int .i64 0, .slice none 0 0] 24)) fun e w3 => e = .returned (.tuple #[.agg #[.int .i64 0, .int .i64 0, .slice none 0 0], .bool false, .int .i64 2]) ∧ 
      Calls Tryd.prog 29 #[.pointer none, .slice A2 n2 c2] (w3.alloc (.cells #[.int .i64 0, .int .i64 0, .slice none 0 0] 24)) fun e w4 => e = .returned (.tuple #[.agg #[.int .i64 0, .int .i64 0, .slice none 0 0], .int .i64 2]) ∧ Blk (w4.alloc (.cells #[.int .i64 0, .int .i64 0, .slice none 0 0] 24)) w.heap.size 24 [.int .i64 C, .int .i64 I, .slice A n c] ∧ 
      Calls Tryd.prog 28 #[.pointer none, .agg #[.int .i64 C, .int .i64 I, .slice A n c]] (w4.alloc (.cells #[.int .i64 0, .int .i64 0, .slice none 0 0] 24)) fun e w5 => e = .returned (.tuple #[.agg #[.int .i64 0, .int .i64 0, .slice none 0 0], .bool false, .int .i64 2]) ∧ 
      ∃ Y, (w5.alloc (.cells #[.int .i64 0, .int .i64 0, .slice none 0 0] 24)).alloc (.cells #[.int .i64 0, .int .i64 0, .slice none 0 0] 24) = Y ∧ Zs Y w1.heap.size w2.heap.size w3.heap.size w4.heap.size w5.heap.size (w5.heap.size + 1) ∧
      Calls Tryd.prog 16 #[.agg #[.int .i64 0, .int .i64 0, .slice none 0 0], .agg #[.int .i64 0, .int .i64 0, .slice none 0 0]] Y fun e y1 => e = .returned (.bool true) ∧ Zs y1 w1.heap.size w2.heap.size w3.heap.size w4.heap.size w5.heap.size (w5.heap.size + 1) ∧
      Calls Tryd.prog 16 #[.agg #[.int .i64 0, .int .i64 0, .slice none 0 0], .agg #[.int .i64 0, .int .i64 0, .slice none 0 0]] y1 fun e y2 => e = .returned (.bool true) ∧ Zs y2 w1.heap.size w2.heap.size w3.heap.size w4.heap.size w5.heap.size (w5.heap.size + 1) ∧
      Calls Tryd.prog 16 #[.agg #[.int .i64 0, .int .i64 0, .slice none 0 0], .agg #[.int .i64 0, .int .i64 0, .slice none 0 0]] y2 fun e y3 => e = .returned (.bool true) ∧ Zs y3 w1.heap.size w2.heap.size w3.heap.size w4.heap.size w5.heap.size (w5.heap.size + 1) ∧
      Calls Tryd.prog 16 #[.agg #[.int .i64 0, .int .i64 0, .slice none 0 0], .agg #[.int .i64 0, .int .i64 0, .slice none 0 0]] y3 fun e y4 => e = .returned (.bool true) ∧ Zs y4 w1.heap.size w2.heap.size w3.heap.size w4.heap.size w5.heap.size (w5.heap.size + 1) ∧
      Calls Tryd.prog 16 #[.agg #[.int .i64 0, .int .i64 0, .slice none 0 0], .agg #[.int .i64 0, .int .i64 0, .slice none 0 0]] y4 fun e y5 => e = .returned (.bool true) ∧ Zs y5 w1.heap.size w2.heap.size w3.heap.size w4.heap.size w5.heap.size (w5.heap.size + 1) ∧
      Calls Tryd.prog 18 #[] y5 fun e w' => e = .returned (.bool true) ∧ Below w.heap.size w w') := by
    refine (snil_start V).mono ?_
    rintro e w1 ⟨rfl, b1⟩
    have a1 := (Below.refl w1.heap.size w1).alloc (Nat.le_refl _) (.cells #[.int .i64 0, .int .i64 0, .slice none 0 0] 24)
    have nn1 : Blk (w1.alloc (.cells #[.int .i64 0, .int .i64 0, .slice none 0 0] 24)) w1.heap.size 24 [.int .i64 0, .int .i64 0, .slice none 0 0] := heap_alloc_new w1 _
    have B1 := step_to (step_to bV b1) a1
    have p1 := past_same (past_same h0 b1) a1
    refine ⟨rfl, ?_⟩
    refine (snil_again A2 n2 c2 _).mono ?_
    rintro e w2 ⟨rfl, b2⟩
    have a2 := (Below.refl w2.heap.size w2).alloc (Nat.le_refl _) (.cells #[.int .i64 0, .int .i64 0, .slice none 0 0] 24)
    have nn2 : Blk (w2.alloc (.cells #[.int .i64 0, .int .i64 0, .slice none 0 0] 24)) w2.heap.size 24 [.int .i64 0, .int .i64 0, .slice none 0 0] := heap_alloc_new w2 _
    have B2 := step_to (step_to B1 b2) a2
    have p2 := past_same (past_same p1 b2) a2
    have q1_2 := past_same (past_same nn1 b2) a2
    refine ⟨rfl, p2, ?_⟩
    refine (snil_take C I A n c A2 n2 c2 _).mono ?_
    rintro e w3 ⟨rfl, b3⟩
    have a3 := (Below.refl w3.heap.size w3).alloc (Nat.le_refl _) (.cells #[.int .i64 0, .int .i64 0, .slice none 0 0] 24)
    have nn3 : Blk (w3.alloc (.cells #[.int .i64 0, .int .i64 0, .slice none 0 0] 24)) w3.heap.size 24 [.int .i64 0, .int .i64 0, .slice none 0 0] := heap_alloc_new w3 _
    have B3 := step_to (step_to B2 b3) a3
    have p3 := past_same (past_same p2 b3) a3
    have q1_3 := past_same (past_same q1_2 b3) a3
    have q2_3 := past_same (past_same nn2 b3) a3
    refine ⟨rfl, ?_⟩
    refine (snil_prove A2 n2 c2 _).mono ?_
    rintro e w4 ⟨rfl, b4⟩
    have a4 := (Below.refl w4.heap.size w4).alloc (Nat.le_refl _) (.cells #[.int .i64 0, .int .i64 0, .slice none 0 0] 24)
    have nn4 : Blk (w4.alloc (.cells #[.int .i64 0, .int .i64 0, .slice none 0 0] 24)) w4.heap.size 24 [.int .i64 0, .int .i64 0, .slice none 0 0] := heap_alloc_new w4 _
    have B4 := step_to (step_to B3 b4) a4
    have p4 := past_same (past_same p3 b4) a4
    have q1_4 := past_same (past_same q1_3 b4) a4
    have q2_4 := past_same (past_same q2_3 b4) a4
    have q3_4 := past_same (past_same nn3 b4) a4
    refine ⟨rfl, p4, ?_⟩
    refine (pnil_take C I A n c _).mono ?_
    rintro e w5 ⟨rfl, b5⟩
    have a5 := (Below.refl w5.heap.size w5).alloc (Nat.le_refl _) (.cells #[.int .i64 0, .int .i64 0, .slice none 0 0] 24)
    have nn5 : Blk (w5.alloc (.cells #[.int .i64 0, .int .i64 0, .slice none 0 0] 24)) w5.heap.size 24 [.int .i64 0, .int .i64 0, .slice none 0 0] := heap_alloc_new w5 _
    have B5 := step_to (step_to B4 b5) a5
    have p5 := past_same (past_same p4 b5) a5
    have q1_5 := past_same (past_same q1_4 b5) a5
    have q2_5 := past_same (past_same q2_4 b5) a5
    have q3_5 := past_same (past_same q3_4 b5) a5
    have q4_5 := past_same (past_same nn4 b5) a5
    have a6 := (Below.refl (w5.alloc (.cells #[.int .i64 0, .int .i64 0, .slice none 0 0] 24)).heap.size (w5.alloc (.cells #[.int .i64 0, .int .i64 0, .slice none 0 0] 24))).alloc (Nat.le_refl _) (.cells #[.int .i64 0, .int .i64 0, .slice none 0 0] 24)
    have nn6 : Blk ((w5.alloc (.cells #[.int .i64 0, .int .i64 0, .slice none 0 0] 24)).alloc (.cells #[.int .i64 0, .int .i64 0, .slice none 0 0] 24)) (w5.heap.size + 1) 24 [.int .i64 0, .int .i64 0, .slice none 0 0] := by
      have h := heap_alloc_new (w5.alloc (.cells #[.int .i64 0, .int .i64 0, .slice none 0 0] 24)) (.cells #[.int .i64 0, .int .i64 0, .slice none 0 0] 24)
      rw [World.size_alloc] at h
      exact h
    obtain ⟨Y, hY⟩ : ∃ Y, (w5.alloc (.cells #[.int .i64 0, .int .i64 0, .slice none 0 0] 24)).alloc (.cells #[.int .i64 0, .int .i64 0, .slice none 0 0] 24) = Y := ⟨_, rfl⟩
    rw [hY] at a6 nn6
    have zY : Zs Y w1.heap.size w2.heap.size w3.heap.size w4.heap.size w5.heap.size (w5.heap.size + 1) := ⟨past_same q1_5 a6, past_same q2_5 a6, past_same q3_5 a6, past_same q4_5 a6, past_same nn5 a6, nn6⟩
    have BY := step_to B5 a6
    refine ⟨rfl, Y, hY, zY, ?_⟩
    refine (same_zero _).mono ?_
    rintro e y1 ⟨rfl, d1⟩
    have z1 := zY.later d1
    have D1 := step_to BY d1
    refine ⟨rfl, z1, ?_⟩
    refine (same_zero _).mono ?_
    rintro e y2 ⟨rfl, d2⟩
    have z2 := z1.later d2
    have D2 := step_to D1 d2
    refine ⟨rfl, z2, ?_⟩
    refine (same_zero _).mono ?_
    rintro e y3 ⟨rfl, d3⟩
    have z3 := z2.later d3
    have D3 := step_to D2 d3
    refine ⟨rfl, z3, ?_⟩
    refine (same_zero _).mono ?_
    rintro e y4 ⟨rfl, d4⟩
    have z4 := z3.later d4
    have D4 := step_to D3 d4
    refine ⟨rfl, z4, ?_⟩
    refine (same_zero _).mono ?_
    rintro e y5 ⟨rfl, d5⟩
    have z5 := z4.later d5
    have D5 := step_to D4 d5
    refine ⟨rfl, z5, ?_⟩
    refine (awake_any _ (hK.kept D5) (hS.kept D5)).mono ?_
    rintro e w' ⟨rfl, b⟩
    exact ⟨rfl, step_to D5 b⟩
  have i0 := h0.cell 0
  have i1 := h0.cell 1
  have i2 := h0.cell 2
  have lV := Blk.lt h0
  have T1 := Lib.hid (fun W => snil_state W)
  have T2 := Lib.hid (fun W => snil_who W)
  have T3 := Lib.hid (fun W => pnil_state W)
  have T4 := Lib.hid (fun W => pnil_notice W)
  have HV := Lib.hid hV
  clear hV bV h0 hK hS
  go_enter Tryd.func6, Tryd.ntmps6
  go_upto_region 11 with (first
    | (rw [HV.out])
    | (go_at_call 20; ((with_reducible refine C0.out.mono ?_); rintro e w1 ⟨rfl, n1⟩; have C1 := Lib.hid n1; clear n1))
    | (go_at_call 31; ((with_reducible refine C1.out.mono ?_); rintro e w2 ⟨rfl, kk, n1⟩; have s20 := kk.cell 0; have s21 := kk.cell 1; have s22 := kk.cell 2; clear kk; have C2 := Lib.hid n1; clear n1))
    | (go_at_call 21; ((with_reducible refine C2.out.mono ?_); rintro e w3 ⟨rfl, n1⟩; have C3 := Lib.hid n1; clear n1))
    | (go_at_call 29; ((with_reducible refine C3.out.mono ?_); rintro e w4 ⟨rfl, kk, n1⟩; have s40 := kk.cell 0; have s41 := kk.cell 1; have s42 := kk.cell 2; clear kk; have C4 := Lib.hid n1; clear n1))
    | (go_at_call 28; ((with_reducible refine C4.out.mono ?_); rintro e w5 ⟨rfl, Y, hY, zs, n1⟩; have HY := Lib.hid hY; have ZY := Lib.hid zs; clear hY zs; have C5 := Lib.hid n1; clear n1)))
  rw [HY.out]
  have f10 := ZY.out.k1.cell 0
  have f11 := ZY.out.k1.cell 1
  have f12 := ZY.out.k1.cell 2
  have f20 := ZY.out.k2.cell 0
  have f21 := ZY.out.k2.cell 1
  have f22 := ZY.out.k2.cell 2
  have f30 := ZY.out.k3.cell 0
  have f31 := ZY.out.k3.cell 1
  have f32 := ZY.out.k3.cell 2
  have f40 := ZY.out.k4.cell 0
  have f41 := ZY.out.k4.cell 1
  have f42 := ZY.out.k4.cell 2
  have f50 := ZY.out.k5.cell 0
  have f51 := ZY.out.k5.cell 1
  have f52 := ZY.out.k5.cell 2
  have f60 := ZY.out.k6.cell 0
  have f61 := ZY.out.k6.cell 1
  have f62 := ZY.out.k6.cell 2
  go_wp2_with (first
    | (go_at_call 16; ((with_reducible refine C9.out.mono ?_); rintro e y5 ⟨rfl, zs, n1⟩; have g4_10 := zs.k1.cell 0; have g4_11 := zs.k1.cell 1; have g4_12 := zs.k1.cell 2; have g4_20 := zs.k2.cell 0; have g4_21 := zs.k2.cell 1; have g4_22 := zs.k2.cell 2; have g4_30 := zs.k3.cell 0; have g4_31 := zs.k3.cell 1; have g4_32 := zs.k3.cell 2; have g4_40 := zs.k4.cell 0; have g4_41 := zs.k4.cell 1; have g4_42 := zs.k4.cell 2; have g4_50 := zs.k5.cell 0; have g4_51 := zs.k5.cell 1; have g4_52 := zs.k5.cell 2; have g4_60 := zs.k6.cell 0; have g4_61 := zs.k6.cell 1; have g4_62 := zs.k6.cell 2; have C10 := Lib.hid n1; clear zs n1))
    | (go_at_call 16; ((with_reducible refine C8.out.mono ?_); rintro e y4 ⟨rfl, zs, n1⟩; have g3_10 := zs.k1.cell 0; have g3_11 := zs.k1.cell 1; have g3_12 := zs.k1.cell 2; have g3_20 := zs.k2.cell 0; have g3_21 := zs.k2.cell 1; have g3_22 := zs.k2.cell 2; have g3_30 := zs.k3.cell 0; have g3_31 := zs.k3.cell 1; have g3_32 := zs.k3.cell 2; have g3_40 := zs.k4.cell 0; have g3_41 := zs.k4.cell 1; have g3_42 := zs.k4.cell 2; have g3_50 := zs.k5.cell 0; have g3_51 := zs.k5.cell 1; have g3_52 := zs.k5.cell 2; have g3_60 := zs.k6.cell 0; have g3_61 := zs.k6.cell 1; have g3_62 := zs.k6.cell 2; have C9 := Lib.hid n1; clear zs n1))
    | (go_at_call 16; ((with_reducible refine C7.out.mono ?_); rintro e y3 ⟨rfl, zs, n1⟩; have g2_10 := zs.k1.cell 0; have g2_11 := zs.k1.cell 1; have g2_12 := zs.k1.cell 2; have g2_20 := zs.k2.cell 0; have g2_21 := zs.k2.cell 1; have g2_22 := zs.k2.cell 2; have g2_30 := zs.k3.cell 0; have g2_31 := zs.k3.cell 1; have g2_32 := zs.k3.cell 2; have g2_40 := zs.k4.cell 0; have g2_41 := zs.k4.cell 1; have g2_42 := zs.k4.cell 2; have g2_50 := zs.k5.cell 0; have g2_51 := zs.k5.cell 1; have g2_52 := zs.k5.cell 2; have g2_60 := zs.k6.cell 0; have g2_61 := zs.k6.cell 1; have g2_62 := zs.k6.cell 2; have C8 := Lib.hid n1; clear zs n1))
    | (go_at_call 16; ((with_reducible refine C6.out.mono ?_); rintro e y2 ⟨rfl, zs, n1⟩; have g1_10 := zs.k1.cell 0; have g1_11 := zs.k1.cell 1; have g1_12 := zs.k1.cell 2; have g1_20 := zs.k2.cell 0; have g1_21 := zs.k2.cell 1; have g1_22 := zs.k2.cell 2; have g1_30 := zs.k3.cell 0; have g1_31 := zs.k3.cell 1; have g1_32 := zs.k3.cell 2; have g1_40 := zs.k4.cell 0; have g1_41 := zs.k4.cell 1; have g1_42 := zs.k4.cell 2; have g1_50 := zs.k5.cell 0; have g1_51 := zs.k5.cell 1; have g1_52 := zs.k5.cell 2; have g1_60 := zs.k6.cell 0; have g1_61 := zs.k6.cell 1; have g1_62 := zs.k6.cell 2; have C7 := Lib.hid n1; clear zs n1))
    | (go_at_call 16; ((with_reducible refine C5.out.mono ?_); rintro e y1 ⟨rfl, zs, n1⟩; have g0_10 := zs.k1.cell 0; have g0_11 := zs.k1.cell 1; have g0_12 := zs.k1.cell 2; have g0_20 := zs.k2.cell 0; have g0_21 := zs.k2.cell 1; have g0_22 := zs.k2.cell 2; have g0_30 := zs.k3.cell 0; have g0_31 := zs.k3.cell 1; have g0_32 := zs.k3.cell 2; have g0_40 := zs.k4.cell 0; have g0_41 := zs.k4.cell 1; have g0_42 := zs.k4.cell 2; have g0_50 := zs.k5.cell 0; have g0_51 := zs.k5.cell 1; have g0_52 := zs.k5.cell 2; have g0_60 := zs.k6.cell 0; have g0_61 := zs.k6.cell 1; have g0_62 := zs.k6.cell 2; have C6 := Lib.hid n1; clear zs n1))
    | (go_at_call 24; ((with_reducible refine (T1.out _).mono ?_); rintro e w' ⟨rfl, rfl⟩))
    | (go_at_call 26; ((with_reducible refine (T2.out _).mono ?_); rintro e w' ⟨rfl, rfl⟩))
    | (go_at_call 30; ((with_reducible refine (T3.out _).mono ?_); rintro e w' ⟨rfl, rfl⟩))
    | (go_at_call 32; ((with_reducible refine (T4.out _).mono ?_); rintro e w' ⟨rfl, rfl⟩))
    | (go_at_call 18; ((with_reducible refine C10.out.mono ?_); rintro e w9 ⟨rfl, b4⟩; have F := Lib.hid b4; clear b4)))
  go_ret
  exact ⟨rfl, F.out⟩
end Go.Proofs.YtjimoegegigoiaaDoor
