/-
  md5's words behind one block more.
-/
import Derived.Test.YtjimoegegigoiaaDoorMdRot
import Derived.LoopTactic
import Derived.Deep.QuietTactic
import Derived.BigQuiet
import Derived.WalkMore
import Derived.StillTailTactics
namespace Go.Proofs.YtjimoegegigoiaaDoor
open Go.RowKit
set_option maxRecDepth 100000
set_option maxHeartbeats 4000000
set_option linter.unusedSimpArgs false
set_option linter.unusedVariables false

/-- the tables lie in the program's variables -/
def TabK (w : World) : Prop := ∀ i, i < 64 → w.cell? ⟨0, i, none⟩ = some (.int .u32 (mdK.getD i 0))
def TabS (w : World) : Prop := ∀ i, i < 16 → w.cell? ⟨1, i, none⟩ = some (.int .i64 (mdS.getD i 0))
theorem TabK.kept {w w' : World} (h : TabK w) (hB : Below w.heap.size w w') : TabK w' := fun i hi => by
  have h1 := h i hi
  exact (hB.cell (p := ⟨0, i, none⟩) (World.block_lt_of_cell? _ _ h1)).trans h1
theorem TabS.kept {w w' : World} (h : TabS w) (hB : Below w.heap.size w w') : TabS w' := fun i hi => by
  have h1 := h i hi
  exact (hB.cell (p := ⟨1, i, none⟩) (World.block_lt_of_cell? _ _ h1)).trans h1
theorem mdS_nat : ∀ i, i < 16 → mdS.getD i 0 = (((mdS.getD i 0).toNat : Nat) : Int) ∧ (mdS.getD i 0).toNat < 32 := by decide

theorem turn_any (g : Nat) (v : W4) (x : Nat → Int) (w : World) (hv : v.ok) (hx : ∀ i, i < 16 → 0 ≤ x i ∧ x i ≤ 4294967295) (hb : Blk w g 136 (cells4 v)) (hK : TabK w) (hS : TabS w) :
    Calls Tryd.prog 76 #[.pointer (some ⟨g, 0, none⟩), .agg #[.int .u32 (x 0), .int .u32 (x 1), .int .u32 (x 2), .int .u32 (x 3), .int .u32 (x 4), .int .u32 (x 5), .int .u32 (x 6), .int .u32 (x 7), .int .u32 (x 8), .int .u32 (x 9), .int .u32 (x 10), .int .u32 (x 11), .int .u32 (x 12), .int .u32 (x 13), .int .u32 (x 14), .int .u32 (x 15)]] w
      fun e w' => e = .returned (.tuple #[]) ∧ Blk w' g 136 (cells4 (mdBlock x v)) ∧ w.grownBy w' (some g) := by
  have hg := hb.lt
  obtain ⟨W, hW⟩ : ∃ W, W = w.alloc (.cells #[.int .u32 (x 0), .int .u32 (x 1), .int .u32 (x 2), .int .u32 (x 3), .int .u32 (x 4), .int .u32 (x 5), .int .u32 (x 6), .int .u32 (x 7), .int .u32 (x 8), .int .u32 (x 9), .int .u32 (x 10), .int .u32 (x 11), .int .u32 (x 12), .int .u32 (x 13), .int .u32 (x 14), .int .u32 (x 15)] 141) := ⟨_, rfl⟩
  have c0 : w.cell? ⟨g, 0, none⟩ = some (.int .u32 v.a) := hb.cell 0
  have c1 : w.cell? ⟨g, 1, none⟩ = some (.int .u32 v.b) := hb.cell 1
  have c2 : w.cell? ⟨g, 2, none⟩ = some (.int .u32 v.c) := hb.cell 2
  have c3 : w.cell? ⟨g, 3, none⟩ = some (.int .u32 v.d) := hb.cell 3
  have d0 : W.cell? ⟨g, 0, none⟩ = some (.int .u32 v.a) := by rw [hW]; exact (World.cell?_alloc_lt w _ ⟨g, 0, none⟩ hg).trans c0
  have d1 : W.cell? ⟨g, 1, none⟩ = some (.int .u32 v.b) := by rw [hW]; exact (World.cell?_alloc_lt w _ ⟨g, 1, none⟩ hg).trans c1
  have d2 : W.cell? ⟨g, 2, none⟩ = some (.int .u32 v.c) := by rw [hW]; exact (World.cell?_alloc_lt w _ ⟨g, 2, none⟩ hg).trans c2
  have d3 : W.cell? ⟨g, 3, none⟩ = some (.int .u32 v.d) := by rw [hW]; exact (World.cell?_alloc_lt w _ ⟨g, 3, none⟩ hg).trans c3
  have HW := Lib.hid hW
  clear c0 c1 c2 c3
  go_enter Tryd.func76, Tryd.ntmps76
  go_wp2
  rw [← hW]
  clear hW
  go_step3
  go_wp2
  go_quiet (fail)
  go_wp2
  go_step3
  go_wp2
  have CW : Hid (∀ i, i < 16 → W.cell? ⟨w.heap.size, i, none⟩ = some (.int .u32 (x i))) := by
    show ∀ i, _ → _
    intro i hi
    rw [HW.out]
    have h := (blk_new w 141 [.int .u32 (x 0), .int .u32 (x 1), .int .u32 (x 2), .int .u32 (x 3), .int .u32 (x 4), .int .u32 (x 5), .int .u32 (x 6), .int .u32 (x 7), .int .u32 (x 8), .int .u32 (x 9), .int .u32 (x 10), .int .u32 (x 11), .int .u32 (x 12), .int .u32 (x 13), .int .u32 (x 14), .int .u32 (x 15)]).cell i
    rw [h]
    match i, hi with
    | 0, _ => rfl
    | 1, _ => rfl
    | 2, _ => rfl
    | 3, _ => rfl
    | 4, _ => rfl
    | 5, _ => rfl
    | 6, _ => rfl
    | 7, _ => rfl
    | 8, _ => rfl
    | 9, _ => rfl
    | 10, _ => rfl
    | 11, _ => rfl
    | 12, _ => rfl
    | 13, _ => rfl
    | 14, _ => rfl
    | 15, _ => rfl
    | i + 16, h => exact absurd h (by omega)
  have BW : Below w.heap.size w W := by rw [HW.out]; exact (Below.refl _ _).alloc (Nat.le_refl _) _
  have KW := Lib.hid (hK.kept BW)
  have SW := Lib.hid (hS.kept BW)
  have HX := Lib.hid hx
  have HV := Lib.hid hv
  have HB := Lib.hid hb
  clear hK hS hx hv hb BW
  go_loopw [4, 5, 6, 7, 8] (fun va vb vc vd vi wr => ∃ (i m : Nat) (A B C D : Int), vi = .int .i64 i ∧ i ≤ 64 ∧ va = .int .u32 A ∧ vb = .int .u32 B ∧ vc = .int .u32 C ∧ vd = .int .u32 D ∧ Hid (mdSteps x i v = ⟨A, B, C, D⟩) ∧ wr = W.drewN m) (fun _ _ _ _ vi _ => 64 - (intOf vi).toNat)
  case atStart => exact ⟨0, nq, v.a, v.b, v.c, v.d, rfl, by omega, rfl, rfl, rfl, rfl, rfl, rfl⟩
  case round =>
    obtain ⟨i, m, A, B, C, D, rfl, hi, rfl, rfl, rfl, rfl, HS, rfl⟩ := hrel
    have ok := mdSteps_ok (x := x) i HV.out
    rw [HS.out] at ok
    obtain ⟨⟨a0, a1⟩, ⟨b0, b1⟩, ⟨e0, e1⟩, ⟨f0, f1⟩⟩ := ok
    dsimp only at a0 a1 b0 b1 e0 e1 f0 f1
    rcases (show i < 16 ∨ (16 ≤ i ∧ i < 32) ∨ (32 ≤ i ∧ i < 48) ∨ (48 ≤ i ∧ i < 64) ∨ i = 64 by omega) with h | ⟨h, h'⟩ | ⟨h, h'⟩ | ⟨h, h'⟩ | rfl
    · have q1 : (i : Int) / 16 = 0 := by omega
      have q64 : (i : Int) < 64 := by omega
      have q0 : (0 : Int) ≤ (i : Int) := by omega
      have kk : W.cell? ⟨0, i, none⟩ = some (.int .u32 (mdK.getD i 0)) := KW.out i (by omega)
      obtain ⟨G, hG⟩ : ∃ G, G = mdG 0 i % 16 := ⟨_, rfl⟩
      have kx := CW.out G (by omega)
      have g16 : (G : Int) < 16 := by omega
      have g0 : (0 : Int) ≤ (G : Int) := by omega
      have rm : ((i : Int)).tmod 16 = (G : Int) := by rw [Int.tmod_eq_emod_of_nonneg (by omega), hG]; show _ = (((i) % 16 : Nat) : Int); omega
      obtain ⟨F, hF⟩ : ∃ F, F = mdF 0 B C D := ⟨_, rfl⟩
      have hF2 : bits .or .u32 (bits .and .u32 B C) (bits .and .u32 (bits .xor .u32 IntKind.u32.max B) D) = F := hF.symm
      obtain ⟨T, hT⟩ : ∃ T, T = mdT x i ⟨A, B, C, D⟩ := ⟨_, rfl⟩
      have ks : W.cell? ⟨1, i % 4, none⟩ = some (.int .i64 (mdS.getD (0 * 4 + i % 4) 0)) := by
        have := SW.out (0 * 4 + i % 4) (by omega)
        rw [show 0 * 4 + i % 4 = i % 4 by omega] at this ⊢
        exact this
      obtain ⟨sn1, sn2⟩ := mdS_nat (0 * 4 + i % 4) (by omega)
      rw [sn1] at ks
      have hsn : mdTurn i = (mdS.getD (0 * 4 + i % 4) 0).toNat := by unfold mdTurn; rw [show i / 16 = 0 by omega]
      rw [← hsn] at ks sn2
      obtain ⟨P1, hP1⟩ : ∃ P1, P1 = (A + F) % 4294967296 := ⟨_, rfl⟩
      obtain ⟨P2, hP2⟩ : ∃ P2, P2 = (P1 + mdK.getD i 0) % 4294967296 := ⟨_, rfl⟩
      have hTT : T = (P2 + x G) % 4294967296 := by rw [hT, hP2, hP1, hF, hG]; unfold mdT; rw [show i / 16 = 0 by omega]
      have w1 : IntKind.u32.wrap (A + F) = P1 := by rw [IntKind.wrap_u32', hP1]
      have w2 : IntKind.u32.wrap (P1 + mdK.getD i 0) = P2 := by rw [IntKind.wrap_u32', hP2]
      have w3 : IntKind.u32.wrap (P2 + x G) = T := by rw [IntKind.wrap_u32', hTT]
      have T0 : 0 ≤ T ∧ T ≤ 4294967295 := by omega
      have NX : Hid (mdSteps x (i + 1) v = ⟨D, (B + mdRot T (mdTurn i)) % 4294967296, B, C⟩) := by
        show mdStep x i (mdSteps x i v) = _
        rw [HS.out]
        unfold mdStep
        rw [hT]
      have RT := Lib.hid (fun W => rot_any T (mdTurn i) W T0.1 T0.2 sn2)
      generalize mdTurn i = sn at *
      generalize mdRot T sn = RV at *
      generalize mdK.getD i 0 = kv at *
      generalize x G = xv at *
      clear hP1 hP2 hTT hsn sn1 hF hT hG
      go_wp2
      go_quiet (fail)
      go_wp2_with fail
      refine (RT.out _).mono ?_
      rintro e w9 ⟨rfl, rfl⟩
      go_wp2
      go_roundw
      case rel => exact ⟨i + 1, _, _, _, _, _, by go_num, by omega, rfl, rfl, rfl, rfl, NX, rfl⟩
      case measure => simp [intOf]; omega
    · have q1 : (i : Int) / 16 = 1 := by omega
      have q64 : (i : Int) < 64 := by omega
      have q0 : (0 : Int) ≤ (i : Int) := by omega
      have kk : W.cell? ⟨0, i, none⟩ = some (.int .u32 (mdK.getD i 0)) := KW.out i (by omega)
      obtain ⟨G, hG⟩ : ∃ G, G = mdG 1 i % 16 := ⟨_, rfl⟩
      have kx := CW.out G (by omega)
      have g16 : (G : Int) < 16 := by omega
      have g0 : (0 : Int) ≤ (G : Int) := by omega
      have rm : ((5 * (i : Int) + 1)).tmod 16 = (G : Int) := by rw [Int.tmod_eq_emod_of_nonneg (by omega), hG]; show _ = (((5 * i + 1) % 16 : Nat) : Int); omega
      obtain ⟨F, hF⟩ : ∃ F, F = mdF 1 B C D := ⟨_, rfl⟩
      have hF2 : bits .or .u32 (bits .and .u32 D B) (bits .and .u32 (bits .xor .u32 IntKind.u32.max D) C) = F := hF.symm
      obtain ⟨T, hT⟩ : ∃ T, T = mdT x i ⟨A, B, C, D⟩ := ⟨_, rfl⟩
      have ks : W.cell? ⟨1, 4 + i % 4, none⟩ = some (.int .i64 (mdS.getD (1 * 4 + i % 4) 0)) := by
        have := SW.out (1 * 4 + i % 4) (by omega)
        rw [show 1 * 4 + i % 4 = 4 + i % 4 by omega] at this ⊢
        exact this
      obtain ⟨sn1, sn2⟩ := mdS_nat (1 * 4 + i % 4) (by omega)
      rw [sn1] at ks
      have hsn : mdTurn i = (mdS.getD (1 * 4 + i % 4) 0).toNat := by unfold mdTurn; rw [show i / 16 = 1 by omega]
      rw [← hsn] at ks sn2
      obtain ⟨P1, hP1⟩ : ∃ P1, P1 = (A + F) % 4294967296 := ⟨_, rfl⟩
      obtain ⟨P2, hP2⟩ : ∃ P2, P2 = (P1 + mdK.getD i 0) % 4294967296 := ⟨_, rfl⟩
      have hTT : T = (P2 + x G) % 4294967296 := by rw [hT, hP2, hP1, hF, hG]; unfold mdT; rw [show i / 16 = 1 by omega]
      have w1 : IntKind.u32.wrap (A + F) = P1 := by rw [IntKind.wrap_u32', hP1]
      have w2 : IntKind.u32.wrap (P1 + mdK.getD i 0) = P2 := by rw [IntKind.wrap_u32', hP2]
      have w3 : IntKind.u32.wrap (P2 + x G) = T := by rw [IntKind.wrap_u32', hTT]
      have T0 : 0 ≤ T ∧ T ≤ 4294967295 := by omega
      have NX : Hid (mdSteps x (i + 1) v = ⟨D, (B + mdRot T (mdTurn i)) % 4294967296, B, C⟩) := by
        show mdStep x i (mdSteps x i v) = _
        rw [HS.out]
        unfold mdStep
        rw [hT]
      have RT := Lib.hid (fun W => rot_any T (mdTurn i) W T0.1 T0.2 sn2)
      generalize mdTurn i = sn at *
      generalize mdRot T sn = RV at *
      generalize mdK.getD i 0 = kv at *
      generalize x G = xv at *
      clear hP1 hP2 hTT hsn sn1 hF hT hG
      go_wp2
      go_quiet (fail)
      go_wp2_with fail
      refine (RT.out _).mono ?_
      rintro e w9 ⟨rfl, rfl⟩
      go_wp2
      go_roundw
      case rel => exact ⟨i + 1, _, _, _, _, _, by go_num, by omega, rfl, rfl, rfl, rfl, NX, rfl⟩
      case measure => simp [intOf]; omega
    · have q1 : (i : Int) / 16 = 2 := by omega
      have q64 : (i : Int) < 64 := by omega
      have q0 : (0 : Int) ≤ (i : Int) := by omega
      have kk : W.cell? ⟨0, i, none⟩ = some (.int .u32 (mdK.getD i 0)) := KW.out i (by omega)
      obtain ⟨G, hG⟩ : ∃ G, G = mdG 2 i % 16 := ⟨_, rfl⟩
      have kx := CW.out G (by omega)
      have g16 : (G : Int) < 16 := by omega
      have g0 : (0 : Int) ≤ (G : Int) := by omega
      have rm : ((3 * (i : Int) + 5)).tmod 16 = (G : Int) := by rw [Int.tmod_eq_emod_of_nonneg (by omega), hG]; show _ = (((3 * i + 5) % 16 : Nat) : Int); omega
      obtain ⟨F, hF⟩ : ∃ F, F = mdF 2 B C D := ⟨_, rfl⟩
      have hF2 : bits .xor .u32 (bits .xor .u32 B C) D = F := hF.symm
      obtain ⟨T, hT⟩ : ∃ T, T = mdT x i ⟨A, B, C, D⟩ := ⟨_, rfl⟩
      have ks : W.cell? ⟨1, 8 + i % 4, none⟩ = some (.int .i64 (mdS.getD (2 * 4 + i % 4) 0)) := by
        have := SW.out (2 * 4 + i % 4) (by omega)
        rw [show 2 * 4 + i % 4 = 8 + i % 4 by omega] at this ⊢
        exact this
      obtain ⟨sn1, sn2⟩ := mdS_nat (2 * 4 + i % 4) (by omega)
      rw [sn1] at ks
      have hsn : mdTurn i = (mdS.getD (2 * 4 + i % 4) 0).toNat := by unfold mdTurn; rw [show i / 16 = 2 by omega]
      rw [← hsn] at ks sn2
      obtain ⟨P1, hP1⟩ : ∃ P1, P1 = (A + F) % 4294967296 := ⟨_, rfl⟩
      obtain ⟨P2, hP2⟩ : ∃ P2, P2 = (P1 + mdK.getD i 0) % 4294967296 := ⟨_, rfl⟩
      have hTT : T = (P2 + x G) % 4294967296 := by rw [hT, hP2, hP1, hF, hG]; unfold mdT; rw [show i / 16 = 2 by omega]
      have w1 : IntKind.u32.wrap (A + F) = P1 := by rw [IntKind.wrap_u32', hP1]
      have w2 : IntKind.u32.wrap (P1 + mdK.getD i 0) = P2 := by rw [IntKind.wrap_u32', hP2]
      have w3 : IntKind.u32.wrap (P2 + x G) = T := by rw [IntKind.wrap_u32', hTT]
      have T0 : 0 ≤ T ∧ T ≤ 4294967295 := by omega
      have NX : Hid (mdSteps x (i + 1) v = ⟨D, (B + mdRot T (mdTurn i)) % 4294967296, B, C⟩) := by
        show mdStep x i (mdSteps x i v) = _
        rw [HS.out]
        unfold mdStep
        rw [hT]
      have RT := Lib.hid (fun W => rot_any T (mdTurn i) W T0.1 T0.2 sn2)
      generalize mdTurn i = sn at *
      generalize mdRot T sn = RV at *
      generalize mdK.getD i 0 = kv at *
      generalize x G = xv at *
      clear hP1 hP2 hTT hsn sn1 hF hT hG
      go_wp2
      go_quiet (fail)
      go_wp2_with fail
      refine (RT.out _).mono ?_
      rintro e w9 ⟨rfl, rfl⟩
      go_wp2
      go_roundw
      case rel => exact ⟨i + 1, _, _, _, _, _, by go_num, by omega, rfl, rfl, rfl, rfl, NX, rfl⟩
      case measure => simp [intOf]; omega
    · have q1 : (i : Int) / 16 = 3 := by omega
      have q64 : (i : Int) < 64 := by omega
      have q0 : (0 : Int) ≤ (i : Int) := by omega
      have kk : W.cell? ⟨0, i, none⟩ = some (.int .u32 (mdK.getD i 0)) := KW.out i (by omega)
      obtain ⟨G, hG⟩ : ∃ G, G = mdG 3 i % 16 := ⟨_, rfl⟩
      have kx := CW.out G (by omega)
      have g16 : (G : Int) < 16 := by omega
      have g0 : (0 : Int) ≤ (G : Int) := by omega
      have rm : ((7 * (i : Int))).tmod 16 = (G : Int) := by rw [Int.tmod_eq_emod_of_nonneg (by omega), hG]; show _ = (((7 * i) % 16 : Nat) : Int); omega
      obtain ⟨F, hF⟩ : ∃ F, F = mdF 3 B C D := ⟨_, rfl⟩
      have hF2 : bits .xor .u32 C (bits .or .u32 B (bits .xor .u32 IntKind.u32.max D)) = F := hF.symm
      obtain ⟨T, hT⟩ : ∃ T, T = mdT x i ⟨A, B, C, D⟩ := ⟨_, rfl⟩
      have ks : W.cell? ⟨1, 12 + i % 4, none⟩ = some (.int .i64 (mdS.getD (3 * 4 + i % 4) 0)) := by
        have := SW.out (3 * 4 + i % 4) (by omega)
        rw [show 3 * 4 + i % 4 = 12 + i % 4 by omega] at this ⊢
        exact this
      obtain ⟨sn1, sn2⟩ := mdS_nat (3 * 4 + i % 4) (by omega)
      rw [sn1] at ks
      have hsn : mdTurn i = (mdS.getD (3 * 4 + i % 4) 0).toNat := by unfold mdTurn; rw [show i / 16 = 3 by omega]
      rw [← hsn] at ks sn2
      obtain ⟨P1, hP1⟩ : ∃ P1, P1 = (A + F) % 4294967296 := ⟨_, rfl⟩
      obtain ⟨P2, hP2⟩ : ∃ P2, P2 = (P1 + mdK.getD i 0) % 4294967296 := ⟨_, rfl⟩
      have hTT : T = (P2 + x G) % 4294967296 := by rw [hT, hP2, hP1, hF, hG]; unfold mdT; rw [show i / 16 = 3 by omega]
      have w1 : IntKind.u32.wrap (A + F) = P1 := by rw [IntKind.wrap_u32', hP1]
      have w2 : IntKind.u32.wrap (P1 + mdK.getD i 0) = P2 := by rw [IntKind.wrap_u32', hP2]
      have w3 : IntKind.u32.wrap (P2 + x G) = T := by rw [IntKind.wrap_u32', hTT]
      have T0 : 0 ≤ T ∧ T ≤ 4294967295 := by omega
      have NX : Hid (mdSteps x (i + 1) v = ⟨D, (B + mdRot T (mdTurn i)) % 4294967296, B, C⟩) := by
        show mdStep x i (mdSteps x i v) = _
        rw [HS.out]
        unfold mdStep
        rw [hT]
      have RT := Lib.hid (fun W => rot_any T (mdTurn i) W T0.1 T0.2 sn2)
      generalize mdTurn i = sn at *
      generalize mdRot T sn = RV at *
      generalize mdK.getD i 0 = kv at *
      generalize x G = xv at *
      clear hP1 hP2 hTT hsn sn1 hF hT hG
      go_wp2
      go_quiet (fail)
      go_wp2_with fail
      refine (RT.out _).mono ?_
      rintro e w9 ⟨rfl, rfl⟩
      go_wp2
      go_roundw
      case rel => exact ⟨i + 1, _, _, _, _, _, by go_num, by omega, rfl, rfl, rfl, rfl, NX, rfl⟩
      case measure => simp [intOf]; omega
    · obtain ⟨r0, hr0⟩ : ∃ r, r = (v.a + A) % 4294967296 := ⟨_, rfl⟩
      obtain ⟨r1, hr1⟩ : ∃ r, r = (v.b + B) % 4294967296 := ⟨_, rfl⟩
      obtain ⟨r2, hr2⟩ : ∃ r, r = (v.c + C) % 4294967296 := ⟨_, rfl⟩
      obtain ⟨r3, hr3⟩ : ∃ r, r = (v.d + D) % 4294967296 := ⟨_, rfl⟩
      have FIN : Hid (mdBlock x v = ⟨r0, r1, r2, r3⟩) := by
        show _ = _
        unfold mdBlock mdAdd
        rw [HS.out, hr0, hr1, hr2, hr3]
      have s0 := hr0.symm
      have s1 := hr1.symm
      have s2 := hr2.symm
      have s3 := hr3.symm
      have u0 : IntKind.u32.wrap (v.a + A) = r0 := by rw [IntKind.wrap_u32', hr0]
      have u1 : IntKind.u32.wrap (v.b + B) = r1 := by rw [IntKind.wrap_u32', hr1]
      have u2 : IntKind.u32.wrap (v.c + C) = r2 := by rw [IntKind.wrap_u32', hr2]
      have u3 : IntKind.u32.wrap (v.d + D) = r3 := by rw [IntKind.wrap_u32', hr3]
      have BK0 : Blk W g 136 (cells4 v) := by rw [HW.out]; exact (Below.heap_alloc w _ g hg).trans HB.out
      have BK := Lib.hid BK0
      have fr0 := BK0.frozen 0
      have fr1 := BK0.frozen 1
      have fr2 := BK0.frozen 2
      have fr3 := BK0.frozen 3
      clear hr0 hr1 hr2 hr3 HS CW KW SW HX BK0
      go_wp2
      refine wp_region_still_tail 8 (by kernel_rfl) (by kernel_rfl) ?_
      simp only [List.take_succ_cons, List.take_zero, List.drop_succ_cons, List.drop_zero]
      change wpStill _ _ (W.drewN (m + 1)) _ _ _
      iterate 8 still_step
      refine wpStill_nil ?_
      change wpList _ _ _ _ _ (W.drewN (m + 1))
      go_wp2
      obtain ⟨V1, hV1⟩ : ∃ V, V = (W.drewN (m + 1)).setCell ⟨g, 0, none⟩ (.int .u32 r0) := ⟨_, rfl⟩
      have BK1 : Blk V1 g 136 [.int .u32 r0, .int .u32 v.b, .int .u32 v.c, .int .u32 v.d] := by rw [hV1]; exact Blk.set_ BK.out 0 _
      have GR1 : W.grownBy V1 (some g) := by rw [hV1]; exact only_then (only_of_below (below_drewN (Below.refl _ _) (m + 1)) (some g)) (only_set (w := (W.drewN (m + 1))) (p := ⟨g, 0, none⟩) (.int .u32 r0)) (fun i hi => .inl hi)
      have y1 : V1.cell? ⟨g, 1, none⟩ = some (.int .u32 v.b) := BK1.cell 1
      have z1 := BK1.frozen 1
      rw [← hV1]
      clear hV1
      go_wp2
      refine wp_region_still_tail 8 (by kernel_rfl) (by kernel_rfl) ?_
      simp only [List.take_succ_cons, List.take_zero, List.drop_succ_cons, List.drop_zero]
      change wpStill _ _ V1.drew _ _ _
      iterate 8 still_step
      refine wpStill_nil ?_
      change wpList _ _ _ _ _ V1.drew
      go_wp2
      obtain ⟨V2, hV2⟩ : ∃ V, V = (V1.setCell ⟨g, 1, none⟩ (.int .u32 r1)).drew := ⟨_, rfl⟩
      have BK2 : Blk V2 g 136 [.int .u32 r0, .int .u32 r1, .int .u32 v.c, .int .u32 v.d] := by rw [hV2]; exact Blk.set_ BK1 1 _
      have GR2 : V1.grownBy V2 (some g) := by rw [hV2]; exact only_then (only_of_below (below_drewN (Below.refl _ _) 1) (some g)) (only_set (w := V1.drew) (p := ⟨g, 1, none⟩) (.int .u32 r1)) (fun i hi => .inl hi)
      have y2 : V2.cell? ⟨g, 2, none⟩ = some (.int .u32 v.c) := BK2.cell 2
      have z2 := BK2.frozen 2
      rw [← hV2]
      clear hV2
      go_wp2
      refine wp_region_still_tail 8 (by kernel_rfl) (by kernel_rfl) ?_
      simp only [List.take_succ_cons, List.take_zero, List.drop_succ_cons, List.drop_zero]
      change wpStill _ _ V2.drew _ _ _
      iterate 8 still_step
      refine wpStill_nil ?_
      change wpList _ _ _ _ _ V2.drew
      go_wp2
      obtain ⟨V3, hV3⟩ : ∃ V, V = (V2.setCell ⟨g, 2, none⟩ (.int .u32 r2)).drew := ⟨_, rfl⟩
      have BK3 : Blk V3 g 136 [.int .u32 r0, .int .u32 r1, .int .u32 r2, .int .u32 v.d] := by rw [hV3]; exact Blk.set_ BK2 2 _
      have GR3 : V2.grownBy V3 (some g) := by rw [hV3]; exact only_then (only_of_below (below_drewN (Below.refl _ _) 1) (some g)) (only_set (w := V2.drew) (p := ⟨g, 2, none⟩) (.int .u32 r2)) (fun i hi => .inl hi)
      have y3 : V3.cell? ⟨g, 3, none⟩ = some (.int .u32 v.d) := BK3.cell 3
      have z3 := BK3.frozen 3
      rw [← hV3]
      clear hV3
      go_wp2
      refine wp_region_still_tail 8 (by kernel_rfl) (by kernel_rfl) ?_
      simp only [List.take_succ_cons, List.take_zero, List.drop_succ_cons, List.drop_zero]
      change wpStill _ _ V3.drew _ _ _
      iterate 8 still_step
      refine wpStill_nil ?_
      change wpList _ _ _ _ _ V3.drew
      go_wp2
      obtain ⟨V4, hV4⟩ : ∃ V, V = (V3.setCell ⟨g, 3, none⟩ (.int .u32 r3)).drew := ⟨_, rfl⟩
      have BK4 : Blk V4 g 136 [.int .u32 r0, .int .u32 r1, .int .u32 r2, .int .u32 r3] := by rw [hV4]; exact Blk.set_ BK3 3 _
      have GR4 : V3.grownBy V4 (some g) := by rw [hV4]; exact only_then (only_of_below (below_drewN (Below.refl _ _) 1) (some g)) (only_set (w := V3.drew) (p := ⟨g, 3, none⟩) (.int .u32 r3)) (fun i hi => .inl hi)
      rw [← hV4]
      clear hV4
      simp only [Exit.noGoto_ret, Exit.noGoto_normal]
      go_end0
      have e : ∀ i : Nat, some i = some g → some g = some i ∨ w.heap.size ≤ i := fun i hi => .inl hi.symm
      refine ⟨rfl, by rw [FIN.out]; exact BK4, ?_⟩
      have G0 : w.grownBy W (some g) := by rw [HW.out]; exact only_of_below ((Below.refl _ _).alloc (Nat.le_refl _) _) _
      exact only_then (only_then (only_then (only_then G0 GR1 (fun i hi => .inl hi)) GR2 (fun i hi => .inl hi)) GR3 (fun i hi => .inl hi)) GR4 (fun i hi => .inl hi)
end Go.Proofs.YtjimoegegigoiaaDoor
