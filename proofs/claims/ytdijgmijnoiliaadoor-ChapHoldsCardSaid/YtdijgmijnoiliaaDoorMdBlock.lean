/-
  tetherref04's words behind one block more.
-/
import Derived.Test.YtdijgmijnoiliaaDoorMdRef
import Derived.LoopTactic
import Derived.WalkMore
import Derived.Outline
namespace Go.Proofs.YtdijgmijnoiliaaDoor
open Go.RowKit
set_option maxRecDepth 100000
set_option maxHeartbeats 4000000
set_option linter.unusedSimpArgs false
set_option linter.unusedVariables false

theorem mdWord_part (l : List UInt8) (j : Nat) : mdWord ((l.drop (4 * j)).take 4) 0 = mdWord l j := by
  unfold mdWord
  have h : ∀ r, r < 4 → byteAt ((l.drop (4 * j)).take 4) r = byteAt l (4 * j + r) := by
    intro r hr
    unfold byteAt
    rw [List.getD_eq_getElem?_getD, List.getD_eq_getElem?_getD, List.getElem?_take_of_lt hr, List.getElem?_drop]
  rw [show 4 * 0 = 0 from rfl, h 0 (by omega), h (0 + 1) (by omega), h (0 + 2) (by omega), h (0 + 3) (by omega)]
  simp only [Nat.zero_add, Nat.add_zero]
theorem rword_q (b off cap B G a : Nat) (l : List UInt8) (w : World) (hr : Rd w B (some ⟨b, off, none⟩) 64 l) (hc : 64 ≤ cap) (hG : G < 16) :
    Calls Tryd.prog 66 #[.slice (some ⟨b, off + 4 * G, none⟩) 4 (cap - 4 * G)] (w.drewN a) fun e w' => e = .returned (.int .u32 (mdWord l G)) ∧ ∃ k, w' = w.drewN k := by
  have hl := hr.1
  obtain ⟨b', off', e, hb, hcell⟩ := hr.2 (by omega)
  injection e with e
  injection e with e1 e2
  subst e1 e2
  have h : Rd (w.drewN a) B (some ⟨b, off + 4 * G, none⟩) 4 ((l.drop (4 * G)).take 4) := by
    refine ⟨by rw [List.length_take, List.length_drop]; omega, fun _ => ⟨b, off + 4 * G, rfl, hb, fun j hj => ?_⟩⟩
    have := hcell (4 * G + j) (by omega)
    rw [← Nat.add_assoc] at this
    refine this.trans ?_
    congr 2
    unfold byteAt
    rw [List.getD_eq_getElem?_getD, List.getD_eq_getElem?_getD, List.getElem?_take_of_lt hj, List.getElem?_drop]
  refine (rword_any _ (cap - 4 * G) B _ (w.drewN a) h (by omega)).mono ?_
  rintro e w' ⟨rfl, k, rfl⟩
  exact ⟨by rw [mdWord_part], a + k, World.drewN_drewN _ _ _⟩

theorem four_set {w : World} {g t : Nat} {x0 x1 x2 x3 : Value} (h : Blk w g t [x0, x1, x2, x3]) (y0 y1 y2 y3 : Value) : Blk ((((w.setCell ⟨g, 0, none⟩ y0).setCell ⟨g, 1, none⟩ y1).setCell ⟨g, 2, none⟩ y2).setCell ⟨g, 3, none⟩ y3) g t [y0, y1, y2, y3] ∧
    w.grownBy ((((w.setCell ⟨g, 0, none⟩ y0).setCell ⟨g, 1, none⟩ y1).setCell ⟨g, 2, none⟩ y2).setCell ⟨g, 3, none⟩ y3) (some g) :=
  ⟨(((h.set_ 0 y0).set_ 1 y1).set_ 2 y2).set_ 3 y3, only_then (only_then (only_then (only_set (p := ⟨g, 0, none⟩) y0) (only_set (p := ⟨g, 1, none⟩) y1) (fun i hi => .inl hi)) (only_set (p := ⟨g, 2, none⟩) y2) (fun i hi => .inl hi)) (only_set (p := ⟨g, 3, none⟩) y3) (fun i hi => .inl hi)⟩
theorem below_mono0 {B : Nat} {w w' : World} (h : Below w.heap.size w w') (hB : B ≤ w.heap.size) : Below B w w' := h.mono hB
theorem rblock_any (v : W4) (b off cap B : Nat) (l : List UInt8) (w : World) (hv : v.ok) (hr : Rd w B (some ⟨b, off, none⟩) 64 l) (hB : B ≤ w.heap.size) (hc : 64 ≤ cap) :
    Calls Tryd.prog 52 #[.agg #[.int .u32 v.a, .int .u32 v.b, .int .u32 v.c, .int .u32 v.d], .slice (some ⟨b, off, none⟩) 64 cap] w
      fun e w' => e = .returned (.agg (cells4 (mdBlock (mdWord l) v)).toArray) ∧ Below w.heap.size w w' := by
  have HR := Lib.hid hr
  have HV := Lib.hid hv
  have hx := mdWord_ok l
  have HX := Lib.hid hx
  have KS := Lib.hid rks_any
  clear hr hv hx
  go_enter Tryd.func52, Tryd.ntmps52
  go_wp2_with fail
  refine (KS.out _).mono ?_
  rintro e w1 ⟨rfl, hk1, hB1⟩
  have hsz := hB1.size
  simp at hsz
  obtain ⟨W0, hW0⟩ : ∃ W0, W0 = ((w.alloc (.cells #[.int .u32 v.a, .int .u32 v.b, .int .u32 v.c, .int .u32 v.d] 95)).alloc (.cells #[.int .u32 0, .int .u32 0, .int .u32 0, .int .u32 0] 95)) := ⟨_, rfl⟩
  rw [← hW0] at hB1 hk1
  have hbv0 : Blk W0 w.heap.size 95 (cells4 v) := by rw [hW0]; exact (Below.heap_alloc _ _ _ (by simp)).trans (blk_new w _ (cells4 v))
  have hs0 : W0.heap.size = w.heap.size + 2 := by rw [hW0]; simp
  have hbv1 : Blk w1 w.heap.size 95 (cells4 v) := (hB1.block _ (by omega)).trans hbv0
  have BW0 : Below w.heap.size w W0 := by rw [hW0]; exact ((Below.refl _ _).alloc (Nat.le_refl _) _).alloc (by simp) _
  have hbr0 : Blk W0 (w.heap.size + 1) 95 [.int .u32 0, .int .u32 0, .int .u32 0, .int .u32 0] := by
    rw [hW0]
    have h := blk_new (w.alloc (.cells #[.int .u32 v.a, .int .u32 v.b, .int .u32 v.c, .int .u32 v.d] 95)) 95 [.int .u32 0, .int .u32 0, .int .u32 0, .int .u32 0]
    rw [World.size_alloc] at h
    exact h
  have R1 := Lib.hid ((hB1.block _ (by omega)).trans hbr0 : Blk w1 (w.heap.size + 1) 95 [.int .u32 0, .int .u32 0, .int .u32 0, .int .u32 0])
  clear hbr0
  have g0 : w1.cell? ⟨w.heap.size, 0, none⟩ = some (.int .u32 v.a) := hbv1.cell 0
  have g1 : w1.cell? ⟨w.heap.size, 1, none⟩ = some (.int .u32 v.b) := hbv1.cell 1
  have g2 : w1.cell? ⟨w.heap.size, 2, none⟩ = some (.int .u32 v.c) := hbv1.cell 2
  have g3 : w1.cell? ⟨w.heap.size, 3, none⟩ = some (.int .u32 v.d) := hbv1.cell 3
  obtain ⟨kb, hkb⟩ : ∃ kb, kb = W0.heap.size := ⟨_, rfl⟩
  rw [hW0] at hs0
  have hkb2 : kb = w.heap.size + 2 := by rw [hkb, hW0]; simp
  have B1 := Lib.hid (BW0.trans (hB1.mono BW0.size))
  rw [← hkb] at hk1
  have K1 := Lib.hid hk1
  have V1 := Lib.hid hbv1
  have SZ := Lib.hid hsz
  have KB := Lib.hid hkb2
  have hks : (w.heap.size + 1 + 1 : Nat) = kb := by omega
  clear hB1 hbv0 hbv1 BW0 hk1 hsz hkb2 hs0 hkb hW0
  have hnb := (blk_new w1 95 (cells4 v))
  have N0 := Lib.hid hnb
  have BN := Lib.hid ((Below.refl w1.heap.size w1).alloc (Nat.le_refl _) (.cells #[.int .u32 v.a, .int .u32 v.b, .int .u32 v.c, .int .u32 v.d] 95))
  obtain ⟨V, hV⟩ : ∃ V, V = w1.heap.size := ⟨_, rfl⟩
  have HV1 := Lib.hid hV
  clear hnb
  go_wp2
  rw [← hV]
  clear hV g0 g1 g2 g3
  go_loopw [7] (fun vi wr => ∃ (i : Nat) (A B C D : Int), vi = .int .i64 i ∧ i ≤ 64 ∧ Hid (mdSteps (mdWord l) i v = ⟨A, B, C, D⟩) ∧ Blk wr V 95 [.int .u32 A, .int .u32 B, .int .u32 C, .int .u32 D] ∧ Blk wr kb 93 ksCells ∧ Blk wr w.heap.size 95 (cells4 v) ∧ Below w.heap.size w wr ∧ Blk wr (w.heap.size + 1) 95 [.int .u32 0, .int .u32 0, .int .u32 0, .int .u32 0]) (fun vi _ => 64 - (intOf vi).toNat)
  case atStart =>
    refine ⟨0, v.a, v.b, v.c, v.d, rfl, by omega, rfl, ?_, ?_, ?_, ?_, ?_⟩
    · rw [HV1.out]
      exact N0.out
    · exact (BN.out.block kb (by have := SZ.out; have := KB.out; have := K1.out.lt; omega)).trans K1.out
    · exact (BN.out.block _ V1.out.lt).trans V1.out
    · exact B1.out.trans (BN.out.mono B1.out.size)
    · exact (BN.out.block _ (Blk.lt R1.out)).trans R1.out
  case round =>
    rename_i wr
    obtain ⟨i, A, B', C, D, rfl, hi, HS, hbv, hbk, hbw, hbl, hbr⟩ := hrel
    have ok := mdSteps_ok (x := mdWord l) i HV.out
    rw [HS.out] at ok
    obtain ⟨⟨a0, a1⟩, ⟨b0, b1⟩, ⟨c0, c1⟩, ⟨f0, f1⟩⟩ := ok
    dsimp only at a0 a1 b0 b1 c0 c1 f0 f1
    have e0 : wr.cell? ⟨V, 0, none⟩ = some (.int .u32 A) := hbv.cell 0
    have e1 : wr.cell? ⟨V, 1, none⟩ = some (.int .u32 B') := hbv.cell 1
    have e2 : wr.cell? ⟨V, 2, none⟩ = some (.int .u32 C) := hbv.cell 2
    have e3 : wr.cell? ⟨V, 3, none⟩ = some (.int .u32 D) := hbv.cell 3
    have BV := Lib.hid hbv
    have BKS := Lib.hid hbk
    have BWD := Lib.hid hbw
    have BL := Lib.hid hbl
    have BR := Lib.hid hbr
    clear hbv hbk hbw hbl hbr
    rcases (show i < 16 ∨ (16 ≤ i ∧ i < 32) ∨ (32 ≤ i ∧ i < 48) ∨ (48 ≤ i ∧ i < 64) ∨ i = 64 by omega) with h | ⟨h, h'⟩ | ⟨h, h'⟩ | ⟨h, h'⟩ | rfl
    · have q1 : (i : Int) / 16 = 0 := by omega
      have q64 : (i : Int) < 64 := by omega
      have q0 : (0 : Int) ≤ (i : Int) := by omega
      have hG : i = mdG 0 i % 16 := by show i = i % 16; omega
      have kk : wr.cell? ⟨kb, i, none⟩ = some (.int .u32 (mdK.getD i 0)) := (BKS.out.cell i).trans (ks_at i (by omega))
      have g16 : (i : Int) < 16 := by omega
      have g0 : (0 : Int) ≤ (i : Int) := by omega
      have gs1 : 4 * (i : Int) + 4 ≤ (cap : Int) := by omega
      have gs2 : 0 ≤ 4 * (i : Int) := by omega
      have gs3 : ¬ cap = 4 * i := by omega
      have gw1 : IntKind.i64.wrap (4 * (i : Int)) = 4 * (i : Int) := by rw [IntKind.wrap_i64]; omega
      have gw2 : IntKind.i64.wrap (4 * (i : Int) + 4) = 4 * (i : Int) + 4 := by rw [IntKind.wrap_i64]; omega
      have gn1 : (4 * (i : Int)).toNat = 4 * i := by omega
      have gn2 : (4 * (i : Int) + 4).toNat = 4 * i + 4 := by omega
      have WD := Lib.hid (fun a => rword_q b off cap B i a l wr (HR.out.below (below_mono0 BL.out hB)) hc (by omega))
      obtain ⟨F, hF⟩ : ∃ F, F = mdF 0 B' C D := ⟨_, rfl⟩
      have hF2 : bits .or .u32 (bits .and .u32 B' C) (bits .and .u32 (bits .xor .u32 4294967295 B') D) = F := hF.symm
      obtain ⟨T, hT⟩ : ∃ T, T = mdT (mdWord l) i ⟨A, B', C, D⟩ := ⟨_, rfl⟩
      obtain ⟨P1, hP1⟩ : ∃ P1, P1 = (A + F) % 4294967296 := ⟨_, rfl⟩
      obtain ⟨P2, hP2⟩ : ∃ P2, P2 = (P1 + mdK.getD i 0) % 4294967296 := ⟨_, rfl⟩
      have hTT : T = (P2 + mdWord l i) % 4294967296 := by
        rw [hT, hP2, hP1, hF]
        unfold mdT
        dsimp only
        rw [show i / 16 = 0 by omega, ← hG]
      have w1' : IntKind.u32.wrap (A + F) = P1 := by rw [IntKind.wrap_u32', hP1]
      have w2' : IntKind.u32.wrap (P1 + mdK.getD i 0) = P2 := by rw [IntKind.wrap_u32', hP2]
      have w3' : IntKind.u32.wrap (P2 + mdWord l i) = T := by rw [IntKind.wrap_u32', hTT]
      have T0 : 0 ≤ T ∧ T ≤ 4294967295 := by omega
      have NX : Hid (mdSteps (mdWord l) (i + 1) v = ⟨D, (B' + mdRot T (mdTurn i)) % 4294967296, B', C⟩) := by
        show mdStep (mdWord l) i (mdSteps (mdWord l) i v) = _
        rw [HS.out]
        unfold mdStep
        rw [hT]
      have TR := Lib.hid (fun W => rturns_any i W (by omega))
      have hsn : mdTurn i < 32 := (show ∀ i, i < 64 → mdTurn i < 32 by decide) i (by omega)
      have hrv : bits .or .u32 (T * 2 ^ mdTurn i % 4294967296) (T / 2 ^ (32 - mdTurn i)) = mdRot T (mdTurn i) := rfl
      generalize mdTurn i = sn at *
      have sI : (sn : Int) ≤ 32 := by omega
      have sN : sn ≤ 32 := by omega
      generalize mdRot T sn = RV at *
      generalize mdK.getD i 0 = kv at *
      generalize mdWord l i = xv at *
      clear hP1 hP2 hTT hF hT hG
      go_wp2
      go_quiet ((go_at_call 66; exact WD.out _))
      go_wp2_with fail
      refine (TR.out _).mono ?_
      rintro e w9 ⟨rfl, hB9⟩
      have BV9 := (hB9.block V BV.out.lt).trans BV.out
      have e0 : w9.cell? ⟨V, 0, none⟩ = some (.int .u32 A) := Blk.cell BV9 0
      have e1 : w9.cell? ⟨V, 1, none⟩ = some (.int .u32 B') := Blk.cell BV9 1
      have e2 : w9.cell? ⟨V, 2, none⟩ = some (.int .u32 C) := Blk.cell BV9 2
      have e3 : w9.cell? ⟨V, 3, none⟩ = some (.int .u32 D) := Blk.cell BV9 3
      have fz0 : w9.frozen? ⟨V, 0, none⟩ = false := Blk.frozen BV9 0
      have fz1 : w9.frozen? ⟨V, 1, none⟩ = false := Blk.frozen BV9 1
      have fz2 : w9.frozen? ⟨V, 2, none⟩ = false := Blk.frozen BV9 2
      have fz3 : w9.frozen? ⟨V, 3, none⟩ = false := Blk.frozen BV9 3
      have B9 := Lib.hid hB9
      have BQ := Lib.hid BV9
      clear hB9 BV9
      go_wp2
      go_roundw
      case rel =>
        obtain ⟨H1, H2⟩ := four_set BQ.out (.int .u32 D) (.int .u32 ((B' + RV) % 4294967296)) (.int .u32 B') (.int .u32 C)
        have hV := HV1.out
        have hK := K1.out.lt
        have hW := V1.out.lt
        have hR := (Blk.lt R1.out)
        have bk : ∀ (W' : World), w9.grownBy W' (some V) → ∀ (j t : Nat) (cs : List Value), j < V → Blk wr j t cs → Blk W' j t cs := fun W' hG j t cs hj hb => (hG.block j (Nat.lt_of_lt_of_le (Blk.lt hb) B9.out.size) (by intro e; injection e with e; omega)).trans ((B9.out.block j (Blk.lt hb)).trans hb)
        have x1 := bk _ H2 _ _ _ (by omega) BKS.out
        have x2 := bk _ H2 _ _ _ (by omega) BWD.out
        have x3 := bk _ H2 _ _ _ (by omega) BR.out
        have x4 := ((below_drewN BL.out _).trans (B9.out.mono BL.out.size)).grown H2 (Nat.le_trans BL.out.size B9.out.size) (fun j hj => by injection hj with hj; omega)
        exact ⟨i + 1, D, (B' + RV) % 4294967296, B', C, by go_num, by omega, NX, H1, x1, x2, x4, x3⟩
      case measure => simp [intOf]; omega
    · have q1 : (i : Int) / 16 = 1 := by omega
      have q64 : (i : Int) < 64 := by omega
      have q0 : (0 : Int) ≤ (i : Int) := by omega
      obtain ⟨G, hG⟩ : ∃ G, G = mdG 1 i % 16 := ⟨_, rfl⟩
      have rm : (5 * (i : Int) + 1) % 16 = (G : Int) := by rw [hG]; show _ = (((5 * i + 1) % 16 : Nat) : Int); omega
      have kk : wr.cell? ⟨kb, i, none⟩ = some (.int .u32 (mdK.getD i 0)) := (BKS.out.cell i).trans (ks_at i (by omega))
      have g16 : (G : Int) < 16 := by omega
      have g0 : (0 : Int) ≤ (G : Int) := by omega
      have gs1 : 4 * (G : Int) + 4 ≤ (cap : Int) := by omega
      have gs2 : 0 ≤ 4 * (G : Int) := by omega
      have gs3 : ¬ cap = 4 * G := by omega
      have gw1 : IntKind.i64.wrap (4 * (G : Int)) = 4 * (G : Int) := by rw [IntKind.wrap_i64]; omega
      have gw2 : IntKind.i64.wrap (4 * (G : Int) + 4) = 4 * (G : Int) + 4 := by rw [IntKind.wrap_i64]; omega
      have gn1 : (4 * (G : Int)).toNat = 4 * G := by omega
      have gn2 : (4 * (G : Int) + 4).toNat = 4 * G + 4 := by omega
      have WD := Lib.hid (fun a => rword_q b off cap B G a l wr (HR.out.below (below_mono0 BL.out hB)) hc (by omega))
      obtain ⟨F, hF⟩ : ∃ F, F = mdF 1 B' C D := ⟨_, rfl⟩
      have hF2 : bits .or .u32 (bits .and .u32 D B') (bits .and .u32 (bits .xor .u32 4294967295 D) C) = F := hF.symm
      obtain ⟨T, hT⟩ : ∃ T, T = mdT (mdWord l) i ⟨A, B', C, D⟩ := ⟨_, rfl⟩
      obtain ⟨P1, hP1⟩ : ∃ P1, P1 = (A + F) % 4294967296 := ⟨_, rfl⟩
      obtain ⟨P2, hP2⟩ : ∃ P2, P2 = (P1 + mdK.getD i 0) % 4294967296 := ⟨_, rfl⟩
      have hTT : T = (P2 + mdWord l G) % 4294967296 := by
        rw [hT, hP2, hP1, hF]
        unfold mdT
        dsimp only
        rw [show i / 16 = 1 by omega, ← hG]
      have w1' : IntKind.u32.wrap (A + F) = P1 := by rw [IntKind.wrap_u32', hP1]
      have w2' : IntKind.u32.wrap (P1 + mdK.getD i 0) = P2 := by rw [IntKind.wrap_u32', hP2]
      have w3' : IntKind.u32.wrap (P2 + mdWord l G) = T := by rw [IntKind.wrap_u32', hTT]
      have T0 : 0 ≤ T ∧ T ≤ 4294967295 := by omega
      have NX : Hid (mdSteps (mdWord l) (i + 1) v = ⟨D, (B' + mdRot T (mdTurn i)) % 4294967296, B', C⟩) := by
        show mdStep (mdWord l) i (mdSteps (mdWord l) i v) = _
        rw [HS.out]
        unfold mdStep
        rw [hT]
      have TR := Lib.hid (fun W => rturns_any i W (by omega))
      have hsn : mdTurn i < 32 := (show ∀ i, i < 64 → mdTurn i < 32 by decide) i (by omega)
      have hrv : bits .or .u32 (T * 2 ^ mdTurn i % 4294967296) (T / 2 ^ (32 - mdTurn i)) = mdRot T (mdTurn i) := rfl
      generalize mdTurn i = sn at *
      have sI : (sn : Int) ≤ 32 := by omega
      have sN : sn ≤ 32 := by omega
      generalize mdRot T sn = RV at *
      generalize mdK.getD i 0 = kv at *
      generalize mdWord l G = xv at *
      clear hP1 hP2 hTT hF hT hG
      go_wp2
      go_quiet ((go_at_call 66; exact WD.out _))
      go_wp2_with fail
      refine (TR.out _).mono ?_
      rintro e w9 ⟨rfl, hB9⟩
      have BV9 := (hB9.block V BV.out.lt).trans BV.out
      have e0 : w9.cell? ⟨V, 0, none⟩ = some (.int .u32 A) := Blk.cell BV9 0
      have e1 : w9.cell? ⟨V, 1, none⟩ = some (.int .u32 B') := Blk.cell BV9 1
      have e2 : w9.cell? ⟨V, 2, none⟩ = some (.int .u32 C) := Blk.cell BV9 2
      have e3 : w9.cell? ⟨V, 3, none⟩ = some (.int .u32 D) := Blk.cell BV9 3
      have fz0 : w9.frozen? ⟨V, 0, none⟩ = false := Blk.frozen BV9 0
      have fz1 : w9.frozen? ⟨V, 1, none⟩ = false := Blk.frozen BV9 1
      have fz2 : w9.frozen? ⟨V, 2, none⟩ = false := Blk.frozen BV9 2
      have fz3 : w9.frozen? ⟨V, 3, none⟩ = false := Blk.frozen BV9 3
      have B9 := Lib.hid hB9
      have BQ := Lib.hid BV9
      clear hB9 BV9
      go_wp2
      go_roundw
      case rel =>
        obtain ⟨H1, H2⟩ := four_set BQ.out (.int .u32 D) (.int .u32 ((B' + RV) % 4294967296)) (.int .u32 B') (.int .u32 C)
        have hV := HV1.out
        have hK := K1.out.lt
        have hW := V1.out.lt
        have hR := (Blk.lt R1.out)
        have bk : ∀ (W' : World), w9.grownBy W' (some V) → ∀ (j t : Nat) (cs : List Value), j < V → Blk wr j t cs → Blk W' j t cs := fun W' hG j t cs hj hb => (hG.block j (Nat.lt_of_lt_of_le (Blk.lt hb) B9.out.size) (by intro e; injection e with e; omega)).trans ((B9.out.block j (Blk.lt hb)).trans hb)
        have x1 := bk _ H2 _ _ _ (by omega) BKS.out
        have x2 := bk _ H2 _ _ _ (by omega) BWD.out
        have x3 := bk _ H2 _ _ _ (by omega) BR.out
        have x4 := ((below_drewN BL.out _).trans (B9.out.mono BL.out.size)).grown H2 (Nat.le_trans BL.out.size B9.out.size) (fun j hj => by injection hj with hj; omega)
        exact ⟨i + 1, D, (B' + RV) % 4294967296, B', C, by go_num, by omega, NX, H1, x1, x2, x4, x3⟩
      case measure => simp [intOf]; omega
    · have q1 : (i : Int) / 16 = 2 := by omega
      have q64 : (i : Int) < 64 := by omega
      have q0 : (0 : Int) ≤ (i : Int) := by omega
      obtain ⟨G, hG⟩ : ∃ G, G = mdG 2 i % 16 := ⟨_, rfl⟩
      have rm : (3 * (i : Int) + 5) % 16 = (G : Int) := by rw [hG]; show _ = (((3 * i + 5) % 16 : Nat) : Int); omega
      have kk : wr.cell? ⟨kb, i, none⟩ = some (.int .u32 (mdK.getD i 0)) := (BKS.out.cell i).trans (ks_at i (by omega))
      have g16 : (G : Int) < 16 := by omega
      have g0 : (0 : Int) ≤ (G : Int) := by omega
      have gs1 : 4 * (G : Int) + 4 ≤ (cap : Int) := by omega
      have gs2 : 0 ≤ 4 * (G : Int) := by omega
      have gs3 : ¬ cap = 4 * G := by omega
      have gw1 : IntKind.i64.wrap (4 * (G : Int)) = 4 * (G : Int) := by rw [IntKind.wrap_i64]; omega
      have gw2 : IntKind.i64.wrap (4 * (G : Int) + 4) = 4 * (G : Int) + 4 := by rw [IntKind.wrap_i64]; omega
      have gn1 : (4 * (G : Int)).toNat = 4 * G := by omega
      have gn2 : (4 * (G : Int) + 4).toNat = 4 * G + 4 := by omega
      have WD := Lib.hid (fun a => rword_q b off cap B G a l wr (HR.out.below (below_mono0 BL.out hB)) hc (by omega))
      obtain ⟨F, hF⟩ : ∃ F, F = mdF 2 B' C D := ⟨_, rfl⟩
      have hF2 : bits .xor .u32 (bits .xor .u32 B' C) D = F := hF.symm
      obtain ⟨T, hT⟩ : ∃ T, T = mdT (mdWord l) i ⟨A, B', C, D⟩ := ⟨_, rfl⟩
      obtain ⟨P1, hP1⟩ : ∃ P1, P1 = (A + F) % 4294967296 := ⟨_, rfl⟩
      obtain ⟨P2, hP2⟩ : ∃ P2, P2 = (P1 + mdK.getD i 0) % 4294967296 := ⟨_, rfl⟩
      have hTT : T = (P2 + mdWord l G) % 4294967296 := by
        rw [hT, hP2, hP1, hF]
        unfold mdT
        dsimp only
        rw [show i / 16 = 2 by omega, ← hG]
      have w1' : IntKind.u32.wrap (A + F) = P1 := by rw [IntKind.wrap_u32', hP1]
      have w2' : IntKind.u32.wrap (P1 + mdK.getD i 0) = P2 := by rw [IntKind.wrap_u32', hP2]
      have w3' : IntKind.u32.wrap (P2 + mdWord l G) = T := by rw [IntKind.wrap_u32', hTT]
      have T0 : 0 ≤ T ∧ T ≤ 4294967295 := by omega
      have NX : Hid (mdSteps (mdWord l) (i + 1) v = ⟨D, (B' + mdRot T (mdTurn i)) % 4294967296, B', C⟩) := by
        show mdStep (mdWord l) i (mdSteps (mdWord l) i v) = _
        rw [HS.out]
        unfold mdStep
        rw [hT]
      have TR := Lib.hid (fun W => rturns_any i W (by omega))
      have hsn : mdTurn i < 32 := (show ∀ i, i < 64 → mdTurn i < 32 by decide) i (by omega)
      have hrv : bits .or .u32 (T * 2 ^ mdTurn i % 4294967296) (T / 2 ^ (32 - mdTurn i)) = mdRot T (mdTurn i) := rfl
      generalize mdTurn i = sn at *
      have sI : (sn : Int) ≤ 32 := by omega
      have sN : sn ≤ 32 := by omega
      generalize mdRot T sn = RV at *
      generalize mdK.getD i 0 = kv at *
      generalize mdWord l G = xv at *
      clear hP1 hP2 hTT hF hT hG
      go_wp2
      go_quiet ((go_at_call 66; exact WD.out _))
      go_wp2_with fail
      refine (TR.out _).mono ?_
      rintro e w9 ⟨rfl, hB9⟩
      have BV9 := (hB9.block V BV.out.lt).trans BV.out
      have e0 : w9.cell? ⟨V, 0, none⟩ = some (.int .u32 A) := Blk.cell BV9 0
      have e1 : w9.cell? ⟨V, 1, none⟩ = some (.int .u32 B') := Blk.cell BV9 1
      have e2 : w9.cell? ⟨V, 2, none⟩ = some (.int .u32 C) := Blk.cell BV9 2
      have e3 : w9.cell? ⟨V, 3, none⟩ = some (.int .u32 D) := Blk.cell BV9 3
      have fz0 : w9.frozen? ⟨V, 0, none⟩ = false := Blk.frozen BV9 0
      have fz1 : w9.frozen? ⟨V, 1, none⟩ = false := Blk.frozen BV9 1
      have fz2 : w9.frozen? ⟨V, 2, none⟩ = false := Blk.frozen BV9 2
      have fz3 : w9.frozen? ⟨V, 3, none⟩ = false := Blk.frozen BV9 3
      have B9 := Lib.hid hB9
      have BQ := Lib.hid BV9
      clear hB9 BV9
      go_wp2
      go_roundw
      case rel =>
        obtain ⟨H1, H2⟩ := four_set BQ.out (.int .u32 D) (.int .u32 ((B' + RV) % 4294967296)) (.int .u32 B') (.int .u32 C)
        have hV := HV1.out
        have hK := K1.out.lt
        have hW := V1.out.lt
        have hR := (Blk.lt R1.out)
        have bk : ∀ (W' : World), w9.grownBy W' (some V) → ∀ (j t : Nat) (cs : List Value), j < V → Blk wr j t cs → Blk W' j t cs := fun W' hG j t cs hj hb => (hG.block j (Nat.lt_of_lt_of_le (Blk.lt hb) B9.out.size) (by intro e; injection e with e; omega)).trans ((B9.out.block j (Blk.lt hb)).trans hb)
        have x1 := bk _ H2 _ _ _ (by omega) BKS.out
        have x2 := bk _ H2 _ _ _ (by omega) BWD.out
        have x3 := bk _ H2 _ _ _ (by omega) BR.out
        have x4 := ((below_drewN BL.out _).trans (B9.out.mono BL.out.size)).grown H2 (Nat.le_trans BL.out.size B9.out.size) (fun j hj => by injection hj with hj; omega)
        exact ⟨i + 1, D, (B' + RV) % 4294967296, B', C, by go_num, by omega, NX, H1, x1, x2, x4, x3⟩
      case measure => simp [intOf]; omega
    · have q1 : (i : Int) / 16 = 3 := by omega
      have q64 : (i : Int) < 64 := by omega
      have q0 : (0 : Int) ≤ (i : Int) := by omega
      obtain ⟨G, hG⟩ : ∃ G, G = mdG 3 i % 16 := ⟨_, rfl⟩
      have rm : (7 * (i : Int)) % 16 = (G : Int) := by rw [hG]; show _ = (((7 * i) % 16 : Nat) : Int); omega
      have kk : wr.cell? ⟨kb, i, none⟩ = some (.int .u32 (mdK.getD i 0)) := (BKS.out.cell i).trans (ks_at i (by omega))
      have g16 : (G : Int) < 16 := by omega
      have g0 : (0 : Int) ≤ (G : Int) := by omega
      have gs1 : 4 * (G : Int) + 4 ≤ (cap : Int) := by omega
      have gs2 : 0 ≤ 4 * (G : Int) := by omega
      have gs3 : ¬ cap = 4 * G := by omega
      have gw1 : IntKind.i64.wrap (4 * (G : Int)) = 4 * (G : Int) := by rw [IntKind.wrap_i64]; omega
      have gw2 : IntKind.i64.wrap (4 * (G : Int) + 4) = 4 * (G : Int) + 4 := by rw [IntKind.wrap_i64]; omega
      have gn1 : (4 * (G : Int)).toNat = 4 * G := by omega
      have gn2 : (4 * (G : Int) + 4).toNat = 4 * G + 4 := by omega
      have WD := Lib.hid (fun a => rword_q b off cap B G a l wr (HR.out.below (below_mono0 BL.out hB)) hc (by omega))
      obtain ⟨F, hF⟩ : ∃ F, F = mdF 3 B' C D := ⟨_, rfl⟩
      have hF2 : bits .xor .u32 C (bits .or .u32 B' (bits .xor .u32 4294967295 D)) = F := hF.symm
      obtain ⟨T, hT⟩ : ∃ T, T = mdT (mdWord l) i ⟨A, B', C, D⟩ := ⟨_, rfl⟩
      obtain ⟨P1, hP1⟩ : ∃ P1, P1 = (A + F) % 4294967296 := ⟨_, rfl⟩
      obtain ⟨P2, hP2⟩ : ∃ P2, P2 = (P1 + mdK.getD i 0) % 4294967296 := ⟨_, rfl⟩
      have hTT : T = (P2 + mdWord l G) % 4294967296 := by
        rw [hT, hP2, hP1, hF]
        unfold mdT
        dsimp only
        rw [show i / 16 = 3 by omega, ← hG]
      have w1' : IntKind.u32.wrap (A + F) = P1 := by rw [IntKind.wrap_u32', hP1]
      have w2' : IntKind.u32.wrap (P1 + mdK.getD i 0) = P2 := by rw [IntKind.wrap_u32', hP2]
      have w3' : IntKind.u32.wrap (P2 + mdWord l G) = T := by rw [IntKind.wrap_u32', hTT]
      have T0 : 0 ≤ T ∧ T ≤ 4294967295 := by omega
      have NX : Hid (mdSteps (mdWord l) (i + 1) v = ⟨D, (B' + mdRot T (mdTurn i)) % 4294967296, B', C⟩) := by
        show mdStep (mdWord l) i (mdSteps (mdWord l) i v) = _
        rw [HS.out]
        unfold mdStep
        rw [hT]
      have TR := Lib.hid (fun W => rturns_any i W (by omega))
      have hsn : mdTurn i < 32 := (show ∀ i, i < 64 → mdTurn i < 32 by decide) i (by omega)
      have hrv : bits .or .u32 (T * 2 ^ mdTurn i % 4294967296) (T / 2 ^ (32 - mdTurn i)) = mdRot T (mdTurn i) := rfl
      generalize mdTurn i = sn at *
      have sI : (sn : Int) ≤ 32 := by omega
      have sN : sn ≤ 32 := by omega
      generalize mdRot T sn = RV at *
      generalize mdK.getD i 0 = kv at *
      generalize mdWord l G = xv at *
      clear hP1 hP2 hTT hF hT hG
      go_wp2
      go_quiet ((go_at_call 66; exact WD.out _))
      go_wp2_with fail
      refine (TR.out _).mono ?_
      rintro e w9 ⟨rfl, hB9⟩
      have BV9 := (hB9.block V BV.out.lt).trans BV.out
      have e0 : w9.cell? ⟨V, 0, none⟩ = some (.int .u32 A) := Blk.cell BV9 0
      have e1 : w9.cell? ⟨V, 1, none⟩ = some (.int .u32 B') := Blk.cell BV9 1
      have e2 : w9.cell? ⟨V, 2, none⟩ = some (.int .u32 C) := Blk.cell BV9 2
      have e3 : w9.cell? ⟨V, 3, none⟩ = some (.int .u32 D) := Blk.cell BV9 3
      have fz0 : w9.frozen? ⟨V, 0, none⟩ = false := Blk.frozen BV9 0
      have fz1 : w9.frozen? ⟨V, 1, none⟩ = false := Blk.frozen BV9 1
      have fz2 : w9.frozen? ⟨V, 2, none⟩ = false := Blk.frozen BV9 2
      have fz3 : w9.frozen? ⟨V, 3, none⟩ = false := Blk.frozen BV9 3
      have B9 := Lib.hid hB9
      have BQ := Lib.hid BV9
      clear hB9 BV9
      go_wp2
      go_roundw
      case rel =>
        obtain ⟨H1, H2⟩ := four_set BQ.out (.int .u32 D) (.int .u32 ((B' + RV) % 4294967296)) (.int .u32 B') (.int .u32 C)
        have hV := HV1.out
        have hK := K1.out.lt
        have hW := V1.out.lt
        have hR := (Blk.lt R1.out)
        have bk : ∀ (W' : World), w9.grownBy W' (some V) → ∀ (j t : Nat) (cs : List Value), j < V → Blk wr j t cs → Blk W' j t cs := fun W' hG j t cs hj hb => (hG.block j (Nat.lt_of_lt_of_le (Blk.lt hb) B9.out.size) (by intro e; injection e with e; omega)).trans ((B9.out.block j (Blk.lt hb)).trans hb)
        have x1 := bk _ H2 _ _ _ (by omega) BKS.out
        have x2 := bk _ H2 _ _ _ (by omega) BWD.out
        have x3 := bk _ H2 _ _ _ (by omega) BR.out
        have x4 := ((below_drewN BL.out _).trans (B9.out.mono BL.out.size)).grown H2 (Nat.le_trans BL.out.size B9.out.size) (fun j hj => by injection hj with hj; omega)
        exact ⟨i + 1, D, (B' + RV) % 4294967296, B', C, by go_num, by omega, NX, H1, x1, x2, x4, x3⟩
      case measure => simp [intOf]; omega
    · obtain ⟨r0, hr0⟩ : ∃ r, r = (v.a + A) % 4294967296 := ⟨_, rfl⟩
      obtain ⟨r1, hr1⟩ : ∃ r, r = (v.b + B') % 4294967296 := ⟨_, rfl⟩
      obtain ⟨r2, hr2⟩ : ∃ r, r = (v.c + C) % 4294967296 := ⟨_, rfl⟩
      obtain ⟨r3, hr3⟩ : ∃ r, r = (v.d + D) % 4294967296 := ⟨_, rfl⟩
      have FIN : Hid (mdBlock (mdWord l) v = ⟨r0, r1, r2, r3⟩) := by
        show _ = _
        unfold mdBlock mdAdd
        rw [HS.out, hr0, hr1, hr2, hr3]
      have s0 := hr0.symm
      have s1 := hr1.symm
      have s2 := hr2.symm
      have s3 := hr3.symm
      have p0 : wr.cell? ⟨w.heap.size, 0, none⟩ = some (.int .u32 v.a) := BWD.out.cell 0
      have p1 : wr.cell? ⟨w.heap.size, 1, none⟩ = some (.int .u32 v.b) := BWD.out.cell 1
      have p2 : wr.cell? ⟨w.heap.size, 2, none⟩ = some (.int .u32 v.c) := BWD.out.cell 2
      have p3 : wr.cell? ⟨w.heap.size, 3, none⟩ = some (.int .u32 v.d) := BWD.out.cell 3
      have o0 : wr.cell? ⟨w.heap.size + 1, 0, none⟩ = some (.int .u32 0) := BR.out.cell 0
      have o1 : wr.cell? ⟨w.heap.size + 1, 1, none⟩ = some (.int .u32 0) := BR.out.cell 1
      have o2 : wr.cell? ⟨w.heap.size + 1, 2, none⟩ = some (.int .u32 0) := BR.out.cell 2
      have o3 : wr.cell? ⟨w.heap.size + 1, 3, none⟩ = some (.int .u32 0) := BR.out.cell 3
      have z0 := BR.out.frozen 0
      have z1 := BR.out.frozen 1
      have z2 := BR.out.frozen 2
      have z3 := BR.out.frozen 3
      clear hr0 hr1 hr2 hr3 HS
      obtain ⟨H1, H2⟩ := four_set BR.out (.int .u32 r0) (.int .u32 r1) (.int .u32 r2) (.int .u32 r3)
      have HH1 := Lib.hid H1
      have HH2 := Lib.hid H2
      clear H1 H2
      go_wp2
      have t0 : ((((wr.setCell ⟨w.heap.size + 1, 0, none⟩ (.int .u32 r0)).setCell ⟨w.heap.size + 1, 1, none⟩ (.int .u32 r1)).setCell ⟨w.heap.size + 1, 2, none⟩ (.int .u32 r2)).setCell ⟨w.heap.size + 1, 3, none⟩ (.int .u32 r3)).cell? ⟨w.heap.size + 1, 0, none⟩ = some (.int .u32 r0) := Blk.cell HH1.out 0
      have t1 : ((((wr.setCell ⟨w.heap.size + 1, 0, none⟩ (.int .u32 r0)).setCell ⟨w.heap.size + 1, 1, none⟩ (.int .u32 r1)).setCell ⟨w.heap.size + 1, 2, none⟩ (.int .u32 r2)).setCell ⟨w.heap.size + 1, 3, none⟩ (.int .u32 r3)).cell? ⟨w.heap.size + 1, 1, none⟩ = some (.int .u32 r1) := Blk.cell HH1.out 1
      have t2 : ((((wr.setCell ⟨w.heap.size + 1, 0, none⟩ (.int .u32 r0)).setCell ⟨w.heap.size + 1, 1, none⟩ (.int .u32 r1)).setCell ⟨w.heap.size + 1, 2, none⟩ (.int .u32 r2)).setCell ⟨w.heap.size + 1, 3, none⟩ (.int .u32 r3)).cell? ⟨w.heap.size + 1, 2, none⟩ = some (.int .u32 r2) := Blk.cell HH1.out 2
      have t3 : ((((wr.setCell ⟨w.heap.size + 1, 0, none⟩ (.int .u32 r0)).setCell ⟨w.heap.size + 1, 1, none⟩ (.int .u32 r1)).setCell ⟨w.heap.size + 1, 2, none⟩ (.int .u32 r2)).setCell ⟨w.heap.size + 1, 3, none⟩ (.int .u32 r3)).cell? ⟨w.heap.size + 1, 3, none⟩ = some (.int .u32 r3) := Blk.cell HH1.out 3
      rw [FIN.out]
      exact bodyPost_ret (v := .agg (cells4 ⟨r0, r1, r2, r3⟩).toArray) (by simp [results, Tryd.results52, go_sem, cells4, t0, t1, t2, t3]) rfl ⟨rfl, BL.out.grown HH2.out BL.out.size (fun j hj => by injection hj with hj; omega)⟩
end Go.Proofs.YtdijgmijnoiliaaDoor
