/-
  pap's peer and the reference's: Send (written by gen_pasend.py).
-/
import Derived.Test.YtglboagjmbjehaaPaPeer
import Derived.Deep.RegionHeld3
namespace Go.Proofs.Ytglboagjmbjehaa
open Go.RowKit Go.Shelf
set_option maxRecDepth 100000
set_option maxHeartbeats 4000000
set_option linter.unusedSimpArgs false
set_option linter.unusedVariables false

def Pr.sends (p : Pr) : Pr × Bool × Int :=
  if p.state ≠ 0 then (p, false, 9) else if p.tries ≤ p.sent then ({ p with state := 3 }, false, 0) else ({ p with sent := p.sent + 1, last := (p.last + 1) % 256 }, true, 0)
/-- a peer that can be -/
structure PrOk (p : Pr) : Prop where
  name : p.name.size ≤ 255
  word : p.word.size ≤ 255
  tries : p.tries ≤ 255
  sent0 : 0 ≤ p.sent
  sent1 : p.sent ≤ 255
  last0 : 0 ≤ p.last
  last1 : p.last ≤ 255
def PsR (W : World) (g t : Nat) (p : Pr) (e : Ending) (W' : World) : Prop :=
  W.grownBy W' (some g) ∧ Blk W' g t p.sends.1.cells ∧
  ((p.sends.2.1 = false ∧ e = .returned (.tuple #[.agg #[.int .i64 0, .int .i64 0, .slice none 0 0], .bool false, .int .i64 p.sends.2.2])) ∨
   (p.sends.2.1 = true ∧ ∃ D k d, e = .returned (.tuple #[.agg #[.int .i64 1, .int .i64 p.sends.1.last, .slice D k d], .bool true, .int .i64 0]) ∧ Own W' W.heap.size (.slice D k d) (jnL [p.name, p.word])))
theorem ppeerSend_any (g : Nat) (p : Pr) (w : World) (h : Blk w g 81 p.cells) (ok : PrOk p) :
    Calls Try.prog 21 #[.pointer (some ⟨g, 0, none⟩)] w (PsR w g 81 p) := by
  have hg := Blk.lt h
  obtain ⟨V, hV⟩ : ∃ V, w.alloc (.cells #[.int .i64 0, .int .i64 0, .slice none 0 0] 38) = V := ⟨_, rfl⟩
  have bV : Below w.heap.size w V := by rw [← hV]; exact (Below.refl _ _).alloc (Nat.le_refl _) _
  have zV : V.heap.size = w.heap.size + 1 := by rw [← hV]; simp
  have h0 : Blk V w.heap.size 38 [.int .i64 0, .int .i64 0, .slice none 0 0] := by rw [← hV]; exact heap_alloc_new w _
  have h1 : Blk V g 81 [.string p.name, .string p.word, .int .i64 p.tries, .int .i64 p.sent, .int .i64 p.last, .int .i64 p.state, .string p.msg] := (bV.block _ hg).trans h
  have x0 := h1.cell 0
  have x1 := h1.cell 1
  have x2 := h1.cell 2
  have x3 := h1.cell 3
  have x4 := h1.cell 4
  have x5 := h1.cell 5
  have f3 := h1.frozen 3
  have f4 := h1.frozen 4
  have f5 := h1.frozen 5
  have r0 := h0.cell 0
  have r1 := h0.cell 1
  have r2 := h0.cell 2
  have e0 := h0.frozen 0
  have e1 := h0.frozen 1
  have e2 := h0.frozen 2
  have lg := Blk.lt h1
  have lr := Blk.lt h0
  have HV := Lib.hid hV
  by_cases hs : p.state = 0
  · by_cases ht : p.tries ≤ p.sent
    · have hq : p.sends = ({ p with state := 3 }, false, 0) := by unfold Pr.sends; rw [if_neg (by rw [hs]; simp), if_pos ht]
      have FIN : Hid (∀ W' n, (V.drewN n).grownBy W' (some g) → Blk W' g 81 [.string p.name, .string p.word, .int .i64 p.tries, .int .i64 p.sent, .int .i64 p.last, .int .i64 3, .string p.msg] → ∀ W2, W'.grownBy W2 (some w.heap.size) → PsR w g 81 p (.returned (.tuple #[.agg #[.int .i64 0, .int .i64 0, .slice none 0 0], .bool false, .int .i64 0])) W2) := by
        show ∀ W' n, _ → _ → ∀ W2, _ → PsR _ _ _ _ _ _
        intro W' n gW bW W2 g2
        have q1 := gtrans' (below_only (below_drewN bV n)) gW
        have z1 := q1.size
        unfold PsR
        rw [hq]
        refine ⟨⟨g2.os.trans q1.os, g2.tape.trans q1.tape, g2.output.trans q1.output, by have := g2.size; omega, fun i hi hne => (g2.block i (by omega) (by intro e; injection e with e; omega)).trans (q1.block i hi hne)⟩, (g2.block _ (Blk.lt bW) (by intro e; injection e with e; omega)).trans bW, .inl ⟨rfl, rfl⟩⟩
      have H0 := Lib.hid h0
      have H1 := Lib.hid h1
      have hgr : g ≠ w.heap.size := by omega
      have hrg : w.heap.size ≠ g := by omega
      clear h h0 h1 bV hV hq ok
      go_enter Try.func21, Try.ntmps21
      go_wp2_with (rw [HV.out])
      go_region
      all_goals
        go_wp2
        have hb1 := Blk.set_ (show Blk (V.drewN 1) g 81 _ from H1.out) 5 (.int .i64 3)
        have hb4 := blk3 (x := .int .i64 0) (y := .int .i64 0) (z := .slice none 0 0) (show Blk ((V.drewN 1).setCell ⟨g, 5, none⟩ (.int .i64 3)) w.heap.size 38 _ from ((gset' (V.drewN 1) g 5 _).block _ lr (by intro e; injection e with e; omega)).trans H0.out)
        have p0 := hb4.cell 0
        have p1 := hb4.cell 1
        have p2 := hb4.cell 2
        exact bodyPost_ret (v := .tuple #[.agg #[.int .i64 0, .int .i64 0, .slice none 0 0], .bool false, .int .i64 0]) (by simp [results, Try.results21, go_sem, *]) rfl (FIN.out _ 1 (gset' _ _ _ _) hb1 _ (gset3 _ _ _ _ _))
    · obtain ⟨nx, hnx⟩ : ∃ nx, (p.last + 1) % 256 = nx := ⟨_, rfl⟩
      have hq : p.sends = ({ p with sent := p.sent + 1, last := nx }, true, 0) := by unfold Pr.sends; rw [if_neg (by rw [hs]; simp), if_neg ht, hnx]
      have o1 := ok.last0
      have o2 := ok.last1
      have o3 := ok.sent0
      have o4 := ok.sent1
      have o5 := ok.name
      have o6 := ok.word
      have w1 : IntKind.i64.wrap (p.sent + 1) = p.sent + 1 := by rw [IntKind.wrap_i64]; omega
      have w2 : IntKind.i64.wrap (p.last + 1) = p.last + 1 := by rw [IntKind.wrap_i64]; omega
      have w3 : (p.last + 1).tmod 256 = nx := by rw [← hnx, Int.tmod_eq_emod_of_nonneg (by omega)]
      have w4 : IntKind.i64.wrap nx = nx := by rw [IntKind.wrap_i64]; omega
      have er0 : reqE nx p.name p.word = 0 := by
        have hi : idB nx = true := by simp [idB]; omega
        unfold reqE
        rw [hi, if_neg (by simp), if_neg (by omega)]
      obtain ⟨V2, hV2⟩ : ∃ V2, ((V.setCell ⟨g, 3, none⟩ (.int .i64 (p.sent + 1))).setCell ⟨g, 4, none⟩ (.int .i64 nx)).drew = V2 := ⟨_, rfl⟩
      have gV2 : V.grownBy V2 (some g) := by rw [← hV2]; exact gtrans' (gtrans' (gset' _ _ _ _) (gset' _ _ _ _)) (below_only (below_drewS (Below.refl _ _) 1))
      have zV2 := gV2.size
      have b2 : Blk V2 g 81 [.string p.name, .string p.word, .int .i64 p.tries, .int .i64 (p.sent + 1), .int .i64 nx, .int .i64 p.state, .string p.msg] := by rw [← hV2]; exact Blk.set_ (Blk.set_ h1 3 _) 4 _
      have d2 : Blk V2 w.heap.size 38 [.int .i64 0, .int .i64 0, .slice none 0 0] := (gV2.block _ lr (by intro e; injection e with e; omega)).trans h0
      have gw2 : w.grownBy V2 (some g) := gtrans' (below_only bV) gV2
      have F0 : ∀ Wb, Below V2.heap.size V2 Wb → Calls Try.prog 35 #[.int .i64 nx, .string p.name, .string p.word] Wb fun e w4 => ∃ D k d, e = .returned (.tuple #[.agg #[.int .i64 1, .int .i64 nx, .slice D k d], .int .i64 0]) ∧ Below Wb.heap.size Wb w4 ∧ w4.cell? ⟨g, 4, none⟩ = some (.int .i64 nx) ∧ w4.cell? ⟨g, 0, none⟩ = some (.string p.name) ∧ w4.cell? ⟨g, 1, none⟩ = some (.string p.word) ∧ Blk w4 w.heap.size 38 [.int .i64 0, .int .i64 0, .slice none 0 0] ∧
          ∀ Wm W' z, V2.heap.size ≤ z → (z < Wb.heap.size ∨ w4.heap.size ≤ z) → w4.grownBy Wm (some z) → Wm.grownBy W' (some w.heap.size) → PsR w g 81 p (.returned (.tuple #[.agg #[.int .i64 1, .int .i64 nx, .slice D k d], .bool true, .int .i64 0])) W' := by
        intro Wb hWb
        have zb := hWb.size
        have hh := request_any nx p.name p.word Wb (by unfold maxLen; omega) (by unfold maxLen; omega)
        rw [er0] at hh
        refine hh.mono ?_
        rintro e w4 ⟨b4, D, k, d, rfl, ho⟩
        have b4' : Below V2.heap.size V2 w4 := hWb.trans (b4.mono hWb.size)
        have z4 := b4'.size
        have g4 : Blk w4 g 81 _ := (b4'.block _ (Blk.lt b2)).trans b2
        refine ⟨D, k, d, rfl, b4, g4.cell 4, g4.cell 0, g4.cell 1, (b4'.block _ (Blk.lt d2)).trans d2, fun Wm W' z hz hz2 gM gW => ?_⟩
        have zM := gM.size
        have zW := gW.size
        have keep : ∀ i, i < V2.heap.size → i ≠ w.heap.size → W'.heap[i]? = V2.heap[i]? := fun i hi hne => (gW.block i (by omega) (by intro e; injection e with e; exact hne e)).trans ((gM.block i (by omega) (by intro e; injection e with e; omega)).trans (b4'.block i hi))
        have hne : ∀ q, (q < Wb.heap.size ∨ w4.heap.size ≤ q) → (Value.slice D k d).ownBlock = none ∨ (Value.slice D k d).ownBlock ≠ some q := by
          intro q hq
          rcases ho.form with ⟨e, _⟩ | ⟨g', cap, e, h2, _⟩
          · rw [e]; exact .inl rfl
          · rw [e]; refine .inr fun e2 => ?_
            simp [Value.ownBlock] at e2; omega
        unfold PsR
        rw [hq]
        refine ⟨⟨gW.os.trans (gM.os.trans (b4'.os.trans gw2.os)), gW.tape.trans (gM.tape.trans (b4'.tape.trans gw2.tape)), gW.output.trans (gM.output.trans (b4'.output.trans gw2.output)), by have := gw2.size; omega, fun i hi hne => (keep i (by have := gw2.size; omega) (by omega)).trans (gw2.block i hi hne)⟩, (keep g (Blk.lt b2) (by omega)).trans b2, .inr ⟨rfl, D, k, d, rfl, ?_⟩⟩
        have h4 := (ho.grown gM (hne z hz2)).grown gW (hne _ (.inl (by omega)))
        refine ⟨h4.1, ?_⟩
        rcases h4.2 with h | ⟨g', cap, cur, e1, e2, e3⟩
        · exact .inl h
        · exact .inr ⟨g', cap, cur, e1, by omega, e3⟩
      have F1 := Lib.hid F0
      have HA1 : Hid (Below V2.heap.size V2 V2.drew) := below_drewS (Below.refl _ _) 1
      have HA2 : Hid (Below V2.heap.size V2 (V2.alloc (.cells #[.int .i64 0, .int .i64 0, .slice none 0 0] 38)).drew) := below_drewS ((Below.refl _ _).alloc (Nat.le_refl _) _) 1
      have N2 : Hid (Blk (V2.alloc (.cells #[.int .i64 0, .int .i64 0, .slice none 0 0] 38)).drew V2.heap.size 38 [.int .i64 0, .int .i64 0, .slice none 0 0]) := heap_alloc_new V2 _
      have y0 : V2.cell? ⟨g, 0, none⟩ = some (.string p.name) := b2.cell 0
      have y1 : V2.cell? ⟨g, 1, none⟩ = some (.string p.word) := b2.cell 1
      have y4 : V2.cell? ⟨g, 4, none⟩ = some (.int .i64 nx) := b2.cell 4
      have yr : V2.cell? ⟨w.heap.size, 0, none⟩ = some (.int .i64 0) := d2.cell 0
      have t0 := World.new_ne V2 _ y4
      have t1 := World.new_ne V2 _ yr
      have hgr : g ≠ w.heap.size := by omega
      have hrg : w.heap.size ≠ g := by omega
      have HV2 := Lib.hid hV2
      clear h h0 h1 bV hV hq ok F0 hnx er0 o1 o2 o3 o4 o5 o6 gV2 gw2 b2 d2 hV2
      go_enter Try.func21, Try.ntmps21
      go_wp2_with (rw [HV.out])
      go_region
      all_goals
        go_upto_region 10 with (fail)
        rw [HV2.out]
        go_region_held3 (fun w' => w'.cell? ⟨g, 4, none⟩ = some (.int .i64 nx) ∧ w'.cell? ⟨g, 0, none⟩ = some (.string p.name) ∧ w'.cell? ⟨g, 1, none⟩ = some (.string p.word)) (go_keep) (first
          | (go_at_call 35; ((with_reducible refine (F1.out _ HA1.out).mono ?_); rintro e w4 ⟨D3, k3, d3, rfl, bb, v4, v0, v1, b4, c9⟩; have p0 := b4.cell 0; have p1 := b4.cell 1; have p2 := b4.cell 2; have q0 := b4.frozen 0; have q1 := b4.frozen 1; have q2 := b4.frozen 2; have z4 := Blk.lt b4; have t5 := World.new_ne w4 _ p0; have t2 := World.new_ne w4 _ v4; have C9 := Lib.hid c9; have B4 := Lib.hid b4; have HS4 := Lib.hid (Nat.le_trans HA1.out.size bb.size); clear c9 b4 bb))
          | (go_at_call 35; ((with_reducible refine (F1.out _ HA2.out).mono ?_); rintro e w4 ⟨D3, k3, d3, rfl, bb, v4, v0, v1, b4, c9⟩; have n2 := (bb.block _ (Blk.lt N2.out)).trans N2.out; have s0 := Blk.cell n2 0; have s1 := Blk.cell n2 1; have s2 := Blk.cell n2 2; have g0 := Blk.frozen n2 0; have g1 := Blk.frozen n2 1; have g2 := Blk.frozen n2 2; have p0 := b4.cell 0; have p1 := b4.cell 1; have p2 := b4.cell 2; have q0 := b4.frozen 0; have q1 := b4.frozen 1; have q2 := b4.frozen 2; have z4 := Blk.lt b4; have t5 := World.new_ne w4 _ p0; have t2 := World.new_ne w4 _ v4; have C9 := Lib.hid c9; have B4 := Lib.hid b4; clear c9 b4 bb n2)))
        all_goals
          go_wp2
          have hb4 := blk3 (x := .int .i64 1) (y := .int .i64 nx) (z := .slice D3 k3 d3) B4.out
          have z0 := hb4.cell 0
          have z1 := hb4.cell 1
          have z2 := hb4.cell 2
          first
            | exact bodyPost_ret (v := .tuple #[.agg #[.int .i64 1, .int .i64 nx, .slice D3 k3 d3], .bool true, .int .i64 0]) (by simp [results, Try.results21, go_sem, *]) rfl (C9.out w4 _ w4.heap.size HS4.out (.inr (Nat.le_refl _)) (below_only (Below.refl _ _)) (gtrans' (gset3 _ _ _ _ _) (below_only ((Below.refl _ _).alloc (Nat.le_refl _) _))))
            | exact bodyPost_ret (v := .tuple #[.agg #[.int .i64 1, .int .i64 nx, .slice D3 k3 d3], .bool true, .int .i64 0]) (by simp [results, Try.results21, go_sem, *]) rfl (C9.out _ _ V2.heap.size (Nat.le_refl _) (.inl (by simp)) (gset3 _ _ _ _ _) (gset3 _ _ _ _ _))
  · have hq : p.sends = (p, false, 9) := by unfold Pr.sends; rw [if_pos hs]
    have hs1 : (p.state != 0) = true := by simpa using hs
    have FIN : Hid (PsR w g 81 p (.returned (.tuple #[.agg #[.int .i64 0, .int .i64 0, .slice none 0 0], .bool false, .int .i64 9])) (((V.setCell ⟨w.heap.size, 0, none⟩ (.int .i64 0)).setCell ⟨w.heap.size, 1, none⟩ (.int .i64 0)).setCell ⟨w.heap.size, 2, none⟩ (.slice none 0 0))) := by
      have bb := ((bV.setCell (p := ⟨w.heap.size, 0, none⟩) (Nat.le_refl _) (.int .i64 0)).setCell (p := ⟨w.heap.size, 1, none⟩) (Nat.le_refl _) (.int .i64 0)).setCell (p := ⟨w.heap.size, 2, none⟩) (Nat.le_refl _) (.slice none 0 0)
      show PsR _ _ _ _ _ _
      unfold PsR
      rw [hq]
      exact ⟨below_only bb, (bb.block _ hg).trans h, .inl ⟨rfl, rfl⟩⟩
    have hb4 := blk3 (x := .int .i64 0) (y := .int .i64 0) (z := .slice none 0 0) h0
    have p0 := hb4.cell 0
    have p1 := hb4.cell 1
    have p2 := hb4.cell 2
    clear h h0 h1 bV hV hq hs ok
    go_enter Try.func21, Try.ntmps21
    go_wp2_with (rw [HV.out])
    exact bodyPost_ret (v := .tuple #[.agg #[.int .i64 0, .int .i64 0, .slice none 0 0], .bool false, .int .i64 9]) (by simp [results, Try.results21, go_sem, *]) rfl FIN.out
theorem rpeerSend_any (g : Nat) (p : Pr) (w : World) (h : Blk w g 60 p.cells) (ok : PrOk p) :
    Calls Try.prog 22 #[.pointer (some ⟨g, 0, none⟩)] w (PsR w g 60 p) := by
  have hg := Blk.lt h
  obtain ⟨V, hV⟩ : ∃ V, w.alloc (.cells #[.int .i64 0, .int .i64 0, .slice none 0 0] 38) = V := ⟨_, rfl⟩
  have bV : Below w.heap.size w V := by rw [← hV]; exact (Below.refl _ _).alloc (Nat.le_refl _) _
  have zV : V.heap.size = w.heap.size + 1 := by rw [← hV]; simp
  have h0 : Blk V w.heap.size 38 [.int .i64 0, .int .i64 0, .slice none 0 0] := by rw [← hV]; exact heap_alloc_new w _
  have h1 : Blk V g 60 [.string p.name, .string p.word, .int .i64 p.tries, .int .i64 p.sent, .int .i64 p.last, .int .i64 p.state, .string p.msg] := (bV.block _ hg).trans h
  have x0 := h1.cell 0
  have x1 := h1.cell 1
  have x2 := h1.cell 2
  have x3 := h1.cell 3
  have x4 := h1.cell 4
  have x5 := h1.cell 5
  have f3 := h1.frozen 3
  have f4 := h1.frozen 4
  have f5 := h1.frozen 5
  have r0 := h0.cell 0
  have r1 := h0.cell 1
  have r2 := h0.cell 2
  have e0 := h0.frozen 0
  have e1 := h0.frozen 1
  have e2 := h0.frozen 2
  have lg := Blk.lt h1
  have lr := Blk.lt h0
  have HV := Lib.hid hV
  by_cases hs : p.state = 0
  · by_cases ht : p.tries ≤ p.sent
    · have hq : p.sends = ({ p with state := 3 }, false, 0) := by unfold Pr.sends; rw [if_neg (by rw [hs]; simp), if_pos ht]
      have FIN : Hid (∀ W' n, (V.drewN n).grownBy W' (some g) → Blk W' g 60 [.string p.name, .string p.word, .int .i64 p.tries, .int .i64 p.sent, .int .i64 p.last, .int .i64 3, .string p.msg] → ∀ W2, W'.grownBy W2 (some w.heap.size) → PsR w g 60 p (.returned (.tuple #[.agg #[.int .i64 0, .int .i64 0, .slice none 0 0], .bool false, .int .i64 0])) W2) := by
        show ∀ W' n, _ → _ → ∀ W2, _ → PsR _ _ _ _ _ _
        intro W' n gW bW W2 g2
        have q1 := gtrans' (below_only (below_drewN bV n)) gW
        have z1 := q1.size
        unfold PsR
        rw [hq]
        refine ⟨⟨g2.os.trans q1.os, g2.tape.trans q1.tape, g2.output.trans q1.output, by have := g2.size; omega, fun i hi hne => (g2.block i (by omega) (by intro e; injection e with e; omega)).trans (q1.block i hi hne)⟩, (g2.block _ (Blk.lt bW) (by intro e; injection e with e; omega)).trans bW, .inl ⟨rfl, rfl⟩⟩
      have H0 := Lib.hid h0
      have H1 := Lib.hid h1
      have hgr : g ≠ w.heap.size := by omega
      have hrg : w.heap.size ≠ g := by omega
      clear h h0 h1 bV hV hq ok
      go_enter Try.func22, Try.ntmps22
      go_wp2_with (rw [HV.out])
      go_region
      all_goals
        go_wp2
        have hb1 := Blk.set_ (show Blk (V.drewN 1) g 60 _ from H1.out) 5 (.int .i64 3)
        have hb4 := blk3 (x := .int .i64 0) (y := .int .i64 0) (z := .slice none 0 0) (show Blk ((V.drewN 1).setCell ⟨g, 5, none⟩ (.int .i64 3)) w.heap.size 38 _ from ((gset' (V.drewN 1) g 5 _).block _ lr (by intro e; injection e with e; omega)).trans H0.out)
        have p0 := hb4.cell 0
        have p1 := hb4.cell 1
        have p2 := hb4.cell 2
        exact bodyPost_ret (v := .tuple #[.agg #[.int .i64 0, .int .i64 0, .slice none 0 0], .bool false, .int .i64 0]) (by simp [results, Try.results22, go_sem, *]) rfl (FIN.out _ 1 (gset' _ _ _ _) hb1 _ (gset3 _ _ _ _ _))
    · obtain ⟨nx, hnx⟩ : ∃ nx, (p.last + 1) % 256 = nx := ⟨_, rfl⟩
      have hq : p.sends = ({ p with sent := p.sent + 1, last := nx }, true, 0) := by unfold Pr.sends; rw [if_neg (by rw [hs]; simp), if_neg ht, hnx]
      have o1 := ok.last0
      have o2 := ok.last1
      have o3 := ok.sent0
      have o4 := ok.sent1
      have o5 := ok.name
      have o6 := ok.word
      have w1 : IntKind.i64.wrap (p.sent + 1) = p.sent + 1 := by rw [IntKind.wrap_i64]; omega
      have w2 : IntKind.i64.wrap (p.last + 1) = p.last + 1 := by rw [IntKind.wrap_i64]; omega
      have w3 : (p.last + 1).tmod 256 = nx := by rw [← hnx, Int.tmod_eq_emod_of_nonneg (by omega)]
      have w4 : IntKind.i64.wrap nx = nx := by rw [IntKind.wrap_i64]; omega
      have er0 : reqE nx p.name p.word = 0 := by
        have hi : idB nx = true := by simp [idB]; omega
        unfold reqE
        rw [hi, if_neg (by simp), if_neg (by omega)]
      obtain ⟨V2, hV2⟩ : ∃ V2, ((V.setCell ⟨g, 3, none⟩ (.int .i64 (p.sent + 1))).setCell ⟨g, 4, none⟩ (.int .i64 nx)).drew = V2 := ⟨_, rfl⟩
      have gV2 : V.grownBy V2 (some g) := by rw [← hV2]; exact gtrans' (gtrans' (gset' _ _ _ _) (gset' _ _ _ _)) (below_only (below_drewS (Below.refl _ _) 1))
      have zV2 := gV2.size
      have b2 : Blk V2 g 60 [.string p.name, .string p.word, .int .i64 p.tries, .int .i64 (p.sent + 1), .int .i64 nx, .int .i64 p.state, .string p.msg] := by rw [← hV2]; exact Blk.set_ (Blk.set_ h1 3 _) 4 _
      have d2 : Blk V2 w.heap.size 38 [.int .i64 0, .int .i64 0, .slice none 0 0] := (gV2.block _ lr (by intro e; injection e with e; omega)).trans h0
      have gw2 : w.grownBy V2 (some g) := gtrans' (below_only bV) gV2
      have F0 : ∀ Wb, Below V2.heap.size V2 Wb → Calls Try.prog 40 #[.int .i64 nx, .string p.name, .string p.word] Wb fun e w4 => ∃ D k d, e = .returned (.tuple #[.agg #[.int .i64 1, .int .i64 nx, .slice D k d], .int .i64 0]) ∧ Below Wb.heap.size Wb w4 ∧ w4.cell? ⟨g, 4, none⟩ = some (.int .i64 nx) ∧ w4.cell? ⟨g, 0, none⟩ = some (.string p.name) ∧ w4.cell? ⟨g, 1, none⟩ = some (.string p.word) ∧ Blk w4 w.heap.size 38 [.int .i64 0, .int .i64 0, .slice none 0 0] ∧
          ∀ Wm W' z, V2.heap.size ≤ z → (z < Wb.heap.size ∨ w4.heap.size ≤ z) → w4.grownBy Wm (some z) → Wm.grownBy W' (some w.heap.size) → PsR w g 60 p (.returned (.tuple #[.agg #[.int .i64 1, .int .i64 nx, .slice D k d], .bool true, .int .i64 0])) W' := by
        intro Wb hWb
        have zb := hWb.size
        have hh := rrequest_any nx p.name p.word Wb (by unfold maxLen; omega) (by unfold maxLen; omega)
        rw [er0] at hh
        refine hh.mono ?_
        rintro e w4 ⟨b4, D, k, d, rfl, ho⟩
        have b4' : Below V2.heap.size V2 w4 := hWb.trans (b4.mono hWb.size)
        have z4 := b4'.size
        have g4 : Blk w4 g 60 _ := (b4'.block _ (Blk.lt b2)).trans b2
        refine ⟨D, k, d, rfl, b4, g4.cell 4, g4.cell 0, g4.cell 1, (b4'.block _ (Blk.lt d2)).trans d2, fun Wm W' z hz hz2 gM gW => ?_⟩
        have zM := gM.size
        have zW := gW.size
        have keep : ∀ i, i < V2.heap.size → i ≠ w.heap.size → W'.heap[i]? = V2.heap[i]? := fun i hi hne => (gW.block i (by omega) (by intro e; injection e with e; exact hne e)).trans ((gM.block i (by omega) (by intro e; injection e with e; omega)).trans (b4'.block i hi))
        have hne : ∀ q, (q < Wb.heap.size ∨ w4.heap.size ≤ q) → (Value.slice D k d).ownBlock = none ∨ (Value.slice D k d).ownBlock ≠ some q := by
          intro q hq
          rcases ho.form with ⟨e, _⟩ | ⟨g', cap, e, h2, _⟩
          · rw [e]; exact .inl rfl
          · rw [e]; refine .inr fun e2 => ?_
            simp [Value.ownBlock] at e2; omega
        unfold PsR
        rw [hq]
        refine ⟨⟨gW.os.trans (gM.os.trans (b4'.os.trans gw2.os)), gW.tape.trans (gM.tape.trans (b4'.tape.trans gw2.tape)), gW.output.trans (gM.output.trans (b4'.output.trans gw2.output)), by have := gw2.size; omega, fun i hi hne => (keep i (by have := gw2.size; omega) (by omega)).trans (gw2.block i hi hne)⟩, (keep g (Blk.lt b2) (by omega)).trans b2, .inr ⟨rfl, D, k, d, rfl, ?_⟩⟩
        have h4 := (ho.grown gM (hne z hz2)).grown gW (hne _ (.inl (by omega)))
        refine ⟨h4.1, ?_⟩
        rcases h4.2 with h | ⟨g', cap, cur, e1, e2, e3⟩
        · exact .inl h
        · exact .inr ⟨g', cap, cur, e1, by omega, e3⟩
      have F1 := Lib.hid F0
      have HA1 : Hid (Below V2.heap.size V2 V2.drew) := below_drewS (Below.refl _ _) 1
      have HA2 : Hid (Below V2.heap.size V2 (V2.alloc (.cells #[.int .i64 0, .int .i64 0, .slice none 0 0] 38)).drew) := below_drewS ((Below.refl _ _).alloc (Nat.le_refl _) _) 1
      have N2 : Hid (Blk (V2.alloc (.cells #[.int .i64 0, .int .i64 0, .slice none 0 0] 38)).drew V2.heap.size 38 [.int .i64 0, .int .i64 0, .slice none 0 0]) := heap_alloc_new V2 _
      have y0 : V2.cell? ⟨g, 0, none⟩ = some (.string p.name) := b2.cell 0
      have y1 : V2.cell? ⟨g, 1, none⟩ = some (.string p.word) := b2.cell 1
      have y4 : V2.cell? ⟨g, 4, none⟩ = some (.int .i64 nx) := b2.cell 4
      have yr : V2.cell? ⟨w.heap.size, 0, none⟩ = some (.int .i64 0) := d2.cell 0
      have t0 := World.new_ne V2 _ y4
      have t1 := World.new_ne V2 _ yr
      have hgr : g ≠ w.heap.size := by omega
      have hrg : w.heap.size ≠ g := by omega
      have HV2 := Lib.hid hV2
      clear h h0 h1 bV hV hq ok F0 hnx er0 o1 o2 o3 o4 o5 o6 gV2 gw2 b2 d2 hV2
      go_enter Try.func22, Try.ntmps22
      go_wp2_with (rw [HV.out])
      go_region
      all_goals
        go_upto_region 8 with (fail)
        rw [HV2.out]
        go_region_held3 (fun w' => w'.cell? ⟨g, 4, none⟩ = some (.int .i64 nx) ∧ w'.cell? ⟨g, 0, none⟩ = some (.string p.name) ∧ w'.cell? ⟨g, 1, none⟩ = some (.string p.word)) (go_keep) (first
          | (go_at_call 40; ((with_reducible refine (F1.out _ HA1.out).mono ?_); rintro e w4 ⟨D3, k3, d3, rfl, bb, v4, v0, v1, b4, c9⟩; have p0 := b4.cell 0; have p1 := b4.cell 1; have p2 := b4.cell 2; have q0 := b4.frozen 0; have q1 := b4.frozen 1; have q2 := b4.frozen 2; have z4 := Blk.lt b4; have t5 := World.new_ne w4 _ p0; have t2 := World.new_ne w4 _ v4; have C9 := Lib.hid c9; have B4 := Lib.hid b4; have HS4 := Lib.hid (Nat.le_trans HA1.out.size bb.size); clear c9 b4 bb))
          | (go_at_call 40; ((with_reducible refine (F1.out _ HA2.out).mono ?_); rintro e w4 ⟨D3, k3, d3, rfl, bb, v4, v0, v1, b4, c9⟩; have n2 := (bb.block _ (Blk.lt N2.out)).trans N2.out; have s0 := Blk.cell n2 0; have s1 := Blk.cell n2 1; have s2 := Blk.cell n2 2; have g0 := Blk.frozen n2 0; have g1 := Blk.frozen n2 1; have g2 := Blk.frozen n2 2; have p0 := b4.cell 0; have p1 := b4.cell 1; have p2 := b4.cell 2; have q0 := b4.frozen 0; have q1 := b4.frozen 1; have q2 := b4.frozen 2; have z4 := Blk.lt b4; have t5 := World.new_ne w4 _ p0; have t2 := World.new_ne w4 _ v4; have C9 := Lib.hid c9; have B4 := Lib.hid b4; clear c9 b4 bb n2)))
        all_goals
          go_wp2
          have hb4 := blk3 (x := .int .i64 1) (y := .int .i64 nx) (z := .slice D3 k3 d3) B4.out
          have z0 := hb4.cell 0
          have z1 := hb4.cell 1
          have z2 := hb4.cell 2
          first
            | exact bodyPost_ret (v := .tuple #[.agg #[.int .i64 1, .int .i64 nx, .slice D3 k3 d3], .bool true, .int .i64 0]) (by simp [results, Try.results22, go_sem, *]) rfl (C9.out w4 _ w4.heap.size HS4.out (.inr (Nat.le_refl _)) (below_only (Below.refl _ _)) (gtrans' (gset3 _ _ _ _ _) (below_only ((Below.refl _ _).alloc (Nat.le_refl _) _))))
            | exact bodyPost_ret (v := .tuple #[.agg #[.int .i64 1, .int .i64 nx, .slice D3 k3 d3], .bool true, .int .i64 0]) (by simp [results, Try.results22, go_sem, *]) rfl (C9.out _ _ V2.heap.size (Nat.le_refl _) (.inl (by simp)) (gset3 _ _ _ _ _) (gset3 _ _ _ _ _))
  · have hq : p.sends = (p, false, 9) := by unfold Pr.sends; rw [if_pos hs]
    have hs1 : (p.state != 0) = true := by simpa using hs
    have FIN : Hid (PsR w g 60 p (.returned (.tuple #[.agg #[.int .i64 0, .int .i64 0, .slice none 0 0], .bool false, .int .i64 9])) (((V.setCell ⟨w.heap.size, 0, none⟩ (.int .i64 0)).setCell ⟨w.heap.size, 1, none⟩ (.int .i64 0)).setCell ⟨w.heap.size, 2, none⟩ (.slice none 0 0))) := by
      have bb := ((bV.setCell (p := ⟨w.heap.size, 0, none⟩) (Nat.le_refl _) (.int .i64 0)).setCell (p := ⟨w.heap.size, 1, none⟩) (Nat.le_refl _) (.int .i64 0)).setCell (p := ⟨w.heap.size, 2, none⟩) (Nat.le_refl _) (.slice none 0 0)
      show PsR _ _ _ _ _ _
      unfold PsR
      rw [hq]
      exact ⟨below_only bb, (bb.block _ hg).trans h, .inl ⟨rfl, rfl⟩⟩
    have hb4 := blk3 (x := .int .i64 0) (y := .int .i64 0) (z := .slice none 0 0) h0
    have p0 := hb4.cell 0
    have p1 := hb4.cell 1
    have p2 := hb4.cell 2
    clear h h0 h1 bV hV hq hs ok
    go_enter Try.func22, Try.ntmps22
    go_wp2_with (rw [HV.out])
    exact bodyPost_ret (v := .tuple #[.agg #[.int .i64 0, .int .i64 0, .slice none 0 0], .bool false, .int .i64 9]) (by simp [results, Try.results22, go_sem, *]) rfl FIN.out
end Go.Proofs.Ytglboagjmbjehaa
