/-
  tetherref03.Parse: the frame of a body without its sum.
-/
import Derived.Test.YtmdlpbgelgeiaaaDoorHdParse
import Derived.Test.YtmdlpbgelgeiaaaDoorHdRef
import Derived.Test.YtmdlpbgelgeiaaaDoorStepApp
import Derived.Deep.RegionHeldLaw
import Derived.Deep.RegionLaw
namespace Go.Proofs.YtmdlpbgelgeiaaaDoor
open Go.RowKit
set_option maxRecDepth 100000
set_option maxHeartbeats 2000000
set_option linter.unusedSimpArgs false
set_option linter.unusedVariables false

/-- the frame's box and the answer's, behind the append -/
theorem rparse_app (W1 : World) (r0 r1 : Nat) (A2 : Option Addr) (n2 c2 B : Nat) (m : List UInt8) (P : Int) (hr : Rd W1 B A2 n2 m) (hB : B ≤ W1.heap.size) (hnil : A2 = none → c2 = 0) (hn : n2 ≤ 140737488355328) :
    ∃ A3 n3 c3 w3, (Builtin.append_ #[22, 22] 22 #[.slice none 0 0, .slice A2 n2 c2]).run Tryd.prog W1 = .ok (.slice A3 n3 c3) w3 ∧ Own w3 W1.heap.size (.slice A3 n3 c3) m ∧ Below W1.heap.size W1 w3 ∧ n3 = m.length := by
  obtain ⟨v, w3, r, o, g, _⟩ := append_run (Own.nil W1 W1.heap.size) c2 hr hnil (by simp; omega) (Nat.le_refl _)
  rw [List.nil_append] at o
  obtain ⟨A3, n3, c3, rfl, hn3⟩ : ∃ A n c, v = .slice A n c ∧ n = m.length := by
    rcases o.form with ⟨e, e2⟩ | ⟨g, cap, e, _⟩
    · exact ⟨_, _, _, e, by rw [e2]; rfl⟩
    · exact ⟨_, _, _, e, rfl⟩
  exact ⟨A3, n3, c3, w3, r, o, ⟨g.os, g.tape, g.output, g.size, fun i hi => g.block i hi (by simp [Value.ownBlock])⟩, hn3⟩
theorem rparse_any (A : Option Addr) (n c B : Nat) (l : List UInt8) (pfc acfc : Bool) (w : World) (hr : Rd w B A n l) (hB : B ≤ w.heap.size) (hc : n ≤ c) (hnil : A = none → c = 0) (hn : n ≤ 140737488355328) :
    Calls Tryd.prog 23 #[.slice A n c, .bool pfc, .bool acfc] w fun e w' => ∃ v, e = .returned (.tuple #[v, .int .i64 (pE l pfc acfc)]) ∧ PrsR w w' v l pfc acfc ∧ Below w.heap.size w w' := by
  have hl := hr.1
  obtain ⟨W1, hW1⟩ : ∃ W1, w.alloc (.cells #[.int .i64 0, .slice none 0 0] 24) = W1 := ⟨_, rfl⟩
  have hs1 : W1.heap.size = w.heap.size + 1 := by rw [← hW1]; simp
  have hb1 : Below w.heap.size w W1 := by rw [← hW1]; exact (Below.refl _ _).alloc (Nat.le_refl _) _
  have hk1 : Blk W1 w.heap.size 24 [.int .i64 0, .slice none 0 0] := by rw [← hW1]; exact blk_new w _ _
  have hr1 : Rd W1 B A n l := hr.below (hb1.mono hB)
  have HS1 := Lib.hid hs1
  have HB1 := Lib.hid hb1
  have HK1 := Lib.hid hk1
  have HW1 := Lib.hid hW1
  have z0 : w.heap.size < W1.heap.size := by omega
  have PR3 : pE l pfc acfc ≠ 0 → Hid (∀ W, PrsR w W (.agg #[.int .i64 0, .slice none 0 0]) l pfc acfc) := fun h => by
    show ∀ W, _
    intro W
    unfold PrsR
    rw [if_neg h]
  have HPE : sB l = true ∨ acfc = true → pE l pfc acfc = nE (sL l) pfc := fun h => by
    unfold pE
    rw [if_neg]
    rintro ⟨a, b⟩
    rcases h with h | h
    · rw [a] at h; cases h
    · rw [b] at h; cases h
  have c0 : W1.cell? ⟨w.heap.size, 0, none⟩ = some (.int .i64 0) := hk1.cell 0
  have c1 : W1.cell? ⟨w.heap.size, 1, none⟩ = some (.slice none 0 0) := hk1.cell 1
  have f0 := hk1.frozen 0
  have f1 := hk1.frozen 1
  have HR1 := Lib.hid hr1
  have HBB : Hid (B ≤ W1.heap.size) := by show _ ≤ _; omega
  have SL := fun h => slice_from A n c B 2 l W1 hr1 hc hnil h
  have HSL := Lib.hid SL
  have HCC := Lib.hid hc
  have HNL := Lib.hid hnil
  have HLL := Lib.hid hl
  clear hr hr1 hk1 hb1 hW1 hs1 SL hnil hl
  go_enter Tryd.func23, Tryd.ntmps23
  go_upto_region 1 with (fail)
  rw [HW1.out]
  go_cut [25] from 11 (fun b W => b = .bool (sB l) ∧ W1 = W)
  case first =>
    by_cases h2 : n < 2
    · have hs : Hid (sB l = false) := by show _ = _; unfold sB; have := HLL.out; simp; omega
      have hd : decide ((2 : Int) ≤ (n : Int)) = false := by simp; omega
      clear h2 HR1 HLL
      go_wp2
      go_meet
      case rel => exact ⟨by rw [hs.out], rfl⟩
    · obtain ⟨b, o, rfl, hbb, hcell⟩ := HR1.out.2 (by omega)
      obtain ⟨y, hy⟩ : ∃ y, y = byteAt l 0 := ⟨_, rfl⟩
      obtain ⟨z, hz⟩ : ∃ y, y = byteAt l 1 := ⟨_, rfl⟩
      have k0 : W1.cell? ⟨b, o, none⟩ = some (.int .u8 y) := by rw [hy]; exact hcell 0 (by omega)
      have k1 : W1.cell? ⟨b, o + 1, none⟩ = some (.int .u8 z) := by rw [hz]; exact hcell 1 (by omega)
      have hd : decide ((2 : Int) ≤ (n : Int)) = true := by simp; omega
      have g0 : 0 < n := by omega
      have g1 : 1 < n := by omega
      have hs : Hid (sB l = ((y == 255) && (z == 3))) := by
        show _ = _
        unfold sB
        rw [← hy, ← hz, Bool.eq_iff_iff]
        have := HLL.out
        simp
        omega
      clear hcell HR1 HLL hy hz h2
      rcases e1 : (y == 255) with _ | _
      · go_wp2
        go_meet
        case rel => exact ⟨by rw [hs.out, e1]; rfl, rfl⟩
      · rcases e2 : (z == 3) with _ | _
        all_goals
          go_wp2
          go_meet
          case rel => exact ⟨by rw [hs.out, e1, e2]; rfl, rfl⟩
  case rest =>
    obtain ⟨rfl, rfl⟩ := hcut
    rcases hsb : sB l with _ | _
    · have hsl : sL l = l := by unfold sL; rw [hsb]; rfl
      cases acfc
      · have he : pE l pfc false = 3 := by unfold pE; rw [if_pos ⟨hsb, rfl⟩]
        have P3 := PR3 (by rw [he]; decide)
        have HE := Lib.hid he
        clear HPE PR3 he hsb hsl
        go_wp2
        exact bodyPost_ret (v := .tuple #[.agg #[.int .i64 0, .slice none 0 0], .int .i64 3]) (by simp [results, Tryd.results23, go_sem, c0, c1]) rfl ⟨_, by rw [HE.out], P3.out _, (HB1.out.setCell (p := ⟨w.heap.size, 0, none⟩) (Nat.le_refl _) _).setCell (p := ⟨w.heap.size, 1, none⟩) (Nat.le_refl _) _⟩
      · have he := HPE (.inr rfl)
        obtain ⟨M, hM⟩ : ∃ M, M = l := ⟨_, rfl⟩
        have HRM : Hid (Rd W1 B A n M) := by show Rd _ _ _ _ _; rw [hM]; exact HR1.out
        have HDROP : Hid (∀ k, k ≤ n → ∃ A2 c2, (∀ W, (Instr.slice 22 (.slice A n c) (some (.int .i64 (k : Int))) none none).run Tryd.prog W = .ok (.slice A2 (n - k) c2) W) ∧ Rd W1 B A2 (n - k) (M.drop k) ∧ (A2 = none → c2 = 0) ∧ n - k ≤ c2) := fun k hk => slice_from A n c B k M W1 HRM.out hc HNL.out hk
        replace hsl : sL l = M := by rw [hsl, hM]
        clear HPE hsb hM
        have he2 : pE l pfc true = nE M pfc := by rw [he, hsl]
        have hpp : pP l = nP M := by unfold pP; rw [hsl]
        have hpi : pI l = M.drop (nS M) := by unfold pI; rw [hsl]
        have hML := HRM.out.1
        by_cases h0 : n = 0
        · have hl0 : M.length = 0 := by omega
          have hd0 : ((n : Int) == 0) = true := by simp; omega
          have hE : nE M pfc = 8 := by unfold nE; rw [if_pos hl0]
          have P3 := PR3 (by rw [he2, hE]; decide)
          have HE : Hid (pE l pfc true = 8) := he2.trans hE
          clear hl0 h0 hpp hpi he hsl hML HDROP he2 hE PR3
          go_wp2
          exact bodyPost_ret (v := .tuple #[.agg #[.int .i64 0, .slice none 0 0], .int .i64 8]) (by simp [results, Tryd.results23, go_sem, c0, c1]) rfl ⟨_, by rw [HE.out], P3.out _, (HB1.out.setCell (p := ⟨w.heap.size, 0, none⟩) (Nat.le_refl _) _).setCell (p := ⟨w.heap.size, 1, none⟩) (Nat.le_refl _) _⟩
        · have hl0 : ¬ M.length = 0 := by omega
          have hd0 : ((n : Int) == 0) = false := by simp; omega
          obtain ⟨b, o, e5, hbb, hcell⟩ := HRM.out.2 (by omega)
          obtain ⟨y, hy⟩ : ∃ y, y = byteAt M 0 := ⟨_, rfl⟩
          have k0 : W1.cell? ⟨b, o, none⟩ = some (.int .u8 y) := by rw [hy]; exact hcell 0 (by omega)
          have y0 : 0 ≤ y := by rw [hy]; exact byteAt_lo M 0
          have y1 : y ≤ 255 := by rw [hy]; exact byteAt_hi M 0
          have hodd : nOdd M = decide (y % 2 = 1) := by unfold nOdd; rw [hy]
          have n0' : 0 < n := by omega
          have n0 : (0 : Int) < (n : Int) := by omega
          by_cases ho : y % 2 = 1
          · have ho2 : nOdd M = true := by rw [hodd]; simpa using ho
            have hm2 : (y % 2 == 0) = false := by simp; omega
            have PC := fun W => Lib.hid (rproto_any y W)
            have hpy : protoB y = true := by unfold protoB; simp; omega
            rw [hpy] at PC
            cases pfc
            · subst e5
              have hE : nE M false = 3 := by unfold nE; rw [if_neg hl0, if_pos ho2, if_neg (by decide)]
              have P3 := PR3 (by rw [he2, hE]; decide)
              have HE : Hid (pE l false true = 3) := he2.trans hE
              clear hl0 h0 hpp hpi he hsl hML hcell hbb hy hodd ho ho2 hpy HDROP he2 hE PR3
              go_wp2
              exact bodyPost_ret (v := .tuple #[.agg #[.int .i64 0, .slice none 0 0], .int .i64 3]) (by simp [results, Tryd.results23, go_sem, c0, c1]) rfl ⟨_, by rw [HE.out], P3.out _, (HB1.out.setCell (p := ⟨w.heap.size, 0, none⟩) (Nat.le_refl _) _).setCell (p := ⟨w.heap.size, 1, none⟩) (Nat.le_refl _) _⟩
            · subst e5
              have hE : nE M true = 0 := by unfold nE; rw [if_neg hl0, if_pos ho2, if_pos rfl]
              have hp : nP M = y := by unfold nP; rw [if_pos ho2, hy]
              have hs : nS M = 1 := by unfold nS; rw [if_pos ho2]
              have HE : Hid (pE l true true = 0) := he2.trans hE
              obtain ⟨A2, c2, hrun2', hr2, hnil2, hc2⟩ := HDROP.out 1 (by omega)
              have hrun2 : ∀ W, (Instr.slice 22 (.slice (some ⟨b, o, none⟩) n c) (some (.int .i64 1)) none none).run Tryd.prog W = .ok (.slice A2 (n - 1) c2) W := hrun2'
              obtain ⟨n2, hn2⟩ : ∃ n2, n2 = n - 1 := ⟨_, rfl⟩
              rw [← hn2] at hrun2 hr2
              obtain ⟨Wb, hWb⟩ : ∃ Wb, W1.alloc (.cells #[.int .i64 y, .slice none 0 0] 24) = Wb := ⟨_, rfl⟩
              have bb : Below W1.heap.size W1 Wb := by rw [← hWb]; exact (Below.refl _ _).alloc (Nat.le_refl _) _
              have sb : Wb.heap.size = W1.heap.size + 1 := by rw [← hWb]; simp
              have kb : Blk Wb W1.heap.size 24 [.int .i64 y, .slice none 0 0] := by rw [← hWb]; exact blk_new W1 _ _
              obtain ⟨A3, n3, c3, w3, hr3, ho3, hb3, hn3⟩ := rparse_app Wb.drew 0 0 A2 n2 c2 B (M.drop 1) y ((hr2.below (bb.mono HBB.out)).drew) (by show B ≤ Wb.heap.size; have := HBB.out; omega) hnil2 (by omega)
              have sz3 : Wb.heap.size ≤ w3.heap.size := hb3.size
              have kw : Blk w3 W1.heap.size 24 [.int .i64 y, .slice none 0 0] := (hb3.block _ (by show W1.heap.size < Wb.heap.size; omega)).trans kb
              have kr : Blk w3 w.heap.size 24 [.int .i64 0, .slice none 0 0] := (hb3.block _ (by show w.heap.size < Wb.heap.size; omega)).trans ((bb.block _ z0).trans HK1.out)
              have b0 := kb.cell 0
              have b1 := kb.cell 1
              have d0 := kw.cell 0
              have d1 := kw.cell 1
              have df := kw.frozen 1
              have e0 := kr.cell 0
              have e1 := kr.cell 1
              have ef0 := kr.frozen 0
              have ef1 := kr.frozen 1
              have hneW : ¬ W1.heap.size = w.heap.size := by omega
              have hneW2 : ¬ w.heap.size = W1.heap.size := by omega
              have q5 : Blk (w3.setCell ⟨W1.heap.size, 1, none⟩ (.slice A3 n3 c3)) w.heap.size 24 [.int .i64 0, .slice none 0 0] := ((Below.heap_setCell w3 ⟨W1.heap.size, 1, none⟩ (.slice A3 n3 c3) w.heap.size (by show w.heap.size ≠ W1.heap.size; omega)).trans kr)
              have q6 := (q5.set_ 0 (.int .i64 y)).set_ 1 (.slice A3 n3 c3)
              have v0 := q6.cell 0
              have v1 := q6.cell 1
              have FIN : Hid (PrsR w (((w3.setCell ⟨W1.heap.size, 1, none⟩ (.slice A3 n3 c3)).setCell ⟨w.heap.size, 0, none⟩ (.int .i64 y)).setCell ⟨w.heap.size, 1, none⟩ (.slice A3 n3 c3)) (.agg #[.int .i64 y, .slice A3 n3 c3]) l true true ∧ Below w.heap.size w (((w3.setCell ⟨W1.heap.size, 1, none⟩ (.slice A3 n3 c3)).setCell ⟨w.heap.size, 0, none⟩ (.int .i64 y)).setCell ⟨w.heap.size, 1, none⟩ (.slice A3 n3 c3))) := by
                have hbw : Below Wb.heap.size Wb w3 := ⟨hb3.os, hb3.tape, hb3.output, hb3.size, fun i hi => hb3.block i hi⟩
                have hne : ∀ g, (Value.slice A3 n3 c3).ownBlock = some g → Wb.heap.size ≤ g := fun g hg => (ho3.block g hg).1
                have keep : ∀ (k i : Nat) (u : Value) (X : World), k < Wb.heap.size → Own X Wb.heap.size (.slice A3 n3 c3) (M.drop 1) → Own (X.setCell ⟨k, i, none⟩ u) Wb.heap.size (.slice A3 n3 c3) (M.drop 1) := fun k i u X hk h => by
                  refine h.grown (only_set _) ?_
                  rcases hg : (Value.slice A3 n3 c3).ownBlock with _ | g
                  · exact .inl rfl
                  · exact .inr (fun e => by have := hne g hg; injection e with e; simp at e; omega)
                refine ⟨?_, ?_⟩
                · unfold PrsR
                  rw [if_pos HE.out]
                  refine ⟨A3, n3, c3, by rw [hpp, hp], by rw [hpi, hs]; exact hn3, ?_⟩
                  rw [hpi, hs]
                  exact own_lower (keep _ _ _ _ (by omega) (keep _ _ _ _ (by omega) (keep _ _ _ _ (by omega) ho3))) (by omega)
                · exact ((((HB1.out.trans (bb.mono (by omega))).trans (hbw.mono (by omega))).setCell (p := ⟨W1.heap.size, 1, none⟩) (by show w.heap.size ≤ W1.heap.size; omega) _).setCell (p := ⟨w.heap.size, 0, none⟩) (Nat.le_refl _) _).setCell (p := ⟨w.heap.size, 1, none⟩) (Nat.le_refl _) _
              have R3 := Lib.hid hr3
              have HWb := Lib.hid hWb
              clear hl0 h0 hpp hpi he hsl hML hcell hbb hy hodd ho ho2 hpy HDROP he2 hE PR3 hp hs hrun2' hr2 hnil2 hc2 hn2 hWb bb sb kb hr3 ho3 hb3 hn3 kw kr q5 q6
              go_upto_region 19 with (go_at_call 40; refine (PC _).out.mono ?_; rintro e w' ⟨rfl, rfl⟩)
              rw [HWb.out]
              go_region_law (refine step_app rfl (.tmp 63) (.tmp 66) rfl _ _ rfl rfl _ _ R3.out ?_)
              all_goals
                go_wp2
                exact bodyPost_ret (v := .tuple #[.agg #[.int .i64 y, .slice A3 n3 c3], .int .i64 0]) (by simp [results, Tryd.results23, go_sem, v0, v1]) rfl ⟨_, by rw [HE.out], FIN.out.1, FIN.out.2⟩
          · have ho2 : ¬ nOdd M = true := by rw [hodd]; simpa using ho
            have hm2 : (y % 2 == 0) = true := by simp; omega
            by_cases h1 : n = 1
            · have hl1 : M.length = 1 := by omega
              have hd1 : (n : Int) < 2 := by omega
              subst e5
              have hE : nE M pfc = 8 := by unfold nE; rw [if_neg hl0, if_neg ho2, if_pos hl1]
              have P3 := PR3 (by rw [he2, hE]; decide)
              have HE : Hid (pE l pfc true = 8) := he2.trans hE
              clear hl0 hl1 h0 h1 hpp hpi he hsl hML hcell hbb hy hodd ho ho2 HDROP he2 hE PR3
              go_wp2
              exact bodyPost_ret (v := .tuple #[.agg #[.int .i64 0, .slice none 0 0], .int .i64 8]) (by simp [results, Tryd.results23, go_sem, c0, c1]) rfl ⟨_, by rw [HE.out], P3.out _, (HB1.out.setCell (p := ⟨w.heap.size, 0, none⟩) (Nat.le_refl _) _).setCell (p := ⟨w.heap.size, 1, none⟩) (Nat.le_refl _) _⟩
            · have hl1 : ¬ M.length = 1 := by omega
              have hd1 : (2 : Int) ≤ (n : Int) := by omega
              obtain ⟨z, hz⟩ : ∃ z, z = byteAt M 1 := ⟨_, rfl⟩
              have k1 : W1.cell? ⟨b, o + 1, none⟩ = some (.int .u8 z) := by rw [hz]; exact hcell 1 (by omega)
              have zz0 : 0 ≤ z := by rw [hz]; exact byteAt_lo M 1
              have zz1 : z ≤ 255 := by rw [hz]; exact byteAt_hi M 1
              have ht : nTwo M = 256 * y + z := by unfold nTwo; rw [hy, hz]
              have n1' : 1 < n := by omega
              have PC := fun W => Lib.hid (rproto_any (256 * y + z) W)
              rcases hp0 : protoB (256 * y + z) with _ | _
              · rw [hp0] at PC
                subst e5
                have hE : nE M pfc = 30 := by unfold nE; rw [if_neg hl0, if_neg ho2, if_neg hl1, ht, hp0]; rfl
                have P3 := PR3 (by rw [he2, hE]; decide)
                have HE : Hid (pE l pfc true = 30) := he2.trans hE
                clear hl0 hl1 h0 h1 hpp hpi he hsl hML hcell hbb hy hodd ho ho2 ht hz hp0 HDROP he2 hE PR3
                go_wp2_with (go_at_call 40; refine (PC _).out.mono ?_; rintro e w' ⟨rfl, rfl⟩)
                exact bodyPost_ret (v := .tuple #[.agg #[.int .i64 0, .slice none 0 0], .int .i64 30]) (by simp [results, Tryd.results23, go_sem, c0, c1]) rfl ⟨_, by rw [HE.out], P3.out _, (HB1.out.setCell (p := ⟨w.heap.size, 0, none⟩) (Nat.le_refl _) _).setCell (p := ⟨w.heap.size, 1, none⟩) (Nat.le_refl _) _⟩
              · rw [hp0] at PC
                subst e5
                have hE : nE M pfc = 0 := by unfold nE; rw [if_neg hl0, if_neg ho2, if_neg hl1, ht, hp0]; rfl
                have hp : nP M = (256 * y + z) := by unfold nP; rw [if_neg ho2, ht]
                have hs : nS M = 2 := by unfold nS; rw [if_neg ho2]
                have HE : Hid (pE l pfc true = 0) := he2.trans hE
                obtain ⟨A2, c2, hrun2', hr2, hnil2, hc2⟩ := HDROP.out 2 (by omega)
                have hrun2 : ∀ W, (Instr.slice 22 (.slice (some ⟨b, o, none⟩) n c) (some (.int .i64 2)) none none).run Tryd.prog W = .ok (.slice A2 (n - 2) c2) W := hrun2'
                obtain ⟨n2, hn2⟩ : ∃ n2, n2 = n - 2 := ⟨_, rfl⟩
                rw [← hn2] at hrun2 hr2
                obtain ⟨Wb, hWb⟩ : ∃ Wb, W1.alloc (.cells #[.int .i64 (256 * y + z), .slice none 0 0] 24) = Wb := ⟨_, rfl⟩
                have bb : Below W1.heap.size W1 Wb := by rw [← hWb]; exact (Below.refl _ _).alloc (Nat.le_refl _) _
                have sb : Wb.heap.size = W1.heap.size + 1 := by rw [← hWb]; simp
                have kb : Blk Wb W1.heap.size 24 [.int .i64 (256 * y + z), .slice none 0 0] := by rw [← hWb]; exact blk_new W1 _ _
                obtain ⟨A3, n3, c3, w3, hr3, ho3, hb3, hn3⟩ := rparse_app Wb.drew 0 0 A2 n2 c2 B (M.drop 2) (256 * y + z) ((hr2.below (bb.mono HBB.out)).drew) (by show B ≤ Wb.heap.size; have := HBB.out; omega) hnil2 (by omega)
                have sz3 : Wb.heap.size ≤ w3.heap.size := hb3.size
                have kw : Blk w3 W1.heap.size 24 [.int .i64 (256 * y + z), .slice none 0 0] := (hb3.block _ (by show W1.heap.size < Wb.heap.size; omega)).trans kb
                have kr : Blk w3 w.heap.size 24 [.int .i64 0, .slice none 0 0] := (hb3.block _ (by show w.heap.size < Wb.heap.size; omega)).trans ((bb.block _ z0).trans HK1.out)
                have b0 := kb.cell 0
                have b1 := kb.cell 1
                have d0 := kw.cell 0
                have d1 := kw.cell 1
                have df := kw.frozen 1
                have e0 := kr.cell 0
                have e1 := kr.cell 1
                have ef0 := kr.frozen 0
                have ef1 := kr.frozen 1
                have hneW : ¬ W1.heap.size = w.heap.size := by omega
                have hneW2 : ¬ w.heap.size = W1.heap.size := by omega
                have q5 : Blk (w3.setCell ⟨W1.heap.size, 1, none⟩ (.slice A3 n3 c3)) w.heap.size 24 [.int .i64 0, .slice none 0 0] := ((Below.heap_setCell w3 ⟨W1.heap.size, 1, none⟩ (.slice A3 n3 c3) w.heap.size (by show w.heap.size ≠ W1.heap.size; omega)).trans kr)
                have q6 := (q5.set_ 0 (.int .i64 (256 * y + z))).set_ 1 (.slice A3 n3 c3)
                have v0 := q6.cell 0
                have v1 := q6.cell 1
                have FIN : Hid (PrsR w (((w3.setCell ⟨W1.heap.size, 1, none⟩ (.slice A3 n3 c3)).setCell ⟨w.heap.size, 0, none⟩ (.int .i64 (256 * y + z))).setCell ⟨w.heap.size, 1, none⟩ (.slice A3 n3 c3)) (.agg #[.int .i64 (256 * y + z), .slice A3 n3 c3]) l pfc true ∧ Below w.heap.size w (((w3.setCell ⟨W1.heap.size, 1, none⟩ (.slice A3 n3 c3)).setCell ⟨w.heap.size, 0, none⟩ (.int .i64 (256 * y + z))).setCell ⟨w.heap.size, 1, none⟩ (.slice A3 n3 c3))) := by
                  have hbw : Below Wb.heap.size Wb w3 := ⟨hb3.os, hb3.tape, hb3.output, hb3.size, fun i hi => hb3.block i hi⟩
                  have hne : ∀ g, (Value.slice A3 n3 c3).ownBlock = some g → Wb.heap.size ≤ g := fun g hg => (ho3.block g hg).1
                  have keep : ∀ (k i : Nat) (u : Value) (X : World), k < Wb.heap.size → Own X Wb.heap.size (.slice A3 n3 c3) (M.drop 2) → Own (X.setCell ⟨k, i, none⟩ u) Wb.heap.size (.slice A3 n3 c3) (M.drop 2) := fun k i u X hk h => by
                    refine h.grown (only_set _) ?_
                    rcases hg : (Value.slice A3 n3 c3).ownBlock with _ | g
                    · exact .inl rfl
                    · exact .inr (fun e => by have := hne g hg; injection e with e; simp at e; omega)
                  refine ⟨?_, ?_⟩
                  · unfold PrsR
                    rw [if_pos HE.out]
                    refine ⟨A3, n3, c3, by rw [hpp, hp], by rw [hpi, hs]; exact hn3, ?_⟩
                    rw [hpi, hs]
                    exact own_lower (keep _ _ _ _ (by omega) (keep _ _ _ _ (by omega) (keep _ _ _ _ (by omega) ho3))) (by omega)
                  · exact ((((HB1.out.trans (bb.mono (by omega))).trans (hbw.mono (by omega))).setCell (p := ⟨W1.heap.size, 1, none⟩) (by show w.heap.size ≤ W1.heap.size; omega) _).setCell (p := ⟨w.heap.size, 0, none⟩) (Nat.le_refl _) _).setCell (p := ⟨w.heap.size, 1, none⟩) (Nat.le_refl _) _
                have R3 := Lib.hid hr3
                have HWb := Lib.hid hWb
                clear hl0 hl1 h0 h1 hpp hpi he hsl hML hcell hbb hy hodd ho ho2 ht hz hp0 HDROP he2 hE PR3 hp hs hrun2' hr2 hnil2 hc2 hn2 hWb bb sb kb hr3 ho3 hb3 hn3 kw kr q5 q6
                go_upto_region 19 with (go_at_call 40; refine (PC _).out.mono ?_; rintro e w' ⟨rfl, rfl⟩)
                rw [HWb.out]
                go_region_law (refine step_app rfl (.tmp 63) (.tmp 66) rfl _ _ rfl rfl _ _ R3.out ?_)
                all_goals
                  go_wp2
                  exact bodyPost_ret (v := .tuple #[.agg #[.int .i64 (256 * y + z), .slice A3 n3 c3], .int .i64 0]) (by simp [results, Tryd.results23, go_sem, v0, v1]) rfl ⟨_, by rw [HE.out], FIN.out.1, FIN.out.2⟩
    · have hsl : sL l = l.drop 2 := by unfold sL; rw [hsb]; rfl
      have he := HPE (.inl hsb)
      have h2 : 2 ≤ n := by have := HLL.out; unfold sB at hsb; simp at hsb; omega
      obtain ⟨A5, c5, hrun5', hr5, hnil5, hc5⟩ := HSL.out h2
      have hrun5 : ∀ W, (Instr.slice 22 (.slice A n c) (some (.int .i64 2)) none none).run Tryd.prog W = .ok (.slice A5 (n - 2) c5) W := hrun5'
      clear hrun5'
      obtain ⟨M, hM⟩ : ∃ M, M = l.drop 2 := ⟨_, rfl⟩
      obtain ⟨n5, hn5⟩ : ∃ n5, n5 = n - 2 := ⟨_, rfl⟩
      rw [← hn5] at hrun5 hr5 hc5
      rw [← hM] at hr5
      have HRM := Lib.hid hr5
      have HDROP : Hid (∀ k, k ≤ n5 → ∃ A2 c2, (∀ W, (Instr.slice 22 (.slice A5 n5 c5) (some (.int .i64 (k : Int))) none none).run Tryd.prog W = .ok (.slice A2 (n5 - k) c2) W) ∧ Rd W1 B A2 (n5 - k) (M.drop k) ∧ (A2 = none → c2 = 0) ∧ n5 - k ≤ c2) := fun k hk => slice_from A5 n5 c5 B k M W1 HRM.out hc5 hnil5 hk
      have hn5b : n5 ≤ 140737488355328 := by omega
      replace hsl : sL l = M := by rw [hsl, hM]
      clear HPE hsb hM hn5 hr5
      have he2 : pE l pfc acfc = nE M pfc := by rw [he, hsl]
      have hpp : pP l = nP M := by unfold pP; rw [hsl]
      have hpi : pI l = M.drop (nS M) := by unfold pI; rw [hsl]
      have hML := HRM.out.1
      by_cases h0 : n5 = 0
      · have hl0 : M.length = 0 := by omega
        have hd0 : ((n5 : Int) == 0) = true := by simp; omega
        have hE : nE M pfc = 8 := by unfold nE; rw [if_pos hl0]
        have P3 := PR3 (by rw [he2, hE]; decide)
        have HE : Hid (pE l pfc acfc = 8) := he2.trans hE
        clear hl0 h0 hpp hpi he hsl hML HDROP he2 hE PR3
        go_wp2
        exact bodyPost_ret (v := .tuple #[.agg #[.int .i64 0, .slice none 0 0], .int .i64 8]) (by simp [results, Tryd.results23, go_sem, c0, c1]) rfl ⟨_, by rw [HE.out], P3.out _, (HB1.out.setCell (p := ⟨w.heap.size, 0, none⟩) (Nat.le_refl _) _).setCell (p := ⟨w.heap.size, 1, none⟩) (Nat.le_refl _) _⟩
      · have hl0 : ¬ M.length = 0 := by omega
        have hd0 : ((n5 : Int) == 0) = false := by simp; omega
        obtain ⟨b, o, e5, hbb, hcell⟩ := HRM.out.2 (by omega)
        obtain ⟨y, hy⟩ : ∃ y, y = byteAt M 0 := ⟨_, rfl⟩
        have k0 : W1.cell? ⟨b, o, none⟩ = some (.int .u8 y) := by rw [hy]; exact hcell 0 (by omega)
        have y0 : 0 ≤ y := by rw [hy]; exact byteAt_lo M 0
        have y1 : y ≤ 255 := by rw [hy]; exact byteAt_hi M 0
        have hodd : nOdd M = decide (y % 2 = 1) := by unfold nOdd; rw [hy]
        have n0' : 0 < n5 := by omega
        have n0 : (0 : Int) < (n5 : Int) := by omega
        by_cases ho : y % 2 = 1
        · have ho2 : nOdd M = true := by rw [hodd]; simpa using ho
          have hm2 : (y % 2 == 0) = false := by simp; omega
          have PC := fun W => Lib.hid (rproto_any y W)
          have hpy : protoB y = true := by unfold protoB; simp; omega
          rw [hpy] at PC
          cases pfc
          · subst e5
            have hE : nE M false = 3 := by unfold nE; rw [if_neg hl0, if_pos ho2, if_neg (by decide)]
            have P3 := PR3 (by rw [he2, hE]; decide)
            have HE : Hid (pE l false acfc = 3) := he2.trans hE
            clear hl0 h0 hpp hpi he hsl hML hcell hbb hy hodd ho ho2 hpy HDROP he2 hE PR3
            go_wp2
            exact bodyPost_ret (v := .tuple #[.agg #[.int .i64 0, .slice none 0 0], .int .i64 3]) (by simp [results, Tryd.results23, go_sem, c0, c1]) rfl ⟨_, by rw [HE.out], P3.out _, (HB1.out.setCell (p := ⟨w.heap.size, 0, none⟩) (Nat.le_refl _) _).setCell (p := ⟨w.heap.size, 1, none⟩) (Nat.le_refl _) _⟩
          · subst e5
            have hE : nE M true = 0 := by unfold nE; rw [if_neg hl0, if_pos ho2, if_pos rfl]
            have hp : nP M = y := by unfold nP; rw [if_pos ho2, hy]
            have hs : nS M = 1 := by unfold nS; rw [if_pos ho2]
            have HE : Hid (pE l true acfc = 0) := he2.trans hE
            obtain ⟨A2, c2, hrun2', hr2, hnil2, hc2⟩ := HDROP.out 1 (by omega)
            have hrun2 : ∀ W, (Instr.slice 22 (.slice (some ⟨b, o, none⟩) n5 c5) (some (.int .i64 1)) none none).run Tryd.prog W = .ok (.slice A2 (n5 - 1) c2) W := hrun2'
            obtain ⟨n2, hn2⟩ : ∃ n2, n2 = n5 - 1 := ⟨_, rfl⟩
            rw [← hn2] at hrun2 hr2
            obtain ⟨Wb, hWb⟩ : ∃ Wb, W1.alloc (.cells #[.int .i64 y, .slice none 0 0] 24) = Wb := ⟨_, rfl⟩
            have bb : Below W1.heap.size W1 Wb := by rw [← hWb]; exact (Below.refl _ _).alloc (Nat.le_refl _) _
            have sb : Wb.heap.size = W1.heap.size + 1 := by rw [← hWb]; simp
            have kb : Blk Wb W1.heap.size 24 [.int .i64 y, .slice none 0 0] := by rw [← hWb]; exact blk_new W1 _ _
            obtain ⟨A3, n3, c3, w3, hr3, ho3, hb3, hn3⟩ := rparse_app Wb.drew 0 0 A2 n2 c2 B (M.drop 1) y ((hr2.below (bb.mono HBB.out)).drew) (by show B ≤ Wb.heap.size; have := HBB.out; omega) hnil2 (by omega)
            have sz3 : Wb.heap.size ≤ w3.heap.size := hb3.size
            have kw : Blk w3 W1.heap.size 24 [.int .i64 y, .slice none 0 0] := (hb3.block _ (by show W1.heap.size < Wb.heap.size; omega)).trans kb
            have kr : Blk w3 w.heap.size 24 [.int .i64 0, .slice none 0 0] := (hb3.block _ (by show w.heap.size < Wb.heap.size; omega)).trans ((bb.block _ z0).trans HK1.out)
            have b0 := kb.cell 0
            have b1 := kb.cell 1
            have d0 := kw.cell 0
            have d1 := kw.cell 1
            have df := kw.frozen 1
            have e0 := kr.cell 0
            have e1 := kr.cell 1
            have ef0 := kr.frozen 0
            have ef1 := kr.frozen 1
            have hneW : ¬ W1.heap.size = w.heap.size := by omega
            have hneW2 : ¬ w.heap.size = W1.heap.size := by omega
            have q5 : Blk (w3.setCell ⟨W1.heap.size, 1, none⟩ (.slice A3 n3 c3)) w.heap.size 24 [.int .i64 0, .slice none 0 0] := ((Below.heap_setCell w3 ⟨W1.heap.size, 1, none⟩ (.slice A3 n3 c3) w.heap.size (by show w.heap.size ≠ W1.heap.size; omega)).trans kr)
            have q6 := (q5.set_ 0 (.int .i64 y)).set_ 1 (.slice A3 n3 c3)
            have v0 := q6.cell 0
            have v1 := q6.cell 1
            have FIN : Hid (PrsR w (((w3.setCell ⟨W1.heap.size, 1, none⟩ (.slice A3 n3 c3)).setCell ⟨w.heap.size, 0, none⟩ (.int .i64 y)).setCell ⟨w.heap.size, 1, none⟩ (.slice A3 n3 c3)) (.agg #[.int .i64 y, .slice A3 n3 c3]) l true acfc ∧ Below w.heap.size w (((w3.setCell ⟨W1.heap.size, 1, none⟩ (.slice A3 n3 c3)).setCell ⟨w.heap.size, 0, none⟩ (.int .i64 y)).setCell ⟨w.heap.size, 1, none⟩ (.slice A3 n3 c3))) := by
              have hbw : Below Wb.heap.size Wb w3 := ⟨hb3.os, hb3.tape, hb3.output, hb3.size, fun i hi => hb3.block i hi⟩
              have hne : ∀ g, (Value.slice A3 n3 c3).ownBlock = some g → Wb.heap.size ≤ g := fun g hg => (ho3.block g hg).1
              have keep : ∀ (k i : Nat) (u : Value) (X : World), k < Wb.heap.size → Own X Wb.heap.size (.slice A3 n3 c3) (M.drop 1) → Own (X.setCell ⟨k, i, none⟩ u) Wb.heap.size (.slice A3 n3 c3) (M.drop 1) := fun k i u X hk h => by
                refine h.grown (only_set _) ?_
                rcases hg : (Value.slice A3 n3 c3).ownBlock with _ | g
                · exact .inl rfl
                · exact .inr (fun e => by have := hne g hg; injection e with e; simp at e; omega)
              refine ⟨?_, ?_⟩
              · unfold PrsR
                rw [if_pos HE.out]
                refine ⟨A3, n3, c3, by rw [hpp, hp], by rw [hpi, hs]; exact hn3, ?_⟩
                rw [hpi, hs]
                exact own_lower (keep _ _ _ _ (by omega) (keep _ _ _ _ (by omega) (keep _ _ _ _ (by omega) ho3))) (by omega)
              · exact ((((HB1.out.trans (bb.mono (by omega))).trans (hbw.mono (by omega))).setCell (p := ⟨W1.heap.size, 1, none⟩) (by show w.heap.size ≤ W1.heap.size; omega) _).setCell (p := ⟨w.heap.size, 0, none⟩) (Nat.le_refl _) _).setCell (p := ⟨w.heap.size, 1, none⟩) (Nat.le_refl _) _
            have R3 := Lib.hid hr3
            have HWb := Lib.hid hWb
            clear hl0 h0 hpp hpi he hsl hML hcell hbb hy hodd ho ho2 hpy HDROP he2 hE PR3 hp hs hrun2' hr2 hnil2 hc2 hn2 hWb bb sb kb hr3 ho3 hb3 hn3 kw kr q5 q6
            go_upto_region 19 with (go_at_call 40; refine (PC _).out.mono ?_; rintro e w' ⟨rfl, rfl⟩)
            rw [HWb.out]
            go_region_law (refine step_app rfl (.tmp 63) (.tmp 66) rfl _ _ rfl rfl _ _ R3.out ?_)
            all_goals
              go_wp2
              exact bodyPost_ret (v := .tuple #[.agg #[.int .i64 y, .slice A3 n3 c3], .int .i64 0]) (by simp [results, Tryd.results23, go_sem, v0, v1]) rfl ⟨_, by rw [HE.out], FIN.out.1, FIN.out.2⟩
        · have ho2 : ¬ nOdd M = true := by rw [hodd]; simpa using ho
          have hm2 : (y % 2 == 0) = true := by simp; omega
          by_cases h1 : n5 = 1
          · have hl1 : M.length = 1 := by omega
            have hd1 : (n5 : Int) < 2 := by omega
            subst e5
            have hE : nE M pfc = 8 := by unfold nE; rw [if_neg hl0, if_neg ho2, if_pos hl1]
            have P3 := PR3 (by rw [he2, hE]; decide)
            have HE : Hid (pE l pfc acfc = 8) := he2.trans hE
            clear hl0 hl1 h0 h1 hpp hpi he hsl hML hcell hbb hy hodd ho ho2 HDROP he2 hE PR3
            go_wp2
            exact bodyPost_ret (v := .tuple #[.agg #[.int .i64 0, .slice none 0 0], .int .i64 8]) (by simp [results, Tryd.results23, go_sem, c0, c1]) rfl ⟨_, by rw [HE.out], P3.out _, (HB1.out.setCell (p := ⟨w.heap.size, 0, none⟩) (Nat.le_refl _) _).setCell (p := ⟨w.heap.size, 1, none⟩) (Nat.le_refl _) _⟩
          · have hl1 : ¬ M.length = 1 := by omega
            have hd1 : (2 : Int) ≤ (n5 : Int) := by omega
            obtain ⟨z, hz⟩ : ∃ z, z = byteAt M 1 := ⟨_, rfl⟩
            have k1 : W1.cell? ⟨b, o + 1, none⟩ = some (.int .u8 z) := by rw [hz]; exact hcell 1 (by omega)
            have zz0 : 0 ≤ z := by rw [hz]; exact byteAt_lo M 1
            have zz1 : z ≤ 255 := by rw [hz]; exact byteAt_hi M 1
            have ht : nTwo M = 256 * y + z := by unfold nTwo; rw [hy, hz]
            have n1' : 1 < n5 := by omega
            have PC := fun W => Lib.hid (rproto_any (256 * y + z) W)
            rcases hp0 : protoB (256 * y + z) with _ | _
            · rw [hp0] at PC
              subst e5
              have hE : nE M pfc = 30 := by unfold nE; rw [if_neg hl0, if_neg ho2, if_neg hl1, ht, hp0]; rfl
              have P3 := PR3 (by rw [he2, hE]; decide)
              have HE : Hid (pE l pfc acfc = 30) := he2.trans hE
              clear hl0 hl1 h0 h1 hpp hpi he hsl hML hcell hbb hy hodd ho ho2 ht hz hp0 HDROP he2 hE PR3
              go_wp2_with (go_at_call 40; refine (PC _).out.mono ?_; rintro e w' ⟨rfl, rfl⟩)
              exact bodyPost_ret (v := .tuple #[.agg #[.int .i64 0, .slice none 0 0], .int .i64 30]) (by simp [results, Tryd.results23, go_sem, c0, c1]) rfl ⟨_, by rw [HE.out], P3.out _, (HB1.out.setCell (p := ⟨w.heap.size, 0, none⟩) (Nat.le_refl _) _).setCell (p := ⟨w.heap.size, 1, none⟩) (Nat.le_refl _) _⟩
            · rw [hp0] at PC
              subst e5
              have hE : nE M pfc = 0 := by unfold nE; rw [if_neg hl0, if_neg ho2, if_neg hl1, ht, hp0]; rfl
              have hp : nP M = (256 * y + z) := by unfold nP; rw [if_neg ho2, ht]
              have hs : nS M = 2 := by unfold nS; rw [if_neg ho2]
              have HE : Hid (pE l pfc acfc = 0) := he2.trans hE
              obtain ⟨A2, c2, hrun2', hr2, hnil2, hc2⟩ := HDROP.out 2 (by omega)
              have hrun2 : ∀ W, (Instr.slice 22 (.slice (some ⟨b, o, none⟩) n5 c5) (some (.int .i64 2)) none none).run Tryd.prog W = .ok (.slice A2 (n5 - 2) c2) W := hrun2'
              obtain ⟨n2, hn2⟩ : ∃ n2, n2 = n5 - 2 := ⟨_, rfl⟩
              rw [← hn2] at hrun2 hr2
              obtain ⟨Wb, hWb⟩ : ∃ Wb, W1.alloc (.cells #[.int .i64 (256 * y + z), .slice none 0 0] 24) = Wb := ⟨_, rfl⟩
              have bb : Below W1.heap.size W1 Wb := by rw [← hWb]; exact (Below.refl _ _).alloc (Nat.le_refl _) _
              have sb : Wb.heap.size = W1.heap.size + 1 := by rw [← hWb]; simp
              have kb : Blk Wb W1.heap.size 24 [.int .i64 (256 * y + z), .slice none 0 0] := by rw [← hWb]; exact blk_new W1 _ _
              obtain ⟨A3, n3, c3, w3, hr3, ho3, hb3, hn3⟩ := rparse_app Wb.drew 0 0 A2 n2 c2 B (M.drop 2) (256 * y + z) ((hr2.below (bb.mono HBB.out)).drew) (by show B ≤ Wb.heap.size; have := HBB.out; omega) hnil2 (by omega)
              have sz3 : Wb.heap.size ≤ w3.heap.size := hb3.size
              have kw : Blk w3 W1.heap.size 24 [.int .i64 (256 * y + z), .slice none 0 0] := (hb3.block _ (by show W1.heap.size < Wb.heap.size; omega)).trans kb
              have kr : Blk w3 w.heap.size 24 [.int .i64 0, .slice none 0 0] := (hb3.block _ (by show w.heap.size < Wb.heap.size; omega)).trans ((bb.block _ z0).trans HK1.out)
              have b0 := kb.cell 0
              have b1 := kb.cell 1
              have d0 := kw.cell 0
              have d1 := kw.cell 1
              have df := kw.frozen 1
              have e0 := kr.cell 0
              have e1 := kr.cell 1
              have ef0 := kr.frozen 0
              have ef1 := kr.frozen 1
              have hneW : ¬ W1.heap.size = w.heap.size := by omega
              have hneW2 : ¬ w.heap.size = W1.heap.size := by omega
              have q5 : Blk (w3.setCell ⟨W1.heap.size, 1, none⟩ (.slice A3 n3 c3)) w.heap.size 24 [.int .i64 0, .slice none 0 0] := ((Below.heap_setCell w3 ⟨W1.heap.size, 1, none⟩ (.slice A3 n3 c3) w.heap.size (by show w.heap.size ≠ W1.heap.size; omega)).trans kr)
              have q6 := (q5.set_ 0 (.int .i64 (256 * y + z))).set_ 1 (.slice A3 n3 c3)
              have v0 := q6.cell 0
              have v1 := q6.cell 1
              have FIN : Hid (PrsR w (((w3.setCell ⟨W1.heap.size, 1, none⟩ (.slice A3 n3 c3)).setCell ⟨w.heap.size, 0, none⟩ (.int .i64 (256 * y + z))).setCell ⟨w.heap.size, 1, none⟩ (.slice A3 n3 c3)) (.agg #[.int .i64 (256 * y + z), .slice A3 n3 c3]) l pfc acfc ∧ Below w.heap.size w (((w3.setCell ⟨W1.heap.size, 1, none⟩ (.slice A3 n3 c3)).setCell ⟨w.heap.size, 0, none⟩ (.int .i64 (256 * y + z))).setCell ⟨w.heap.size, 1, none⟩ (.slice A3 n3 c3))) := by
                have hbw : Below Wb.heap.size Wb w3 := ⟨hb3.os, hb3.tape, hb3.output, hb3.size, fun i hi => hb3.block i hi⟩
                have hne : ∀ g, (Value.slice A3 n3 c3).ownBlock = some g → Wb.heap.size ≤ g := fun g hg => (ho3.block g hg).1
                have keep : ∀ (k i : Nat) (u : Value) (X : World), k < Wb.heap.size → Own X Wb.heap.size (.slice A3 n3 c3) (M.drop 2) → Own (X.setCell ⟨k, i, none⟩ u) Wb.heap.size (.slice A3 n3 c3) (M.drop 2) := fun k i u X hk h => by
                  refine h.grown (only_set _) ?_
                  rcases hg : (Value.slice A3 n3 c3).ownBlock with _ | g
                  · exact .inl rfl
                  · exact .inr (fun e => by have := hne g hg; injection e with e; simp at e; omega)
                refine ⟨?_, ?_⟩
                · unfold PrsR
                  rw [if_pos HE.out]
                  refine ⟨A3, n3, c3, by rw [hpp, hp], by rw [hpi, hs]; exact hn3, ?_⟩
                  rw [hpi, hs]
                  exact own_lower (keep _ _ _ _ (by omega) (keep _ _ _ _ (by omega) (keep _ _ _ _ (by omega) ho3))) (by omega)
                · exact ((((HB1.out.trans (bb.mono (by omega))).trans (hbw.mono (by omega))).setCell (p := ⟨W1.heap.size, 1, none⟩) (by show w.heap.size ≤ W1.heap.size; omega) _).setCell (p := ⟨w.heap.size, 0, none⟩) (Nat.le_refl _) _).setCell (p := ⟨w.heap.size, 1, none⟩) (Nat.le_refl _) _
              have R3 := Lib.hid hr3
              have HWb := Lib.hid hWb
              clear hl0 hl1 h0 h1 hpp hpi he hsl hML hcell hbb hy hodd ho ho2 ht hz hp0 HDROP he2 hE PR3 hp hs hrun2' hr2 hnil2 hc2 hn2 hWb bb sb kb hr3 ho3 hb3 hn3 kw kr q5 q6
              go_upto_region 19 with (go_at_call 40; refine (PC _).out.mono ?_; rintro e w' ⟨rfl, rfl⟩)
              rw [HWb.out]
              go_region_law (refine step_app rfl (.tmp 63) (.tmp 66) rfl _ _ rfl rfl _ _ R3.out ?_)
              all_goals
                go_wp2
                exact bodyPost_ret (v := .tuple #[.agg #[.int .i64 (256 * y + z), .slice A3 n3 c3], .int .i64 0]) (by simp [results, Tryd.results23, go_sem, v0, v1]) rfl ⟨_, by rw [HE.out], FIN.out.1, FIN.out.2⟩
end Go.Proofs.YtmdlpbgelgeiaaaDoor
