/-
  hdlc.Line: end: what a flag makes of what has come.
-/
import Derived.Test.YtmdlpbgelgeiaaaDoorHdJudge
namespace Go.Proofs.YtmdlpbgelgeiaaaDoor
open Go.RowKit
set_option maxRecDepth 100000
set_option maxHeartbeats 2000000
set_option linter.unusedSimpArgs false
set_option linter.unusedVariables false

theorem judge_any (b : Nat) (a : Int) (M : Nat) (p q : Bool) (hv : Value) (s : LSt) (A : Option Addr) (n c B : Nat) (l : List UInt8) (W : World) (h : LnAt W b a M p q hv s) (hr : Rd W B A n l) (hB : B ≤ W.heap.size) (hc : n ≤ c) (hn : 4 ≤ n) (hm : n ≤ 140737488355328) (hT : Tab16 W) :
    Calls Tryd.prog 54 #[.pointer (some ⟨b, 0, none⟩), .slice A n c] W fun e w' => JdR W w' b a M p q hv s l e := by
  by_cases hg : crc P16 65535 l = 61624
  · exact judge_read b a M p q hv s A n c B l W h hr hB hc hn hm hT hg
  · exact judge_sum b a M p q hv s A n c B l W h hr hB hc hn hm hT hg
def endS (M : Nat) (p q : Bool) (s : LSt) : LSt :=
  if s.opn = true then { rstS s with ab := inc s.ab } else if s.held.length = 0 then rstS s else if s.held.length < 4 then { rstS s with ru := inc s.ru } else if M < s.held.length then { rstS s with gi := inc s.gi } else jdS p q (rstS s) s.held
def endB (M : Nat) (p q : Bool) (s : LSt) : Bool := if s.opn = true ∨ s.held.length < 4 ∨ M < s.held.length then false else jdK p q s.held == 0
def EndR (w W : World) (b : Nat) (a : Int) (M : Nat) (p q : Bool) (hv : Value) (s : LSt) (e : Ending) : Prop :=
  ∃ z A m c hv', e = .returned (.tuple #[.agg #[.int .i64 z, .slice A m c], .bool (endB M p q s)]) ∧ LnAt W b a M p q hv' (endS M p q s) ∧ Trn b hv hv' w W ∧ (endB M p q s = true → FrR w W z A m c (frP s.held) (frI s.held) ∧ ∀ g, (Value.slice A m c).ownBlock = some g → w.heap.size ≤ g ∧ hv'.ownBlock ≠ some g)
theorem end_fin {W V : World} {b : Nat} {a : Int} {M : Nat} {p q : Bool} {hv hv' : Value} {s : LSt} (h : LnAt V b a M p q hv' s) (hT : Trn b hv hv' W V) (hb : b < W.heap.size) (ho : hv'.ownBlock ≠ some W.heap.size) (x y : Value) :
    LnAt ((V.setCell ⟨W.heap.size, 0, none⟩ x).setCell ⟨W.heap.size, 1, none⟩ y) b a M p q hv' s ∧ Trn b hv hv' W ((V.setCell ⟨W.heap.size, 0, none⟩ x).setCell ⟨W.heap.size, 1, none⟩ y) :=
  ⟨(h.other _ 0 x (by omega) ho).other _ 1 y (by omega) ho, (hT.fresh _ 0 x (Nat.le_refl _)).fresh _ 1 y (Nat.le_refl _)⟩
/-- behind Reset -/
structure RsJ (W w2 : World) (b : Nat) (a : Int) (M : Nat) (p q : Bool) (hv hv' : Value) (s : LSt) (A : Option Addr) (n : Nat) : Prop where
  ln : LnAt w2 b a M p q hv' (rstS s)
  tr : Trn b hv hv' W w2
  ob : hv'.ownBlock ≠ some W.heap.size
  rd : Rd w2 w2.heap.size A n s.held
  bk : Blk w2 W.heap.size 24 [.int .i64 0, .slice none 0 0]
  tb : Tab16 w2
  lt : W.heap.size < w2.heap.size

theorem RsJ.count {W w2 : World} {b : Nat} {a : Int} {M : Nat} {p q : Bool} {hv hv' : Value} {s s' : LSt} {A : Option Addr} {n : Nat} (J : RsJ W w2 b a M p q hv hv' s A n) (hb : b < W.heap.size) (i : Nat) (v : Value) (e : (lnT M p q hv' (rstS s)).set i v = lnT M p q hv' s') (hs : s'.held = []) (x y : Value) :
    LnAt (((w2.setCell ⟨b, 256 + i, none⟩ v).setCell ⟨W.heap.size, 0, none⟩ x).setCell ⟨W.heap.size, 1, none⟩ y) b a M p q hv' s' ∧ Trn b hv hv' W (((w2.setCell ⟨b, 256 + i, none⟩ v).setCell ⟨W.heap.size, 0, none⟩ x).setCell ⟨W.heap.size, 1, none⟩ y) :=
  end_fin (J.ln.put i v e (by rw [hs]; exact J.ln.own) (by rw [hs]; simp)) (J.tr.trans (Trn.set _ _ _ _ _)) hb J.ob x y
theorem end_any (b : Nat) (a : Int) (M : Nat) (p q : Bool) (hv : Value) (s : LSt) (W : World) (h : LnAt W b a M p q hv s) (hM : M ≤ 16390) (hT : Tab16 W) (hbb : 0 < b) :
    Calls Tryd.prog 51 #[.pointer (some ⟨b, 0, none⟩)] W fun e w' => EndR W w' b a M p q hv s e := by
  have zb := Blk.lt h.blk
  obtain ⟨W1, hW1⟩ : ∃ W1, W.alloc (.cells #[.int .i64 0, .slice none 0 0] 24) = W1 := ⟨_, rfl⟩
  have hs1 : W1.heap.size = W.heap.size + 1 := by rw [← hW1]; simp
  have hb1 : Below W.heap.size W W1 := by rw [← hW1]; exact (Below.refl _ _).alloc (Nat.le_refl _) _
  have hk1 : Blk W1 W.heap.size 24 [.int .i64 0, .slice none 0 0] := by rw [← hW1]; exact blk_new W _ _
  have hL1 := h.later hb1
  obtain ⟨A, n, c, hvf, hnl, hncc⟩ : ∃ A n d, hv = .slice A n d ∧ n = s.held.length ∧ n ≤ d := by
    rcases h.own.form with ⟨e, e2⟩ | ⟨g, cap, e, _, _, hc⟩
    · exact ⟨_, _, _, e, by rw [e2]; rfl, Nat.le_refl _⟩
    · exact ⟨_, _, _, e, rfl, hc⟩
  have RC : Hid (∀ k, Calls Tryd.prog 27 #[.pointer (some ⟨b, 0, none⟩)] (W1.drewN k) fun e w2 => ∃ hv', e = .returned (.tuple #[]) ∧ Hid (RsJ W w2 b a M p q hv hv' s A n)) := by
    show ∀ k, _
    intro k
    refine (reset_any b a M p q hv s (W1.drewN k) (hL1.drewN k)).mono ?_
    rintro e w2 ⟨hv', rfl, h2, t2, g2, o2⟩
    have hlt : W.heap.size < W1.heap.size := by omega
    refine ⟨hv', rfl, h2, ?_, ?_, ?_, ?_, ?_, ?_⟩
    · exact (Trn.below hv (below_drewN hb1 k)).trans t2
    · intro e
      rw [o2] at e
      have := (h.own.block _ e).2
      omega
    · have hrd : Rd W1 W1.heap.size A n s.held := by
        rcases h.own.form with ⟨e, e2⟩ | ⟨g, cap, e, _, _, hc⟩
        · rw [hvf] at e; cases e; rw [e2]; exact Rd.nil
        · rw [hvf] at e
          injection e with e1 e2 e3
          subst e1
          have h1 := hL1.own
          rw [hvf] at h1
          have := h1.rd hnl n (Nat.le_refl _)
          rw [hnl, List.take_length, ← hnl] at this
          exact this
      have hrd2 : Rd (W1.drewN k) W1.heap.size A n s.held := hrd.drewN k
      refine ⟨hrd2.1, fun h0 => ?_⟩
      obtain ⟨b', o', e, hlt', hcell⟩ := hrd2.2 h0
      have hb' : b' ≠ b := by
        intro eb
        rcases h.own.form with ⟨e', e2⟩ | ⟨g, cap, e', hg, _, _⟩
        · rw [e2] at hnl; simp at hnl; omega
        · rw [hvf, e] at e'
          injection e' with e1
          injection e1 with e1
          injection e1 with e1
          omega
      refine ⟨b', o', e, by have := g2.size; simp [World.drewN] at this; omega, fun j hj => ?_⟩
      exact (World.cell?_of_block (a := ⟨b', o' + j, none⟩) (g2.block b' (by simp [World.drewN]; omega) (by simpa using hb'))).trans (hcell j hj)
    · exact (g2.block _ (by simp [World.drewN]; omega) (by simp; omega)).trans hk1
    · exact ((hT.kept hb1).drewN k).grown g2 (fun q e => by cases e; exact hbb)
    · have := g2.size
      simp [World.drewN] at this
      omega
  have c256 : W1.cell? ⟨b, 256, none⟩ = some (.int .i64 M) := hL1.cell 0
  have c259 : W1.cell? ⟨b, 259, none⟩ = some hv := hL1.cell 3
  have c261 : W1.cell? ⟨b, 261, none⟩ = some (.bool s.opn) := hL1.cell 5
  have z0 : W.heap.size < W1.heap.size := by omega
  have HW1 := Lib.hid hW1
  have hne : ¬ W.heap.size = b := by omega
  have hne2 : ¬ b = W.heap.size := by omega
  rcases ho : s.opn with _ | _
  · have hso : ¬ s.opn = true := by rw [ho]; decide
    rw [ho] at c261
    by_cases h0 : n = 0
    · -- nothing has come
      have eS : endS M p q s = rstS s := by unfold endS; rw [if_neg hso, if_pos (by omega)]
      have eB : endB M p q s = false := by unfold endB; rw [if_pos (.inr (.inl (by omega)))]
      have FIN : Hid (∀ hv' w2, Hid (RsJ W w2 b a M p q hv hv' s A n) → EndR W ((w2.setCell ⟨W.heap.size, 0, none⟩ (.int .i64 0)).setCell ⟨W.heap.size, 1, none⟩ (.slice none 0 0)) b a M p q hv s (.returned (.tuple #[.agg #[.int .i64 0, .slice none 0 0], .bool false]))) := by
        show ∀ hv' w2, _
        intro hv' w2 J
        obtain ⟨y1, y2⟩ := end_fin J.out.ln J.out.tr zb J.out.ob (.int .i64 0) (.slice none 0 0)
        exact ⟨0, none, 0, 0, hv', by rw [eB], by rw [eS]; exact y1, y2, fun e => by rw [eB] at e; cases e⟩
      subst hvf
      have hd0 : ((n : Int) == 0) = true := by simp; omega
      clear eS eB hso ho h hL1 hb1 hk1 hs1 hW1 hT hnl h0
      go_enter Tryd.func51, Tryd.ntmps51
      go_upto_region 1 with (fail)
      rw [HW1.out]
      go_quiet (fail)
      rename Nat => nq
      go_wp2_with (go_at_call 27; refine (RC.out nq).mono ?_; rintro e w2 ⟨hv', rfl, HJ⟩; have x0 := HJ.out.bk.cell 0; have x1 := HJ.out.bk.cell 1; have f0 := HJ.out.bk.frozen 0; have f1 := HJ.out.bk.frozen 1)
      exact bodyPost_ret (v := .tuple #[.agg #[.int .i64 0, .slice none 0 0], .bool false]) (by simp [results, Tryd.results51, go_sem, x0, x1]) rfl (FIN.out _ _ HJ)
    · have hd0 : ((n : Int) == 0) = false := by simp; omega
      by_cases h4 : n < 4
      · have hd4 : (n : Int) < 4 := by omega
        have hlen0 : ¬ s.held.length = 0 := by omega
        have hlen4 : s.held.length < 4 := by omega
        have eS : endS M p q s = { rstS s with ru := inc s.ru } := by unfold endS; rw [if_neg hso, if_neg hlen0, if_pos hlen4]
        have eB : endB M p q s = false := by unfold endB; rw [if_pos (.inr (.inl hlen4))]
        have FIN : Hid (∀ hv' w2, Hid (RsJ W w2 b a M p q hv hv' s A n) → EndR W (((w2.setCell ⟨b, 263, none⟩ (.int .i64 (wrap64 (s.ru + 1)))).setCell ⟨W.heap.size, 0, none⟩ (.int .i64 0)).setCell ⟨W.heap.size, 1, none⟩ (.slice none 0 0)) b a M p q hv s (.returned (.tuple #[.agg #[.int .i64 0, .slice none 0 0], .bool false]))) := by
          show ∀ hv' w2, _
          intro hv' w2 J
          obtain ⟨y1, y2⟩ := J.out.count (s' := { rstS s with ru := inc s.ru }) zb 7 (.int .i64 (wrap64 (s.ru + 1))) rfl rfl (.int .i64 0) (.slice none 0 0)
          exact ⟨0, none, 0, 0, hv', by rw [eB], by rw [eS]; exact y1, y2, fun e => by rw [eB] at e; cases e⟩
        subst hvf
        clear eS eB hso ho hlen0 hlen4 h0 h4 h hL1 hb1 hk1 hs1 hW1 hT hnl
        go_enter Tryd.func51, Tryd.ntmps51
        go_upto_region 1 with (fail)
        rw [HW1.out]
        go_quiet (fail)
        rename Nat => nq
        go_wp2_with (go_at_call 27; refine (RC.out nq).mono ?_; rintro e w2 ⟨hv', rfl, HJ⟩; have cc : w2.cell? ⟨b, 263, none⟩ = some (.int .i64 s.ru) := HJ.out.ln.cell 7; have cM : w2.cell? ⟨b, 256, none⟩ = some (.int .i64 M) := HJ.out.ln.cell 0; have fc := HJ.out.ln.blk.frozen 263; have x0 := HJ.out.bk.cell 0; have x1 := HJ.out.bk.cell 1; have f0 := HJ.out.bk.frozen 0; have f1 := HJ.out.bk.frozen 1)
        exact bodyPost_ret (v := .tuple #[.agg #[.int .i64 0, .slice none 0 0], .bool false]) (by simp [results, Tryd.results51, go_sem, x0, x1]) rfl (FIN.out _ _ HJ)
      · have hd4 : (4 : Int) ≤ (n : Int) := by omega
        by_cases hg : M < n
        · have hdM : decide (M < n) = true := by simp; omega
          have hlen0 : ¬ s.held.length = 0 := by omega
          have hlen4 : ¬ s.held.length < 4 := by omega
          have hlenM : M < s.held.length := by omega
          have eS : endS M p q s = { rstS s with gi := inc s.gi } := by unfold endS; rw [if_neg hso, if_neg hlen0, if_neg hlen4, if_pos hlenM]
          have eB : endB M p q s = false := by unfold endB; rw [if_pos (.inr (.inr hlenM))]
          have FIN : Hid (∀ hv' w2, Hid (RsJ W w2 b a M p q hv hv' s A n) → EndR W (((w2.setCell ⟨b, 264, none⟩ (.int .i64 (wrap64 (s.gi + 1)))).setCell ⟨W.heap.size, 0, none⟩ (.int .i64 0)).setCell ⟨W.heap.size, 1, none⟩ (.slice none 0 0)) b a M p q hv s (.returned (.tuple #[.agg #[.int .i64 0, .slice none 0 0], .bool false]))) := by
            show ∀ hv' w2, _
            intro hv' w2 J
            obtain ⟨y1, y2⟩ := J.out.count (s' := { rstS s with gi := inc s.gi }) zb 8 (.int .i64 (wrap64 (s.gi + 1))) rfl rfl (.int .i64 0) (.slice none 0 0)
            exact ⟨0, none, 0, 0, hv', by rw [eB], by rw [eS]; exact y1, y2, fun e => by rw [eB] at e; cases e⟩
          subst hvf
          clear eS eB hso ho hlen0 hlen4 hlenM h0 h4 h hL1 hb1 hk1 hs1 hW1 hT hnl
          go_enter Tryd.func51, Tryd.ntmps51
          go_upto_region 1 with (fail)
          rw [HW1.out]
          go_quiet (fail)
          rename Nat => nq
          go_wp2_with (go_at_call 27; refine (RC.out nq).mono ?_; rintro e w2 ⟨hv', rfl, HJ⟩; have cc : w2.cell? ⟨b, 264, none⟩ = some (.int .i64 s.gi) := HJ.out.ln.cell 8; have cM : w2.cell? ⟨b, 256, none⟩ = some (.int .i64 M) := HJ.out.ln.cell 0; have fc := HJ.out.ln.blk.frozen 264; have x0 := HJ.out.bk.cell 0; have x1 := HJ.out.bk.cell 1; have f0 := HJ.out.bk.frozen 0; have f1 := HJ.out.bk.frozen 1)
          exact bodyPost_ret (v := .tuple #[.agg #[.int .i64 0, .slice none 0 0], .bool false]) (by simp [results, Tryd.results51, go_sem, x0, x1]) rfl (FIN.out _ _ HJ)
        · have hdM : decide (M < n) = false := by simp; omega
          have hlen0 : ¬ s.held.length = 0 := by omega
          have hlen4 : ¬ s.held.length < 4 := by omega
          have hlenM : ¬ M < s.held.length := by omega
          have eS : endS M p q s = jdS p q (rstS s) s.held := by unfold endS; rw [if_neg hso, if_neg hlen0, if_neg hlen4, if_neg hlenM]
          have eB : endB M p q s = (jdK p q s.held == 0) := by unfold endB; rw [if_neg (by rintro (e | e | e); exact hso e; exact hlen4 e; exact hlenM e)]
          have JC : Hid (∀ hv' w2, Hid (RsJ W w2 b a M p q hv hv' s A n) → Calls Tryd.prog 54 #[.pointer (some ⟨b, 0, none⟩), .slice A n c] w2 fun e w3 => ∃ z A3 m3 c3, e = .returned (.tuple #[.agg #[.int .i64 z, .slice A3 m3 c3], .bool (jdK p q s.held == 0)]) ∧ Blk w3 W.heap.size 24 [.int .i64 0, .slice none 0 0] ∧ Hid (EndR W ((w3.setCell ⟨W.heap.size, 0, none⟩ (.int .i64 z)).setCell ⟨W.heap.size, 1, none⟩ (.slice A3 m3 c3)) b a M p q hv s (.returned (.tuple #[.agg #[.int .i64 z, .slice A3 m3 c3], .bool (jdK p q s.held == 0)])))) := by
            show ∀ hv' w2, _
            intro hv' w2 J
            have J := J.out
            refine (judge_any b a M p q hv' (rstS s) A n c w2.heap.size s.held w2 J.ln J.rd (Nat.le_refl _) hncc (by omega) (by omega) J.tb).mono ?_
            rintro e w3 ⟨z, A3, m3, c3, rfl, h3, t3, y3, _⟩
            obtain ⟨u1, u2⟩ := end_fin h3 (J.tr.trans t3) zb J.ob (.int .i64 z) (.slice A3 m3 c3)
            refine ⟨z, A3, m3, c3, rfl, (t3.block _ J.lt (by omega) J.ob).trans J.bk, ?_⟩
            refine ⟨z, A3, m3, c3, hv', by rw [eB], by rw [eS]; exact u1, u2, fun e => ?_⟩
            rw [eB] at e
            have e0 : jdK p q s.held = 0 := by simpa using e
            refine ⟨(((y3 e0).other W.heap.size 0 _ J.lt).other W.heap.size 1 _ J.lt).lower (Nat.le_of_lt J.lt), fun g hg => ?_⟩
            have g1 := ((y3 e0).2.2.block g hg).1
            have g2 := J.lt
            exact ⟨by omega, fun e => by have := (J.ln.own.block g e).2; omega⟩
          obtain ⟨BB, hBB⟩ : ∃ B, B = (jdK p q s.held == 0) := ⟨_, rfl⟩
          rw [← hBB] at JC
          subst hvf
          clear eS eB hso ho hlen0 hlen4 hlenM h0 h4 hg h hL1 hb1 hk1 hs1 hW1 hT hnl hBB
          go_enter Tryd.func51, Tryd.ntmps51
          go_upto_region 1 with (fail)
          rw [HW1.out]
          go_quiet (fail)
          rename Nat => nq
          go_wp2_with (first
            | (go_at_call 27; refine (RC.out nq).mono ?_; rintro e w2 ⟨hv', rfl, HJ⟩; have cM : w2.cell? ⟨b, 256, none⟩ = some (.int .i64 M) := HJ.out.ln.cell 0; have JC2 := Lib.hid (JC.out _ _ HJ))
            | (go_at_call 54; refine JC2.out.mono ?_; rintro e w3 ⟨z, A3, m3, c3, rfl, k3, FIN⟩; have x0 := k3.cell 0; have x1 := k3.cell 1; have f0 := k3.frozen 0; have f1 := k3.frozen 1; have z3 := Blk.lt k3))
          exact bodyPost_ret (v := .tuple #[.agg #[.int .i64 z, .slice A3 m3 c3], .bool BB]) (by simp [results, Tryd.results51, go_sem, x0, x1]) rfl FIN.out
  · rw [ho] at c261
    have eS : endS M p q s = { rstS s with ab := inc s.ab } := by unfold endS; rw [if_pos ho]
    have eB : endB M p q s = false := by unfold endB; rw [if_pos (.inl ho)]
    have FIN : Hid (∀ hv' w2, Hid (RsJ W w2 b a M p q hv hv' s A n) → EndR W (((w2.setCell ⟨b, 266, none⟩ (.int .i64 (wrap64 (s.ab + 1)))).setCell ⟨W.heap.size, 0, none⟩ (.int .i64 0)).setCell ⟨W.heap.size, 1, none⟩ (.slice none 0 0)) b a M p q hv s (.returned (.tuple #[.agg #[.int .i64 0, .slice none 0 0], .bool false]))) := by
      show ∀ hv' w2, _
      intro hv' w2 J
      obtain ⟨y1, y2⟩ := J.out.count (s' := { rstS s with ab := inc s.ab }) zb 10 (.int .i64 (wrap64 (s.ab + 1))) rfl rfl (.int .i64 0) (.slice none 0 0)
      exact ⟨0, none, 0, 0, hv', by rw [eB], by rw [eS]; exact y1, y2, fun e => by rw [eB] at e; cases e⟩
    subst hvf
    clear eS eB ho h hL1 hb1 hk1 hs1 hW1 hT hnl
    go_enter Tryd.func51, Tryd.ntmps51
    go_upto_region 1 with (fail)
    rw [HW1.out]
    go_quiet (fail)
    rename Nat => nq
    go_wp2_with (go_at_call 27; refine (RC.out nq).mono ?_; rintro e w2 ⟨hv', rfl, HJ⟩; have cc : w2.cell? ⟨b, 266, none⟩ = some (.int .i64 s.ab) := HJ.out.ln.cell 10; have cM : w2.cell? ⟨b, 256, none⟩ = some (.int .i64 M) := HJ.out.ln.cell 0; have fc := HJ.out.ln.blk.frozen 266; have x0 := HJ.out.bk.cell 0; have x1 := HJ.out.bk.cell 1; have f0 := HJ.out.bk.frozen 0; have f1 := HJ.out.bk.frozen 1)
    exact bodyPost_ret (v := .tuple #[.agg #[.int .i64 0, .slice none 0 0], .bool false]) (by simp [results, Tryd.results51, go_sem, x0, x1]) rfl (FIN.out _ _ HJ)
end Go.Proofs.YtmdlpbgelgeiaaaDoor
