/-
  tetherlaw04.blocks: what Blocks tells, up to some.
-/
import Derived.Test.YtnlhjlmjbmaipaaDoorMdDig
import Derived.Test.YtnlhjlmjbmaipaaDoorMdBlocks
namespace Go.Proofs.YtnlhjlmjbmaipaaDoor
open Go.RowKit Go.Shelf
set_option maxRecDepth 100000
set_option maxHeartbeats 4000000
set_option linter.unusedSimpArgs false
set_option linter.unusedVariables false
attribute [local go_sem] Oper.semAt_some

def CollJ (w W0 : World) (mb lb k : Nat) (pre : List W4) (W : World) : Prop :=
  ∃ lv, Blk W lb 34 [lv] ∧ OwnD W W0.heap.size lv pre ∧ Blk W mb 3 [.int .i64 k] ∧ Below w.heap.size w W ∧ W0.heap.size ≤ W.heap.size
theorem collJ_own (w W0 : World) (mb lb k : Nat) (hw : w.heap.size ≤ W0.heap.size) : OwnFrom W0.heap.size (CollJ w W0 mb lb k) := by
  intro pre X Y row hs hg hr
  obtain ⟨lv, h1, h2, h3, h4, h5⟩ := hs
  have hr2 : ∀ r, row = some r → ∃ o : Obj, X.heap[r]? = some o ∧ o.isCells = false := fun r e => (hr r e).2
  exact ⟨lv, blk_own lb _ (fun (_ : Unit) => [lv]) () X Y row h1 hg hr2, h2.rowKept hg hr2, blk_own mb _ (fun (_ : Unit) => [.int .i64 k]) () X Y row h3 hg hr2, h4.grown hg (Nat.le_trans hw h5) (fun r e => Nat.le_trans hw (hr r e).1), Nat.le_trans h5 hg.size⟩
def CollI (w W0 : World) (mb lb k : Nat) (pre : List W4) (W : World) : Prop := CollJ w W0 mb lb k pre W ∧ pre.length < k
def CollX (w W0 : World) (mb lb k : Nat) (c : Code) (pre : List W4) (W : World) : Prop := CollJ w W0 mb lb k pre W ∧ pre.length = k ∧ c = .exit 0
theorem collI_own (w W0 : World) (mb lb k : Nat) (hw : w.heap.size ≤ W0.heap.size) : OwnFrom W0.heap.size (CollI w W0 mb lb k) := fun pre X Y row hs hg hr => ⟨collJ_own w W0 mb lb k hw pre X Y row hs.1 hg hr, hs.2⟩
theorem collX_own (w W0 : World) (mb lb k : Nat) (hw : w.heap.size ≤ W0.heap.size) (c : Code) : OwnFrom W0.heap.size (CollX w W0 mb lb k c) := fun pre X Y row hs hg hr => ⟨collJ_own w W0 mb lb k hw pre X Y row hs.1 hg hr, hs.2⟩
/-- a round: one digest more -/
theorem coll_round {w W W0 W2 : World} {mb lb k : Nat} {pre : List W4} {x : W4} {lv v2 v : Value}
    (h1 : Blk W lb 34 [lv]) (h3 : Blk W mb 3 [.int .i64 k]) (h4 : Below w.heap.size w W) (h5 : W0.heap.size ≤ W.heap.size) (hw : w.heap.size ≤ W0.heap.size)
    (ho0 : OwnD W W0.heap.size lv pre) (ho : OwnD W2 W0.heap.size v2 (pre ++ [x])) (hg : (W.alloc (.cells (partB x 16).toArray 31)).grownBy W2 lv.ownBlock) (hv2 : v2.ownBlock = lv.ownBlock ∨ v2.ownBlock = some (W.heap.size + 1))
    (hlb : w.heap.size ≤ lb) (hlb0 : lb < W0.heap.size) (hmb0 : mb < W0.heap.size) (hml : mb ≠ lb) (hv : ∀ i, v.ownBlock = some i → i < w.heap.size) :
    KeepsFrom W0.heap.size W (W2.setCell ⟨lb, 0, none⟩ v2) ∧ KeepV v W (W2.setCell ⟨lb, 0, none⟩ v2) ∧ CollJ w W0 mb lb k (pre ++ [x]) (W2.setCell ⟨lb, 0, none⟩ v2) := by
  have hlv : ∀ i, lv.ownBlock = some i → W0.heap.size ≤ i := fun i e => (ho0.block i e).1
  have hs2 := hg.size
  rw [World.size_alloc] at hs2
  have hset : W2.grownBy (W2.setCell ⟨lb, 0, none⟩ v2) (some lb) := only_set _
  have hs3 := hset.size
  have hal : W.grownBy (W.alloc (.cells (partB x 16).toArray 31)) none := World.grownBy_alloc _ _ _
  have stay : ∀ i, i < W.heap.size → i ≠ lb → lv.ownBlock ≠ some i → (W2.setCell ⟨lb, 0, none⟩ v2).heap[i]? = W.heap[i]? := by
    intro i hi h1 h2
    rw [hset.block i (by omega) (by intro e; injection e with e; exact h1 e), hg.block i (by rw [World.size_alloc]; omega) (fun e => h2 e.symm), hal.block i hi (by simp)]
  have hlb2 : Blk W2 lb 34 [lv] := (hg.block lb (by rw [World.size_alloc]; omega) (fun e => by have := hlv _ e.symm; omega)).trans ((hal.block lb (by omega) (by simp)).trans h1)
  have hbS := Blk.set_ hlb2 0 v2
  refine ⟨⟨by omega, fun i o hi ho' hc => ?_⟩, ⟨by omega, fun i e => stay i (by have := hv i e; omega) (by have := hv i e; omega) (fun e' => by have := hlv _ e'; have := hv i e; omega)⟩, v2, hbS, ho.grown hset (.inr ?_), ?_, ?_, by omega⟩
  · have hlt := (Array.getElem?_eq_some_iff.1 ho').1
    rw [stay i hlt (by omega) (fun e => ?_), ho']
    obtain ⟨o2, h2, h3⟩ := ho0.heap i e
    rw [ho'] at h2
    cases h2
    rw [hc] at h3
    cases h3
  · intro e
    rcases hv2 with e' | e'
    · have := hlv lb (e'.symm.trans e)
      omega
    · rw [e'] at e
      injection e with e
      omega
  · exact (stay mb (by omega) hml (fun e => by have := hlv _ e; omega)).trans h3
  · refine ⟨by rw [hset.os, hg.os, hal.os, h4.os], by rw [hset.tape, hg.tape, hal.tape, h4.tape], by rw [hset.output, hg.output, hal.output, h4.output], by have := h4.size; omega, fun i hi => ?_⟩
    rw [stay i (by omega) (by omega) (fun e => by have := hlv _ e; omega), h4.block i hi]
theorem func_eq_nil2 (W : World) (g : Nat) (lb : Array Value) : (binOp .eql 60 (.func (.func g) #[] lb) .nilFunc).run Tryd.prog W = .ok (.bool false) W := by kernel_rfl
theorem lawblocks_any (base g n k : Nat) (vs : List W4) (rest : List UInt8) (v : Value) (w : World) (h : St w base g vs rest n v) (hk : 1 ≤ k) (hkm : k ≤ 140737488355000) (hm : 16 * (vs.length + 1) ≤ 140737488355328) :
    Calls Tryd.prog 15 #[.pointer (some ⟨g, 0, none⟩), .int .i64 k] w fun e w' => ∃ d, e = .returned d ∧ OwnD w' w.heap.size d (vs.take k) ∧ Below w.heap.size w w' := by
  have hgl := Blk.lt h.blk
  have hvb := h.ownB
  obtain ⟨W1, hW1⟩ : ∃ W1, W1 = (w.alloc (.cells #[.int .i64 k] 3)).alloc (.cells #[.slice none 0 0] 34) := ⟨_, rfl⟩
  have hs1 : W1.heap.size = w.heap.size + 2 := by rw [hW1]; simp
  have hB1 : Below w.heap.size w W1 := by rw [hW1]; exact ((Below.refl _ _).alloc (Nat.le_refl _) _).alloc (by simp) _
  have hsl : ∃ A n c, v = .slice A n c := by
    rcases h.own.form with ⟨e, _⟩ | ⟨_, cap, e, _⟩
    · exact ⟨_, _, _, e⟩
    · exact ⟨_, _, _, e⟩
  have h1 := h.later hB1
  have SA := Lib.hid (sblocks_any g n W1 v (h1.slice) hsl (by omega))
  rw [hW1] at SA
  obtain ⟨W0, hW0⟩ : ∃ W0, W0 = W1.alloc (.cells #[v] 41) := ⟨_, rfl⟩
  have hs0 : W0.heap.size = w.heap.size + 3 := by rw [hW0, World.size_alloc]; omega
  have hB0 : Below w.heap.size w W0 := by rw [hW0]; exact hB1.alloc (by omega) _
  have hl0 : Blk W0 (w.heap.size + 1) 34 [.slice none 0 0] := by
    rw [hW0, hW1]
    have h := blk_new (w.alloc (.cells #[.int .i64 k] 3)) 34 [.slice none 0 0]
    rw [World.size_alloc] at h
    exact (Below.heap_alloc _ _ _ (by simp)).trans h
  have hm0 : Blk W0 w.heap.size 3 [.int .i64 k] := by
    rw [hW0, hW1]
    exact (Below.heap_alloc _ _ _ (by simp; omega)).trans ((Below.heap_alloc _ _ _ (by simp)).trans (blk_new w 3 [.int .i64 k]))
  have hb0 : W0.cell? ⟨w.heap.size + 1 + 1, 0, none⟩ = some v := by
    have h := (blk_new W1 41 [v]).cell 0
    rw [hs1] at h
    rw [hW0]
    exact h
  have ho0 : OwnW W0 base v vs := (h.later hB0).own
  have hok := h.ok
  have HI0 : Hid (CollI w W0 w.heap.size (w.heap.size + 1) k [] W0) := ⟨⟨_, hl0, World.ownsRow_nil _ _ _ _, hm0, hB0, Nat.le_refl _⟩, hk⟩
  have HB0 := Lib.hid hB0
  have HW0 := Lib.hid hW0
  rw [hW1] at HW0
  have HVB := Lib.hid hvb
  clear h h1 hB1 hW1 hl0 hm0 hB0 hW0 hvb
  have hs0a : w.heap.size + 3 ≤ W0.heap.size := by omega
  have hs0b : W0.heap.size ≤ w.heap.size + 3 := by omega
  clear hs0 hs1
  have FE := func_eq_nil2
  refine (callsIn_wide (n := 10)).1 ?_
  refine callsIn_of_wp_marks Tryd.func15 rfl trivial ?_ rfl
  simp only [Tryd.ntmps15, List.size_toArray, List.length_cons, List.length_nil, Nat.reduceAdd, Nat.reduceSub, Array.replicate_succ, Array.replicate_zero, List.push_toArray, List.append_toArray, List.nil_append, List.cons_append]
  gi_wp2_with (refine ⟨trivial, ?_⟩; gi_at_call 27; refine (callsIn_wide.2 SA.out).mono ?_; rintro e w' ⟨rfl, rfl⟩)
  rw [← HW0.out]
  refine wpIn_rangeFunc_ownH rfl (by omega) (gf := 39) (lb := #[.pointer (some ⟨w.heap.size + 1 + 1, 0, none⟩)]) rfl trivial (enters_of Tryd.func39 (by kernel_rfl) rfl)
    (sblocks_stops 9 (by omega) (w.heap.size + 1 + 1) base v vs W0 hb0 (by omega) ho0 hok (by omega)) KeepV.trans (keepV_b (fun i e => by have := HVB.out i e; omega)) (Below.refl _ _) (fun x => rfl)
    (CollI w W0 w.heap.size (w.heap.size + 1) k)
    (CollX w W0 w.heap.size (w.heap.size + 1) k)
    (collI_own _ _ _ _ _ (by omega))
    (fun c => collX_own _ _ _ _ _ (by omega) c)
    HI0.out
    (fun x a' W => ∃ Bx, W0.heap.size ≤ Bx ∧ Blk W Bx 31 (partB x 16) ∧ a' = { tmps := #[.pointer (some ⟨g, 0, none⟩), .int .i64 k, undef, .pointer (some ⟨w.heap.size, 0, none⟩), .slice none 0 0, .pointer (some ⟨w.heap.size + 1, 0, none⟩), .func (.func 39) #[] #[.pointer (some ⟨w.heap.size + 1 + 1, 0, none⟩)], .pointer (some ⟨Bx, 0, none⟩), .pointer (some ⟨g, 0, none⟩), .func (.func 39) #[] #[.pointer (some ⟨w.heap.size + 1 + 1, 0, none⟩)], .func (.func 39) #[] #[.pointer (some ⟨w.heap.size + 1 + 1, 0, none⟩)], .bool false, .func (.func 39) #[] #[.pointer (some ⟨w.heap.size + 1 + 1, 0, none⟩)], .agg (partB x 16).toArray, undef, undef, undef, undef, undef, undef, undef, undef, undef], defers := [] })
    (fun x a' _ X Y row hs hg hr => by obtain ⟨Bx, h1, h2, h3⟩ := hs; exact ⟨Bx, h1, blk_own Bx _ (fun (_ : Unit) => partB x 16) () X Y row h2 hg (fun r e => (hr r e).2), h3⟩)
    ?assign ?body ?done ?stop
  case assign =>
    rintro lp pre x W K hi hK
    have hsz : W0.heap.size ≤ W.heap.size := by obtain ⟨⟨lv, _, _, _, _, h5⟩, _⟩ := hi; exact h5
    have hal : W.grownBy (W.alloc (.cells (partB x 16).toArray 31)) none := World.grownBy_alloc _ _ _
    have HI := Lib.hid (collI_own w W0 w.heap.size (w.heap.size + 1) k (by omega) pre W _ none hi hal (fun r e => by cases e))
    rw [cellsB_eq] at hal HI
    have HK := Lib.hid (hK { tmps := #[.pointer (some ⟨g, 0, none⟩), .int .i64 k, undef, .pointer (some ⟨w.heap.size, 0, none⟩), .slice none 0 0, .pointer (some ⟨w.heap.size + 1, 0, none⟩), .func (.func 39) #[] #[.pointer (some ⟨w.heap.size + 1 + 1, 0, none⟩)], .pointer (some ⟨W.heap.size, 0, none⟩), .pointer (some ⟨g, 0, none⟩), .func (.func 39) #[] #[.pointer (some ⟨w.heap.size + 1 + 1, 0, none⟩)], .func (.func 39) #[] #[.pointer (some ⟨w.heap.size + 1 + 1, 0, none⟩)], .bool false, .func (.func 39) #[] #[.pointer (some ⟨w.heap.size + 1 + 1, 0, none⟩)], .agg (cellsB x).toArray, undef, undef, undef, undef, undef, undef, undef, undef, undef], defers := [] } (W.alloc (.cells (cellsB x).toArray 31)) ((KeepsOthers.alloc _ _).from _)
      ⟨by simp, fun i e => Below.heap_alloc _ _ _ (by have := HVB.out i e; omega)⟩ HI.out ⟨W.heap.size, hsz, blk_new W 31 (cellsB x), rfl⟩)
    clear hK hi HI hal
    unfold cellsB at HK
    rw [show encW x = #[.agg (cellsB x).toArray] from rfl]
    unfold cellsB
    gi_wp2
    exact HK.out
  case body =>
    rintro lp pre x a' W hlp ⟨rr, hrr⟩ ⟨⟨lv, h1, h2, h3, h4, h5⟩, hpk⟩ ⟨Bx, hBx2, hX, rfl⟩ hlt
    obtain ⟨v2, W2, hrun, ho2, hg2, hv2, A2, c2, hv2e⟩ := digs_run (w := W) h2 x (by omega) h5
    have RD := coll_round (v := v) h1 h3 h4 h5 (by omega) h2 ho2 hg2 hv2 (by omega) (by omega) (by omega) (by omega) (fun i e => (HVB.out i e).2)
    obtain ⟨A1, n1, c1, hv1e⟩ : ∃ A1 n1 c1, lv = .slice A1 n1 c1 := by
      rcases h2.form with ⟨e, _⟩ | ⟨g', cap, e, _⟩
      · exact ⟨_, _, _, e⟩
      · exact ⟨_, _, _, e⟩
    have hlb2 : Blk W2 (w.heap.size + 1) 34 [lv] := (hg2.block _ (by rw [World.size_alloc]; omega) (fun e => by have := (h2.block _ e.symm).1; omega)).trans ((Below.heap_alloc _ _ _ (by omega)).trans h1)
    have hmb2 : Blk W2 w.heap.size 3 [.int .i64 k] := (hg2.block _ (by rw [World.size_alloc]; omega) (fun e => by have := (h2.block _ e.symm).1; omega)).trans ((Below.heap_alloc _ _ _ (by omega)).trans h3)
    subst hv1e hv2e
    have b := fun j (hj : j < 16) => (hX.cell j).trans (partB_at x j hj)
    have b0 := b 0 (by omega)
    have b1 := b 1 (by omega)
    have b2 := b 2 (by omega)
    have b3 := b 3 (by omega)
    have b4 := b 4 (by omega)
    have b5 := b 5 (by omega)
    have b6 := b 6 (by omega)
    have b7 := b 7 (by omega)
    have b8 := b 8 (by omega)
    have b9 := b 9 (by omega)
    have b10 := b 10 (by omega)
    have b11 := b 11 (by omega)
    have b12 := b 12 (by omega)
    have b13 := b 13 (by omega)
    have b14 := b 14 (by omega)
    have b15 := b 15 (by omega)
    have l0 : W.cell? ⟨w.heap.size + 1, 0, none⟩ = some (.slice A1 n1 c1) := h1.cell 0
    have l2 : W2.cell? ⟨w.heap.size + 1, 0, none⟩ = some (.slice A1 n1 c1) := hlb2.cell 0
    have lf2 : W2.frozen? ⟨w.heap.size + 1, 0, none⟩ = false := hlb2.frozen 0
    have m2 : W2.cell? ⟨w.heap.size, 0, none⟩ = some (.int .i64 k) := hmb2.cell 0
    have HRUN := Lib.hid hrun
    have RDH := Lib.hid RD
    clear hrun RD ho2 hg2 hlb2 hmb2 b hX h1 h2 h3 h4 hv2
    by_cases hlast : pre.length + 1 < k
    · have hge : ¬ ((k : Int) ≤ ((pre.length + 1 : Nat) : Int)) := by omega
      have hge2 : ¬ ((k : Int) ≤ (pre.length : Int) + 1) := by omega
      gi_wp2_with (gi_at_builtin; refine wpListIn_appT 34 rfl (.tmp 14) (.tmp 16) rfl _ _ rfl rfl _ _ HRUN.out ?_)
      exact ⟨RDH.out.1, RDH.out.2.1, RDH.out.2.2, by rw [List.length_append]; exact hlast⟩
    · have hge : ((k : Int) ≤ ((pre.length + 1 : Nat) : Int)) := by omega
      have hge2 : ((k : Int) ≤ (pre.length : Int) + 1) := by omega
      gi_wp2_with (gi_at_builtin; refine wpListIn_appT 34 rfl (.tmp 14) (.tmp 16) rfl _ _ rfl rfl _ _ HRUN.out ?_)
      exact ⟨RDH.out.1, RDH.out.2.2, by rw [List.length_append]; show pre.length + 1 = k; omega, rfl⟩
  case done =>
    rintro D ys W hD rfl ⟨⟨lv, h1, h2, h3, h4, h5⟩, hpk⟩ hK
    obtain ⟨A1, n1, c1, rfl⟩ : ∃ A1 n1 c1, lv = .slice A1 n1 c1 := by
      rcases h2.form with ⟨e, _⟩ | ⟨g', cap, e, _⟩
      · exact ⟨_, _, _, e⟩
      · exact ⟨_, _, _, e⟩
    have l0 : W.cell? ⟨w.heap.size + 1, 0, none⟩ = some (.slice A1 n1 c1) := h1.cell 0
    have H2 := Lib.hid h2
    have H4 := Lib.hid h4
    have HK := Lib.hid hK
    clear h1 h2 h3 h4 hK
    gi_wp2
    refine ⟨by simp, .inl ⟨_, _, rfl, run_takeDeferred HK.out, ?_⟩⟩
    have hg := grownBy_putObj' W D (.deferred none)
    refine ⟨_, results_tmp rfl _ _ _, _, rfl, ?_, H4.out.trans (belowK_b (w := w) (Nat.le_refl _) W D _ _ (by omega) HK.out rfl rfl)⟩
    rw [List.take_of_length_le (by omega)]
    exact ownD_wide (H2.out.rowKept hg (fun r e => by cases e; exact ⟨_, HK.out, rfl⟩)) (by omega)
  case stop =>
    rintro D c pre W hD ⟨j, hj, rfl⟩ ⟨⟨lv, h1, h2, h3, h4, h5⟩, hpk, rfl⟩ hK
    have hpre : vs.take j = vs.take k := by
      rw [List.length_take] at hpk
      rw [show j = k by omega]
    rw [hpre] at h2
    obtain ⟨A1, n1, c1, rfl⟩ : ∃ A1 n1 c1, lv = .slice A1 n1 c1 := by
      rcases h2.form with ⟨e, _⟩ | ⟨g', cap, e, _⟩
      · exact ⟨_, _, _, e⟩
      · exact ⟨_, _, _, e⟩
    have l0 : W.cell? ⟨w.heap.size + 1, 0, none⟩ = some (.slice A1 n1 c1) := h1.cell 0
    have H2 := Lib.hid h2
    have H4 := Lib.hid h4
    have HK := Lib.hid hK
    clear h1 h2 h3 h4 hK hpk hpre
    gi_wp2
    refine ⟨by simp, .inl ⟨_, _, rfl, run_takeDeferred HK.out, ?_⟩⟩
    have hg := grownBy_putObj' W D (.deferred none)
    exact ⟨_, results_tmp rfl _ _ _, _, rfl, ownD_wide (H2.out.rowKept hg (fun r e => by cases e; exact ⟨_, HK.out, rfl⟩)) (by omega), H4.out.trans (belowK_b (w := w) (Nat.le_refl _) W D _ _ (by omega) HK.out rfl rfl)⟩
end Go.Proofs.YtnlhjlmjbmaipaaDoor
