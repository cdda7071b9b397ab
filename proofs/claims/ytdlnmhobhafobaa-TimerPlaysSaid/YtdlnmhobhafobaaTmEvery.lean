/-
  tetherlaw08.every: what All tells, up to some.
-/
import Derived.Test.YtdlnmhobhafobaaTmAll
import Derived.Test.YtdlnmhobhafobaaTmROut
import Derived.Test.YtdlnmhobhafobaaTmRSet
namespace Go.Proofs.Ytdlnmhobhafobaa
open Go.RowKit Go.Shelf
set_option maxRecDepth 100000
set_option maxHeartbeats 4000000
set_option linter.unusedSimpArgs false
set_option linter.unusedVariables false
attribute [local go_sem] Oper.semAt_some

theorem wpListIn_appR (t : TypeId) {F : Fence} {n : Nat} {w : World} {ops : Array Oper} {rest : List Oper} {o : Oper} {a : Act} {Q : Exit → Act → World → Prop} (hgd : o.guard = none) (s x : Operand)
    (ho : o.op = .call { callee := .builtin .append, args := #[s, x], argTypes := #[t, t] }) (v u : Value) (hs : a.eval s = v) (hx : a.eval x = u)
    (v' : Value) (w2 : World) (hrun : (Builtin.append_ #[t, t] o.type #[v, u]).run Try.prog w = .ok v' w2)
    (h : wpListIn F n Try.prog ops Q rest (a.put o.dst v') w2) : wpListIn F n Try.prog ops Q (o :: rest) a w := by
  refine wpListIn_plain hgd fun K hK' => ?_
  unfold Oper.wpIn
  refine ⟨?_, ?_⟩
  · simp [Oper.about, ho, resolve, Target.leads, Sem.run_pure]
  · rw [Oper.semAt_plain F _ _ (by rw [ho]; intro c hc'; cases hc')]
    unfold execOp
    simp only [ho, resolve, invoke, builtin, Sem.run_bind, Sem.run_pure, Result.andThen_ok, List.map_toArray, List.map_cons, List.map_nil, hs, hx, hrun]
    exact hK' _ _ h
theorem OwnR.heap {w : World} {base : Nat} {v : Value} {vs : List T2} (h : OwnR w base v vs) : ∀ k, v.ownBlock = some k → ∃ o : Obj, w.heap[k]? = some o ∧ o.isCells = true := by
  intro k hk
  rcases h.2 with ⟨e, _⟩ | ⟨g, cap, cur, e, _, hg, _⟩
  · rw [e] at hk
    simp [Value.ownBlock] at hk
  · rw [e] at hk
    simp [Value.ownBlock] at hk
    subst hk
    exact ⟨_, hg, rfl⟩
theorem OwnR.rowKept {W W' : World} {base : Nat} {v : Value} {vs : List T2} {row : Option Nat} (h : OwnR W base v vs) (hg : W.grownBy W' row) (hr : ∀ r, row = some r → ∃ o : Obj, W.heap[r]? = some o ∧ o.isCells = false) : OwnR W' base v vs := by
  refine h.grown hg ?_
  cases hv : v.ownBlock with
  | none => exact .inl rfl
  | some k =>
    refine .inr fun e => ?_
    obtain ⟨o, ho, hc⟩ := hr k e.symm
    obtain ⟨o', ho', hc'⟩ := h.heap k hv
    rw [ho] at ho'
    cases ho'
    rw [hc] at hc'
    cases hc'
def EvJ (w W0 : World) (mb lb : Nat) (k : Int) (pre : List T2) (W : World) : Prop :=
  ∃ lv, Blk W lb 26 [lv] ∧ OwnR W W0.heap.size lv pre ∧ Blk W mb 3 [.int .i64 k] ∧ Below w.heap.size w W ∧ W0.heap.size ≤ W.heap.size
theorem evJ_own (w W0 : World) (mb lb : Nat) (k : Int) (hw : w.heap.size ≤ W0.heap.size) : OwnFrom W0.heap.size (EvJ w W0 mb lb k) := by
  intro pre X Y row hs hg hr
  obtain ⟨lv, h1, h2, h3, h4, h5⟩ := hs
  have hr2 : ∀ r, row = some r → ∃ o : Obj, X.heap[r]? = some o ∧ o.isCells = false := fun r e => (hr r e).2
  exact ⟨lv, blk_own lb _ (fun (_ : Unit) => [lv]) () X Y row h1 hg hr2, h2.rowKept hg hr2, blk_own mb _ (fun (_ : Unit) => [.int .i64 k]) () X Y row h3 hg hr2, h4.grown hg (Nat.le_trans hw h5) (fun r e => Nat.le_trans hw (hr r e).1), Nat.le_trans h5 hg.size⟩
def EvI (w W0 : World) (mb lb k : Nat) (pre : List T2) (W : World) : Prop := EvJ w W0 mb lb k pre W ∧ pre.length < k
def EvX (w W0 : World) (mb lb k : Nat) (c : Code) (pre : List T2) (W : World) : Prop := EvJ w W0 mb lb k pre W ∧ pre.length = k ∧ c = .exit 0
theorem evI_own (w W0 : World) (mb lb k : Nat) (hw : w.heap.size ≤ W0.heap.size) : OwnFrom W0.heap.size (EvI w W0 mb lb k) := fun pre X Y row hs hg hr => ⟨evJ_own w W0 mb lb k hw pre X Y row hs.1 hg hr, hs.2⟩
theorem evX_own (w W0 : World) (mb lb k : Nat) (hw : w.heap.size ≤ W0.heap.size) (c : Code) : OwnFrom W0.heap.size (EvX w W0 mb lb k c) := fun pre X Y row hs hg hr => ⟨evJ_own w W0 mb lb k hw pre X Y row hs.1 hg hr, hs.2⟩
/-- a round: one timer more -/
theorem ev_round {w W W0 W2 : World} {mb lb : Nat} {k : Int} {pre : List T2} {x : T2} {lv v2 v : Value} {o : Obj}
    (h1 : Blk W lb 26 [lv]) (h3 : Blk W mb 3 [.int .i64 k]) (h4 : Below w.heap.size w W) (h5 : W0.heap.size ≤ W.heap.size) (hw : w.heap.size ≤ W0.heap.size)
    (ho0 : OwnR W W0.heap.size lv pre) (ho : OwnR W2 W0.heap.size v2 (pre ++ [x])) (hg : (W.alloc o).grownBy W2 lv.ownBlock) (hv2 : v2.ownBlock = lv.ownBlock ∨ v2.ownBlock = some (W.heap.size + 1))
    (hlb : w.heap.size ≤ lb) (hlb0 : lb < W0.heap.size) (hmb0 : mb < W0.heap.size) (hml : mb ≠ lb) (hv : ∀ i, v.ownBlock = some i → i < W0.heap.size ∧ i ≠ lb) :
    KeepsFrom W0.heap.size W (W2.setCell ⟨lb, 0, none⟩ v2) ∧ KeepV v W (W2.setCell ⟨lb, 0, none⟩ v2) ∧ EvJ w W0 mb lb k (pre ++ [x]) (W2.setCell ⟨lb, 0, none⟩ v2) := by
  have hlv : ∀ i, lv.ownBlock = some i → W0.heap.size ≤ i := fun i e => (ho0.block i e).1
  have hs2 := hg.size
  rw [World.size_alloc] at hs2
  have hset : W2.grownBy (W2.setCell ⟨lb, 0, none⟩ v2) (some lb) := only_set _
  have hs3 := hset.size
  have hal : W.grownBy (W.alloc o) none := World.grownBy_alloc _ _ _
  have stay : ∀ i, i < W.heap.size → i ≠ lb → lv.ownBlock ≠ some i → (W2.setCell ⟨lb, 0, none⟩ v2).heap[i]? = W.heap[i]? := by
    intro i hi h1 h2
    rw [hset.block i (by omega) (by intro e; injection e with e; exact h1 e), hg.block i (by rw [World.size_alloc]; omega) (fun e => h2 e.symm), hal.block i hi (by simp)]
  have hlb2 : Blk W2 lb 26 [lv] := (hg.block lb (by rw [World.size_alloc]; omega) (fun e => by have := hlv _ e.symm; omega)).trans ((hal.block lb (by omega) (by simp)).trans h1)
  have hbS := Blk.set_ hlb2 0 v2
  refine ⟨⟨by omega, fun i o hi ho' hc => ?_⟩, ⟨by omega, fun i e => stay i (by have := hv i e; omega) (hv i e).2 (fun e' => by have := hlv _ e'; have := hv i e; omega)⟩, v2, hbS, ho.grown hset (.inr ?_), ?_, ?_, by omega⟩
  · have hlt := (Array.getElem?_eq_some_iff.1 ho').1
    rw [stay i hlt (by omega) (fun e => ?_), ho']
    obtain ⟨o2, h2, h3⟩ := ho0.heap i e
    rw [ho'] at h2
    cases h2
    rw [hc] at h3
    cases h3
  · intro e
    rcases hv2 with e' | e'
    · have := hlv lb (e'.symm.trans e)
      omega
    · rw [e'] at e
      injection e with e
      omega
  · exact (stay mb (by omega) hml (fun e => by have := hlv _ e; omega)).trans h3
  · refine ⟨by rw [hset.os, hg.os, hal.os, h4.os], by rw [hset.tape, hg.tape, hal.tape, h4.tape], by rw [hset.output, hg.output, hal.output, h4.output], by have := h4.size; omega, fun i hi => ?_⟩
    rw [stay i (by omega) (by omega) (fun e => by have := hlv _ e; omega), h4.block i hi]
theorem tfunc_eq_nil' (W : World) (g : Nat) (lb : Array Value) : (binOp .eql 111 (.func (.func g) #[] lb) .nilFunc).run Try.prog W = .ok (.bool false) W := by kernel_rfl
theorem every_any (base g : Nat) (xs : List T2) (v : Value) (k : Nat) (w : World) (h : Qs w base g xs v) (hk : 1 ≤ k) (hk2 : k ≤ 100000) (hm : xs.length ≤ 100) :
    Calls Try.prog 17 #[.pointer (some ⟨g, 0, none⟩), .int .i64 k] w fun e w' => ∃ d, e = .returned d ∧ OwnR w' w.heap.size d (xs.take k) ∧ Below w.heap.size w w' := by
  have hgl := Blk.lt h.blk
  obtain ⟨W1, hW1⟩ : ∃ W1, W1 = (w.alloc (.cells #[.int .i64 k] 3)).alloc (.cells #[.slice none 0 0] 26) := ⟨_, rfl⟩
  have hs1 : W1.heap.size = w.heap.size + 2 := by rw [hW1]; simp
  have hB1 : Below w.heap.size w W1 := by rw [hW1]; exact ((Below.refl _ _).alloc (Nat.le_refl _) _).alloc (by simp) _
  have hl1 : Blk W1 (w.heap.size + 1) 26 [.slice none 0 0] := by
    rw [hW1]
    have h := blk_new (w.alloc (.cells #[.int .i64 k] 3)) 26 [.slice none 0 0]
    rw [World.size_alloc] at h
    exact h
  have hm1 : Blk W1 w.heap.size 3 [.int .i64 k] := by
    rw [hW1]
    exact (Below.heap_alloc _ _ _ (by simp)).trans (blk_new w 3 [.int .i64 k])
  have AL := Lib.hid (all_any base g xs v W1 (h.later hB1) (by omega))
  rw [hW1] at AL
  have HW1 := Lib.hid hW1
  have HB1 := Lib.hid hB1
  have Hl1 := Lib.hid hl1
  have Hm1 := Lib.hid hm1
  clear h hB1 hl1 hm1 hW1
  have FE := tfunc_eq_nil'
  refine (callsIn_wide (n := 10)).1 ?_
  refine callsIn_of_wp_marks Try.func17 rfl trivial ?_ rfl
  simp only [Try.ntmps17, List.size_toArray, List.length_cons, List.length_nil, Nat.reduceAdd, Nat.reduceSub, Array.replicate_succ, Array.replicate_zero, List.push_toArray, List.append_toArray, List.nil_append, List.cons_append]
  gi_wp2_with (refine ⟨trivial, ?_⟩; gi_at_call 71; refine (callsIn_wide.2 AL.out).mono ?_; rintro e w' ⟨v', rfl, hbk, ho, hb⟩)
  rename World => W0
  rw [← HW1.out, hs1] at hbk ho hb
  have hs0 := hb.size
  have hB0 : Below w.heap.size w W0 := HB1.out.trans ⟨hb.os, hb.tape, hb.output, by omega, fun i hi => hb.block i (by omega)⟩
  have hvb : ∀ k, v'.ownBlock = some k → w.heap.size + 3 ≤ k ∧ k < W0.heap.size := fun k e => by have := ho.block k e; omega
  have hc0 : W0.cell? ⟨w.heap.size + 1 + 1, 0, none⟩ = some v' := hbk.cell 0
  have HI0 : Hid (EvI w W0 w.heap.size (w.heap.size + 1) k [] W0) := ⟨⟨_, (hb.block _ (by omega)).trans Hl1.out, OwnR.nil _ _, (hb.block _ (by omega)).trans Hm1.out, hB0, Nat.le_refl _⟩, hk⟩
  have hlt2 : w.heap.size + 3 ≤ W0.heap.size := by have := Blk.lt hbk; omega
  have HVB := Lib.hid hvb
  have HO := Lib.hid ho
  clear hbk hb hB0 hvb hs0 hs1 ho
  refine wpIn_rangeFunc_ownH rfl (by omega) (gf := 99) (lb := #[.pointer (some ⟨w.heap.size + 1 + 1, 0, none⟩)]) rfl trivial (enters_of Try.func99 (by kernel_rfl) rfl)
    (all_stops 9 (by omega) (w.heap.size + 1 + 1) _ v' xs W0 hc0 (by omega) HO.out (by omega)) KeepV.trans (keepV_b (fun k e => (HVB.out k e).2)) (Below.refl _ _) (fun x => rfl)
    (EvI w W0 w.heap.size (w.heap.size + 1) k)
    (EvX w W0 w.heap.size (w.heap.size + 1) k)
    (evI_own _ _ _ _ _ (by omega))
    (fun c => evX_own _ _ _ _ _ (by omega) c)
    HI0.out
    (fun x a' _ => a' = { tmps := #[.pointer (some ⟨g, 0, none⟩), .int .i64 k, undef, .pointer (some ⟨w.heap.size, 0, none⟩), .slice none 0 0, .pointer (some ⟨w.heap.size + 1, 0, none⟩), .func (.func 99) #[] #[.pointer (some ⟨w.heap.size + 1 + 1, 0, none⟩)], .int .i64 x.1, .int .i64 x.2, .pointer (some ⟨g, 0, none⟩), .func (.func 99) #[] #[.pointer (some ⟨w.heap.size + 1 + 1, 0, none⟩)], .func (.func 99) #[] #[.pointer (some ⟨w.heap.size + 1 + 1, 0, none⟩)], .bool false, .func (.func 99) #[] #[.pointer (some ⟨w.heap.size + 1 + 1, 0, none⟩)], .int .i64 x.1, .int .i64 x.2, undef, undef, undef, undef, undef, undef, undef, undef, undef, undef, undef], defers := [] })
    (fun x a' _ X Y row hs hg hr => hs)
    ?assign ?body ?done ?stop
  case assign =>
    rintro lp pre x W K hi hK
    have HK := Lib.hid (hK _ W (KeepsFrom.refl _ _) ⟨Nat.le_refl _, fun _ _ => rfl⟩ hi rfl)
    clear hK hi
    rw [show encT x = #[.int .i64 x.1, .int .i64 x.2] from rfl]
    gi_wp2
    exact HK.out
  case body =>
    rintro lp pre x a' W hlp ⟨rr, hrr⟩ ⟨⟨lv, h1, h2, h3, h4, h5⟩, hpk⟩ rfl hlt
    have hrr2 : pre.length < 100 := by omega
    have hal : Below W.heap.size W (W.alloc (.cells #[.int .i64 x.1, .int .i64 x.2] 108)) := (Below.refl _ _).alloc (Nat.le_refl _) _
    have hnew : Blk (W.alloc (.cells #[.int .i64 x.1, .int .i64 x.2] 108)) W.heap.size 108 [.int .i64 x.1, .int .i64 x.2] := blk_new W _ _
    obtain ⟨v2, W2, hrun, ho2, hg2, hv2⟩ := appR_run (h2.later hal) W.heap.size 1 1 [x] rfl (fun j u hj => by
      match j, hj with
      | 0, hj => rw [show u = .int .i64 x.1 from by simpa [cellsT] using hj.symm]; exact hnew.cell 0
      | 1, hj => rw [show u = .int .i64 x.2 from by simpa [cellsT] using hj.symm]; exact hnew.cell 1
      | j + 2, hj => simp [cellsT] at hj) (by omega) (by rw [World.size_alloc]; omega)
    rw [World.size_alloc] at hv2
    have RD := ev_round (v := v') h1 h3 h4 h5 (by omega) h2 ho2 hg2 hv2 (by omega) (by omega) (by omega) (by omega) (fun i e => by have := HVB.out i e; omega)
    obtain ⟨A1, c1, hv1e, _⟩ := h2.slice
    obtain ⟨A2, c2, hv2e, _⟩ := ho2.slice
    have hlb2 : Blk W2 (w.heap.size + 1) 26 [lv] := (hg2.block _ (by rw [World.size_alloc]; omega) (fun e => by have := (h2.block _ e.symm).1; omega)).trans ((Below.heap_alloc _ _ _ (by omega)).trans h1)
    have hmb2 : Blk W2 w.heap.size 3 [.int .i64 k] := (hg2.block _ (by rw [World.size_alloc]; omega) (fun e => by have := (h2.block _ e.symm).1; omega)).trans ((Below.heap_alloc _ _ _ (by omega)).trans h3)
    rw [List.length_append, List.length_singleton] at hv2e
    subst hv1e hv2e
    have l0 : W.cell? ⟨w.heap.size + 1, 0, none⟩ = some (.slice A1 pre.length c1) := h1.cell 0
    have l2 : W2.cell? ⟨w.heap.size + 1, 0, none⟩ = some (.slice A1 pre.length c1) := hlb2.cell 0
    have lf2 : W2.frozen? ⟨w.heap.size + 1, 0, none⟩ = false := hlb2.frozen 0
    have m2 : W2.cell? ⟨w.heap.size, 0, none⟩ = some (.int .i64 k) := hmb2.cell 0
    have HRUN := Lib.hid hrun
    have RDH := Lib.hid RD
    have hwW : w.heap.size + 1 < W.heap.size := by omega
    clear hrun RD ho2 hg2 hlb2 hmb2 h1 h2 h3 h4 hv2 hal hnew
    by_cases hlast : pre.length + 1 < k
    · have hge : ¬ ((k : Int) ≤ ((pre.length + 1 : Nat) : Int)) := by omega
      have hge2 : ¬ ((k : Int) ≤ (pre.length : Int) + 1) := by omega
      gi_wp2_with (gi_at_builtin; refine wpListIn_appR 26 rfl (.tmp 16) (.tmp 20) rfl _ _ rfl rfl _ _ HRUN.out ?_)
      exact ⟨RDH.out.1, RDH.out.2.1, RDH.out.2.2, by rw [List.length_append]; exact hlast⟩
    · have hge : ((k : Int) ≤ ((pre.length + 1 : Nat) : Int)) := by omega
      have hge2 : ((k : Int) ≤ (pre.length : Int) + 1) := by omega
      gi_wp2_with (gi_at_builtin; refine wpListIn_appR 26 rfl (.tmp 16) (.tmp 20) rfl _ _ rfl rfl _ _ HRUN.out ?_)
      exact ⟨RDH.out.1, RDH.out.2.2, by rw [List.length_append]; show pre.length + 1 = k; omega, rfl⟩
  case done =>
    rintro D ys W hD rfl ⟨⟨lv, h1, h2, h3, h4, h5⟩, hpk⟩ hK
    obtain ⟨A1, c1, rfl, _⟩ := h2.slice
    have l0 : W.cell? ⟨w.heap.size + 1, 0, none⟩ = some (.slice A1 ys.length c1) := h1.cell 0
    have H2 := Lib.hid h2
    have H4 := Lib.hid h4
    have HK := Lib.hid hK
    clear h1 h2 h3 h4 hK
    gi_wp2
    refine ⟨by simp, .inl ⟨_, _, rfl, run_takeDeferred HK.out, ?_⟩⟩
    have hg := grownBy_putObj' W D (.deferred none)
    refine ⟨_, results_tmp rfl _ _ _, _, rfl, ?_, H4.out.trans (belowK_b (w := w) (Nat.le_refl _) W D _ _ (by omega) HK.out rfl rfl)⟩
    rw [List.take_of_length_le (by omega)]
    exact (H2.out.rowKept hg (fun r e => by cases e; exact ⟨_, HK.out, rfl⟩)).wide (by omega)
  case stop =>
    rintro D c pre W hD ⟨j, hj, rfl⟩ ⟨⟨lv, h1, h2, h3, h4, h5⟩, hpk, rfl⟩ hK
    have hpre : xs.take j = xs.take k := by
      rw [List.length_take] at hpk
      rw [show j = k by omega]
    rw [hpre] at h2
    obtain ⟨A1, c1, rfl, _⟩ := h2.slice
    obtain ⟨mm, hmm⟩ : ∃ mm, (xs.take k).length = mm := ⟨_, rfl⟩
    rw [hmm] at h2 h1
    clear hmm
    have l0 : W.cell? ⟨w.heap.size + 1, 0, none⟩ = some (.slice A1 mm c1) := h1.cell 0
    have H2 := Lib.hid h2
    have H4 := Lib.hid h4
    have HK := Lib.hid hK
    clear h1 h2 h3 h4 hK hpk hpre
    gi_wp2
    refine ⟨by simp, .inl ⟨_, _, rfl, run_takeDeferred HK.out, ?_⟩⟩
    have hg := grownBy_putObj' W D (.deferred none)
    exact ⟨_, results_tmp rfl _ _ _, _, rfl, (H2.out.rowKept hg (fun r e => by cases e; exact ⟨_, HK.out, rfl⟩)).wide (by omega), H4.out.trans (belowK_b (w := w) (Nat.le_refl _) W D _ _ (by omega) HK.out rfl rfl)⟩
end Go.Proofs.Ytdlnmhobhafobaa
