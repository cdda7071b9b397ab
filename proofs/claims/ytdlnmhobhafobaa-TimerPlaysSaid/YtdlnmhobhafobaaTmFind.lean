/-
  (*timer.Queue).find: the timer of a number.
-/
import Derived.Test.YtdlnmhobhafobaaTmCome
namespace Go.Proofs.Ytdlnmhobhafobaa
open Go.RowKit Go.Shelf
set_option maxRecDepth 100000
set_option maxHeartbeats 2000000
set_option linter.unusedSimpArgs false
set_option linter.unusedVariables false
attribute [local go_sem] Oper.semAt_some

def FindB (w W0 : World) (id : Int) (x : T2) (b : Bool) (W : World) : Prop := Blk W (w.heap.size + 1) 95 (cellsT x) ∧ Blk W (w.heap.size + 1 + 1) 4 [.bool b] ∧ Blk W w.heap.size 3 [.int .i64 id] ∧ Below w.heap.size w W ∧ W0.heap.size ≤ W.heap.size
theorem findB_row {w W0 : World} {id : Int} {x : T2} {b : Bool} (hw : w.heap.size ≤ W0.heap.size) {X Y : World} {row : Option Nat} (h : FindB w W0 id x b X) (hg : X.grownBy Y row) (hr : ∀ r, row = some r → W0.heap.size ≤ r ∧ ∃ o : Obj, X.heap[r]? = some o ∧ o.isCells = false) : FindB w W0 id x b Y := by
  obtain ⟨h1, h2, h3, h4, h5⟩ := h
  have hr2 : ∀ r, row = some r → ∃ o : Obj, X.heap[r]? = some o ∧ o.isCells = false := fun r e => (hr r e).2
  exact ⟨blk_own _ _ (fun (_ : Unit) => cellsT x) () X Y row h1 hg hr2, blk_own _ _ (fun (_ : Unit) => [.bool b]) () X Y row h2 hg hr2, blk_own _ _ (fun (_ : Unit) => [.int .i64 id]) () X Y row h3 hg hr2, h4.grown hg (Nat.le_trans hw h5) (fun r e => Nat.le_trans hw (hr r e).1), Nat.le_trans h5 hg.size⟩
def FindI (w W0 : World) (id : Int) (pre : List T2) (W : World) : Prop := FindB w W0 id (0, 0) false W ∧ ∀ x ∈ pre, x.1 ≠ id
def FindX (w W0 : World) (id : Int) (c : Code) (pre : List T2) (W : World) : Prop := c = .ret ∧ ∃ p x, pre = p ++ [x] ∧ FindB w W0 id x true W ∧ (∀ y ∈ p, y.1 ≠ id) ∧ x.1 = id
def fnd (id : Int) (xs : List T2) : Option T2 := xs.find? fun x => decide (x.1 = id)
theorem fnd_none {id : Int} {xs : List T2} (h : ∀ x ∈ xs, x.1 ≠ id) : fnd id xs = none := by
  unfold fnd
  rw [List.find?_eq_none]
  intro x hx
  simpa using h x hx
theorem fnd_some {id : Int} {p : List T2} {x : T2} (q : List T2) (h : ∀ y ∈ p, y.1 ≠ id) (hx : x.1 = id) : fnd id (p ++ [x] ++ q) = some x := by
  have h1 := fnd_none h
  unfold fnd at *
  rw [List.append_assoc, List.find?_append, h1, List.singleton_append, List.find?_cons_of_pos (by simpa using hx)]
  rfl
theorem find_any (base g : Nat) (xs : List T2) (v : Value) (id : Int) (w : World) (h : Qs w base g xs v) (hm : 16 * xs.length ≤ 140737488355328) :
    Calls Try.prog 92 #[.pointer (some ⟨g, 0, none⟩), .int .i64 id] w fun e w' =>
      e = .returned (.tuple #[.agg (cellsT ((fnd id xs).getD (0, 0))).toArray, .bool (fnd id xs).isSome]) ∧ Below w.heap.size w w' := by
  have hgl := Blk.lt h.blk
  obtain ⟨W1, hW1⟩ : ∃ W1, W1 = ((w.alloc (.cells #[.int .i64 id] 3)).alloc (.cells #[.int .i64 0, .int .i64 0] 95)).alloc (.cells #[.bool false] 4) := ⟨_, rfl⟩
  have hs1 : W1.heap.size = w.heap.size + 3 := by rw [hW1]; simp
  have hB1 : Below w.heap.size w W1 := by rw [hW1]; exact (((Below.refl _ _).alloc (Nat.le_refl _) _).alloc (by simp) _).alloc (by simp; omega) _
  have hF1 : FindB w W1 id (0, 0) false W1 := by
    refine ⟨?_, ?_, ?_, hB1, Nat.le_refl _⟩
    · rw [hW1]
      have h := blk_new (w.alloc (.cells #[.int .i64 id] 3)) 95 [.int .i64 0, .int .i64 0]
      rw [World.size_alloc] at h
      exact (Below.heap_alloc _ _ _ (by simp)).trans h
    · rw [hW1]
      have h := blk_new ((w.alloc (.cells #[.int .i64 id] 3)).alloc (.cells #[.int .i64 0, .int .i64 0] 95)) 4 [.bool false]
      rw [World.size_alloc, World.size_alloc] at h
      exact h
    · rw [hW1]
      exact (Below.heap_alloc _ _ _ (by simp; omega)).trans ((Below.heap_alloc _ _ _ (by simp)).trans (blk_new w 3 [.int .i64 id]))
  have AL := Lib.hid (all_any base g xs v W1 (h.later hB1) hm)
  rw [hW1] at AL
  have HW1 := Lib.hid hW1
  have HF1 := Lib.hid hF1
  clear h hB1 hF1 hW1
  refine (callsIn_wide (n := 10)).1 ?_
  refine callsIn_of_wp_marks Try.func92 rfl trivial ?_ rfl
  simp only [Try.ntmps92, List.size_toArray, List.length_cons, List.length_nil, Nat.reduceAdd, Nat.reduceSub, Array.replicate_succ, Array.replicate_zero, List.push_toArray, List.append_toArray, List.nil_append, List.cons_append]
  gi_wp2_with (refine ⟨trivial, ?_⟩; gi_at_call 71; refine (callsIn_wide.2 AL.out).mono ?_; rintro e w' ⟨v', rfl, hbk, ho, hb⟩)
  rename World => W0
  rw [← HW1.out, hs1] at hbk ho hb
  have hs0 := hb.size
  have hvb : ∀ k, v'.ownBlock = some k → w.heap.size + 4 ≤ k ∧ k < W0.heap.size := fun k e => by have := ho.block k e; omega
  have hc0 : W0.cell? ⟨w.heap.size + 1 + 1 + 1, 0, none⟩ = some v' := hbk.cell 0
  have hlt2 : w.heap.size + 4 ≤ W0.heap.size := by have := Blk.lt hbk; omega
  have HI0 : Hid (FindI w W0 id [] W0) := by
    obtain ⟨h1, h2, h3, h4, _⟩ := HF1.out
    exact ⟨⟨(hb.block _ (by omega)).trans h1, (hb.block _ (by omega)).trans h2, (hb.block _ (by omega)).trans h3, h4.trans ⟨hb.os, hb.tape, hb.output, by omega, fun i hi => hb.block i (by omega)⟩, Nat.le_refl _⟩, fun x hx => nomatch hx⟩
  have HVB := Lib.hid hvb
  have HO := Lib.hid ho
  clear hbk hb hvb hs0 hs1 ho HF1
  refine wpIn_rangeFunc_ownH rfl (by omega) (gf := 99) (lb := #[.pointer (some ⟨w.heap.size + 1 + 1 + 1, 0, none⟩)]) rfl trivial (enters_of Try.func99 (by kernel_rfl) rfl)
    (all_stops 9 (by omega) (w.heap.size + 1 + 1 + 1) _ v' xs W0 hc0 (by omega) HO.out (by omega)) KeepV.trans (keepV_b (fun k e => (HVB.out k e).2)) (Below.refl _ _) (fun x => rfl)
    (FindI w W0 id)
    (FindX w W0 id)
    (fun pre X Y row hs hg hr => ⟨findB_row (by omega) hs.1 hg hr, hs.2⟩)
    (fun c pre X Y row hs hg hr => by obtain ⟨e, p, x, e2, h1, h2, h3⟩ := hs; exact ⟨e, p, x, e2, findB_row (by omega) h1 hg hr, h2, h3⟩)
    HI0.out
    (fun x a' _ => a' = { tmps := #[.pointer (some ⟨g, 0, none⟩), .int .i64 id, undef, .pointer (some ⟨w.heap.size, 0, none⟩), .pointer (some ⟨w.heap.size + 1, 0, none⟩), .pointer (some ⟨w.heap.size + 1 + 1, 0, none⟩), .int .i64 x.1, .int .i64 x.2, .pointer (some ⟨g, 0, none⟩), .func (.func 99) #[] #[.pointer (some ⟨w.heap.size + 1 + 1 + 1, 0, none⟩)], .int .i64 x.1, .int .i64 x.2, undef, undef, undef, undef, undef, undef, undef], defers := [] })
    (fun x a' _ X Y row hs hg hr => hs)
    ?assign ?body ?done ?stop
  case assign =>
    rintro lp pre x W K hi hK
    have HK := Lib.hid (hK _ W (KeepsFrom.refl _ _) ⟨Nat.le_refl _, fun _ _ => rfl⟩ hi rfl)
    clear hK hi
    rw [show encT x = #[.int .i64 x.1, .int .i64 x.2] from rfl]
    gi_wp2
    exact HK.out
  case body =>
    rintro lp pre x a' W hlp ⟨rr, hrr⟩ ⟨⟨h1, h2, h3, h4, h5⟩, hall⟩ rfl hlt
    have k3 : W.cell? ⟨w.heap.size, 0, none⟩ = some (.int .i64 id) := h3.cell 0
    by_cases hx : x.1 = id
    · obtain ⟨W2, hW2⟩ : ∃ W2, W2 = ((W.setCell ⟨w.heap.size + 1, 0, none⟩ (.int .i64 x.1)).setCell ⟨w.heap.size + 1, 1, none⟩ (.int .i64 x.2)).setCell ⟨w.heap.size + 1 + 1, 0, none⟩ (.bool true) := ⟨_, rfl⟩
      have s1 : W.grownBy (W.setCell ⟨w.heap.size + 1, 0, none⟩ (.int .i64 x.1)) (some (w.heap.size + 1)) := only_set _
      have s2 : (W.setCell ⟨w.heap.size + 1, 0, none⟩ (.int .i64 x.1)).grownBy ((W.setCell ⟨w.heap.size + 1, 0, none⟩ (.int .i64 x.1)).setCell ⟨w.heap.size + 1, 1, none⟩ (.int .i64 x.2)) (some (w.heap.size + 1)) := only_set _
      have s3 : ((W.setCell ⟨w.heap.size + 1, 0, none⟩ (.int .i64 x.1)).setCell ⟨w.heap.size + 1, 1, none⟩ (.int .i64 x.2)).grownBy W2 (some (w.heap.size + 1 + 1)) := by rw [hW2]; exact only_set _
      have z1 := s1.size
      have z2 := s2.size
      have z3 := s3.size
      have b1 : Blk ((W.setCell ⟨w.heap.size + 1, 0, none⟩ (.int .i64 x.1)).setCell ⟨w.heap.size + 1, 1, none⟩ (.int .i64 x.2)) (w.heap.size + 1) 95 (cellsT x) := (h1.set_ 0 (.int .i64 x.1)).set_ 1 (.int .i64 x.2)
      have keep : ∀ i, i < W.heap.size → i ≠ w.heap.size + 1 → i ≠ w.heap.size + 1 + 1 → W2.heap[i]? = W.heap[i]? := fun i hi e1 e2 => by
        rw [s3.block i (by omega) (by intro e; injection e with e; exact e2 e), s2.block i (by omega) (by intro e; injection e with e; exact e1 e), s1.block i hi (by intro e; injection e with e; exact e1 e)]
      have hb2 : Blk W2 (w.heap.size + 1 + 1) 4 [.bool true] := by
        have h6 : Blk ((W.setCell ⟨w.heap.size + 1, 0, none⟩ (.int .i64 x.1)).setCell ⟨w.heap.size + 1, 1, none⟩ (.int .i64 x.2)) (w.heap.size + 1 + 1) 4 [.bool false] := (s2.block _ (by omega) (by intro e; injection e with e; omega)).trans ((s1.block _ (by omega) (by intro e; injection e with e; omega)).trans h2)
        have h7 := h6.set_ 0 (.bool true)
        rw [hW2]
        exact h7
      have RES : Hid (KeepsFrom W0.heap.size W W2 ∧ FindX w W0 id .ret (pre ++ [x]) W2) := by
        refine ⟨⟨by omega, fun i o hi ho hc => (keep i (Array.getElem?_eq_some_iff.1 ho).1 (by omega) (by omega)).trans ho⟩, rfl, pre, x, rfl, ⟨(s3.block _ (by omega) (by intro e; injection e with e; omega)).trans b1, hb2, (keep _ (by omega) (by omega) (by omega)).trans h3, ?_, by omega⟩, hall, hx⟩
        refine ⟨by rw [s3.os, s2.os, s1.os, h4.os], by rw [s3.tape, s2.tape, s1.tape, h4.tape], by rw [s3.output, s2.output, s1.output, h4.output], by have := h4.size; omega, fun i hi => ?_⟩
        rw [keep i (by omega) (by omega) (by omega), h4.block i hi]
      have k1 : W.cell? ⟨w.heap.size + 1, 0, none⟩ = some (.int .i64 0) := h1.cell 0
      have k1' : W.cell? ⟨w.heap.size + 1, 1, none⟩ = some (.int .i64 0) := h1.cell 1
      have k2 : W.cell? ⟨w.heap.size + 1 + 1, 0, none⟩ = some (.bool false) := h2.cell 0
      have f1 := h1.frozen 0
      have f1' := h1.frozen 1
      have f2 := h2.frozen 0
      rw [hW2] at RES
      subst hx
      clear h1 h2 h3 h4 hall s1 s2 s3 b1 keep hb2 hW2 z1 z2 z3
      gi_wp2
      exact RES.out
    · have RES : Hid (FindI w W0 id (pre ++ [x]) W) := ⟨⟨h1, h2, h3, h4, h5⟩, fun y hy => by rcases List.mem_append.1 hy with h | h; exact hall y h; rw [List.mem_singleton.1 h]; exact hx⟩
      clear h1 h2 h3 h4 hall
      gi_wp2
      exact ⟨KeepsFrom.refl _ _, ⟨Nat.le_refl _, fun _ _ => rfl⟩, RES.out⟩
  case done =>
    rintro D ys W hD rfl ⟨⟨h1, h2, h3, h4, h5⟩, hall⟩ hK
    have HC := Lib.hid (fnd_none hall)
    have hz : ∀ w : World, (zeroValue 95).run Try.prog w = .ok (.agg #[.int .i64 0, .int .i64 0]) w := fun w => by kernel_rfl
    obtain ⟨W2, hW2⟩ : ∃ W2, W2 = ((W.setCell ⟨w.heap.size + 1, 0, none⟩ (.int .i64 0)).setCell ⟨w.heap.size + 1, 1, none⟩ (.int .i64 0)).setCell ⟨w.heap.size + 1 + 1, 0, none⟩ (.bool false) := ⟨_, rfl⟩
    have s1 : W.grownBy (W.setCell ⟨w.heap.size + 1, 0, none⟩ (.int .i64 0)) (some (w.heap.size + 1)) := only_set _
    have s2 : (W.setCell ⟨w.heap.size + 1, 0, none⟩ (.int .i64 0)).grownBy ((W.setCell ⟨w.heap.size + 1, 0, none⟩ (.int .i64 0)).setCell ⟨w.heap.size + 1, 1, none⟩ (.int .i64 0)) (some (w.heap.size + 1)) := only_set _
    have s3 : ((W.setCell ⟨w.heap.size + 1, 0, none⟩ (.int .i64 0)).setCell ⟨w.heap.size + 1, 1, none⟩ (.int .i64 0)).grownBy W2 (some (w.heap.size + 1 + 1)) := by rw [hW2]; exact only_set _
    have z1 := s1.size
    have z2 := s2.size
    have z3 := s3.size
    have b1 : Blk ((W.setCell ⟨w.heap.size + 1, 0, none⟩ (.int .i64 0)).setCell ⟨w.heap.size + 1, 1, none⟩ (.int .i64 0)) (w.heap.size + 1) 95 [.int .i64 0, .int .i64 0] := (h1.set_ 0 (.int .i64 0)).set_ 1 (.int .i64 0)
    have b2 : Blk W2 (w.heap.size + 1) 95 [.int .i64 0, .int .i64 0] := (s3.block _ (by omega) (by intro e; injection e with e; omega)).trans b1
    have hb2 : Blk W2 (w.heap.size + 1 + 1) 4 [.bool false] := by
      have h6 : Blk ((W.setCell ⟨w.heap.size + 1, 0, none⟩ (.int .i64 0)).setCell ⟨w.heap.size + 1, 1, none⟩ (.int .i64 0)) (w.heap.size + 1 + 1) 4 [.bool false] := (s2.block _ (by omega) (by intro e; injection e with e; omega)).trans ((s1.block _ (by omega) (by intro e; injection e with e; omega)).trans h2)
      have h7 := h6.set_ 0 (.bool false)
      rw [hW2]
      exact h7
    have hDl := (Array.getElem?_eq_some_iff.1 hK).1
    have keep : ∀ i, i < W.heap.size → i ≠ w.heap.size + 1 → i ≠ w.heap.size + 1 + 1 → W2.heap[i]? = W.heap[i]? := fun i hi e1 e2 => by
      rw [s3.block i (by omega) (by intro e; injection e with e; exact e2 e), s2.block i (by omega) (by intro e; injection e with e; exact e1 e), s1.block i hi (by intro e; injection e with e; exact e1 e)]
    have H4 : Hid (Below w.heap.size w W2) := by
      refine ⟨by rw [s3.os, s2.os, s1.os, h4.os], by rw [s3.tape, s2.tape, s1.tape, h4.tape], by rw [s3.output, s2.output, s1.output, h4.output], by have := h4.size; omega, fun i hi => ?_⟩
      rw [keep i (by omega) (by omega) (by omega), h4.block i hi]
    have HK : Hid (W2.heap[D]? = some (.deferred (some []))) := (keep D hDl (by omega) (by omega)).trans hK
    have H1 := Lib.hid b2
    have H2 := Lib.hid hb2
    have k1 : W.cell? ⟨w.heap.size + 1, 0, none⟩ = some (.int .i64 0) := h1.cell 0
    have k1' : W.cell? ⟨w.heap.size + 1, 1, none⟩ = some (.int .i64 0) := h1.cell 1
    have k2 : W.cell? ⟨w.heap.size + 1 + 1, 0, none⟩ = some (.bool false) := h2.cell 0
    have f1 := h1.frozen 0
    have f1' := h1.frozen 1
    have f2 := h2.frozen 0
    rw [hW2] at H4 HK H1 H2
    clear h1 h2 h3 h4 hall s1 s2 s3 b1 b2 keep hb2 hW2 z1 z2 z3 hK hDl
    gi_wp2
    refine ⟨by simp, .inl ⟨_, _, rfl, run_takeDeferred HK.out, ?_⟩⟩
    obtain ⟨W3, hW3⟩ : ∃ W3, W3 = ((W.setCell ⟨w.heap.size + 1, 0, none⟩ (.int .i64 0)).setCell ⟨w.heap.size + 1, 1, none⟩ (.int .i64 0)).setCell ⟨w.heap.size + 1 + 1, 0, none⟩ (.bool false) := ⟨_, rfl⟩
    rw [← hW3] at H4 HK H1 H2
    rw [← hW3]
    have q1 : Blk (W3.putObj D (.deferred none)) (w.heap.size + 1) 95 [.int .i64 0, .int .i64 0] := (World.putObj_heap_other (by omega)).trans H1.out
    have q2 : Blk (W3.putObj D (.deferred none)) (w.heap.size + 1 + 1) 4 [.bool false] := (World.putObj_heap_other (by omega)).trans H2.out
    have c0 : (W3.putObj D (.deferred none)).cell? ⟨w.heap.size + 1, 0, none⟩ = some (.int .i64 0) := q1.cell 0
    have c1 : (W3.putObj D (.deferred none)).cell? ⟨w.heap.size + 1, 1, none⟩ = some (.int .i64 0) := q1.cell 1
    have c2 : (W3.putObj D (.deferred none)).cell? ⟨w.heap.size + 1 + 1, 0, none⟩ = some (.bool false) := q2.cell 0
    clear hW3
    refine ⟨.tuple #[.agg #[.int .i64 0, .int .i64 0], .bool false], by simp [results, Try.results92, go_sem, c0, c1, c2], ?_, H4.out.trans (belowK_b (w := w) (Nat.le_refl _) W3 D _ _ (by omega) HK.out rfl rfl)⟩
    rw [HC.out]
    rfl
  case stop =>
    rintro D c pre W hD ⟨j, hj, hpre⟩ ⟨rfl, p, x, hpx, ⟨h1, h2, h3, h4, h5⟩, hall, hx⟩ hK
    have HC : Hid (fnd id xs = some x) := by
      show _ = _
      have e : xs = p ++ [x] ++ xs.drop j := by rw [← hpx, hpre, List.take_append_drop]
      rw [e]
      exact fnd_some _ hall hx
    have H4 := Lib.hid h4
    have HK := Lib.hid hK
    have H1 := Lib.hid h1
    have H2 := Lib.hid h2
    clear h1 h2 h3 h4 hK hall hpx hpre hx
    gi_wp2
    refine ⟨by simp, .inl ⟨_, _, rfl, run_takeDeferred HK.out, ?_⟩⟩
    have q1 : Blk (W.putObj D (.deferred none)) (w.heap.size + 1) 95 (cellsT x) := (World.putObj_heap_other (by omega)).trans H1.out
    have q2 : Blk (W.putObj D (.deferred none)) (w.heap.size + 1 + 1) 4 [.bool true] := (World.putObj_heap_other (by omega)).trans H2.out
    have c0 : (W.putObj D (.deferred none)).cell? ⟨w.heap.size + 1, 0, none⟩ = some (.int .i64 x.1) := q1.cell 0
    have c1 : (W.putObj D (.deferred none)).cell? ⟨w.heap.size + 1, 1, none⟩ = some (.int .i64 x.2) := q1.cell 1
    have c2 : (W.putObj D (.deferred none)).cell? ⟨w.heap.size + 1 + 1, 0, none⟩ = some (.bool true) := q2.cell 0
    refine ⟨.tuple #[.agg #[.int .i64 x.1, .int .i64 x.2], .bool true], by simp [results, Try.results92, go_sem, c0, c1, c2], ?_, H4.out.trans (belowK_b (w := w) (Nat.le_refl _) W D _ _ (by omega) HK.out rfl rfl)⟩
    rw [HC.out]
    rfl
end Go.Proofs.Ytdlnmhobhafobaa
