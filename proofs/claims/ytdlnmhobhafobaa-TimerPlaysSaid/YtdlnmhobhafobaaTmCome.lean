/-
  (*timer.Queue).come: how many deadlines have come.
-/
import Derived.Test.YtdlnmhobhafobaaTmAll
import Derived.Outline
namespace Go.Proofs.Ytdlnmhobhafobaa
open Go.RowKit Go.Shelf
set_option maxRecDepth 100000
set_option maxHeartbeats 2000000
set_option linter.unusedSimpArgs false
set_option linter.unusedVariables false
attribute [local go_sem] Oper.semAt_some

/-- how many stand first with deadlines at now or ahead of it -/
def cnt (now : Int) (xs : List T2) : Nat := (xs.takeWhile fun x => decide (x.2 ≤ now)).length
theorem cnt_cons_pos {now : Int} {x : T2} (xs : List T2) (h : x.2 ≤ now) : cnt now (x :: xs) = cnt now xs + 1 := by
  unfold cnt
  simp [List.takeWhile_cons, h]
theorem cnt_cons_neg {now : Int} {x : T2} (xs : List T2) (h : ¬ x.2 ≤ now) : cnt now (x :: xs) = 0 := by
  unfold cnt
  simp only [List.takeWhile_cons, h, decide_false, if_false]
  rfl
theorem cnt_all {now : Int} : ∀ {xs : List T2}, (∀ x ∈ xs, x.2 ≤ now) → cnt now xs = xs.length
  | [], _ => rfl
  | x :: xs, h => by
    rw [cnt_cons_pos _ (h x List.mem_cons_self), cnt_all (fun y hy => h y (List.mem_cons_of_mem _ hy)), List.length_cons]
theorem cnt_app {now : Int} {x : T2} (q : List T2) (hx : ¬ x.2 ≤ now) : ∀ {p : List T2}, (∀ y ∈ p, y.2 ≤ now) → cnt now (p ++ [x] ++ q) = p.length
  | [], _ => cnt_cons_neg _ hx
  | y :: p, h => by
    rw [List.cons_append, List.cons_append, cnt_cons_pos _ (h y List.mem_cons_self), cnt_app q hx (fun z hz => h z (List.mem_cons_of_mem _ hz)), List.length_cons]
theorem cnt_le (now : Int) : ∀ xs : List T2, cnt now xs ≤ xs.length
  | [] => Nat.le_refl _
  | x :: xs => by
    have ih := cnt_le now xs
    by_cases h : x.2 ≤ now
    · rw [cnt_cons_pos _ h, List.length_cons]
      omega
    · rw [cnt_cons_neg _ h]
      exact Nat.zero_le _
def ComeJ (w W0 : World) (now : Int) (n : Nat) (W : World) : Prop := Blk W (w.heap.size + 1) 3 [.int .i64 n] ∧ Blk W w.heap.size 2 [.int .i64 now] ∧ Below w.heap.size w W ∧ W0.heap.size ≤ W.heap.size
theorem comeJ_row {w W0 : World} {now : Int} {n : Nat} (hw : w.heap.size ≤ W0.heap.size) {X Y : World} {row : Option Nat} (h : ComeJ w W0 now n X) (hg : X.grownBy Y row) (hr : ∀ r, row = some r → W0.heap.size ≤ r ∧ ∃ o : Obj, X.heap[r]? = some o ∧ o.isCells = false) : ComeJ w W0 now n Y := by
  obtain ⟨h1, h2, h3, h4⟩ := h
  have hr2 : ∀ r, row = some r → ∃ o : Obj, X.heap[r]? = some o ∧ o.isCells = false := fun r e => (hr r e).2
  exact ⟨blk_own _ _ (fun (_ : Unit) => [.int .i64 n]) () X Y row h1 hg hr2, blk_own _ _ (fun (_ : Unit) => [.int .i64 now]) () X Y row h2 hg hr2, h3.grown hg (Nat.le_trans hw h4) (fun r e => Nat.le_trans hw (hr r e).1), Nat.le_trans h4 hg.size⟩
def ComeI (w W0 : World) (now : Int) (pre : List T2) (W : World) : Prop := ComeJ w W0 now pre.length W ∧ ∀ x ∈ pre, x.2 ≤ now
def ComeX (w W0 : World) (now : Int) (c : Code) (pre : List T2) (W : World) : Prop := c = .exit 0 ∧ ∃ p x, pre = p ++ [x] ∧ ComeJ w W0 now p.length W ∧ (∀ y ∈ p, y.2 ≤ now) ∧ ¬ x.2 ≤ now

theorem come_any (base g : Nat) (xs : List T2) (v : Value) (now : Int) (w : World) (h : Qs w base g xs v) (hm : 16 * xs.length ≤ 140737488355328) :
    Calls Try.prog 95 #[.pointer (some ⟨g, 0, none⟩), .int .i64 now] w fun e w' => e = .returned (.int .i64 (cnt now xs)) ∧ Below w.heap.size w w' := by
  have hgl := Blk.lt h.blk
  obtain ⟨W1, hW1⟩ : ∃ W1, W1 = (w.alloc (.cells #[.int .i64 now] 2)).alloc (.cells #[.int .i64 0] 3) := ⟨_, rfl⟩
  have hs1 : W1.heap.size = w.heap.size + 2 := by rw [hW1]; simp
  have hB1 : Below w.heap.size w W1 := by rw [hW1]; exact ((Below.refl _ _).alloc (Nat.le_refl _) _).alloc (by simp) _
  have hb1 : Blk W1 (w.heap.size + 1) 3 [.int .i64 0] := by
    rw [hW1]
    have h := blk_new (w.alloc (.cells #[.int .i64 now] 2)) 3 [.int .i64 0]
    rw [World.size_alloc] at h
    exact h
  have hb2 : Blk W1 w.heap.size 2 [.int .i64 now] := by
    rw [hW1]
    exact (Below.heap_alloc _ _ _ (by simp)).trans (blk_new w 2 [.int .i64 now])
  have AL := Lib.hid (all_any base g xs v W1 (h.later hB1) hm)
  rw [hW1] at AL
  have HW1 := Lib.hid hW1
  have HB1 := Lib.hid hB1
  have Hb1 := Lib.hid hb1
  have Hb2 := Lib.hid hb2
  clear h hB1 hb1 hb2 hW1
  refine (callsIn_wide (n := 10)).1 ?_
  refine callsIn_of_wp_marks Try.func95 rfl trivial ?_ rfl
  simp only [Try.ntmps95, List.size_toArray, List.length_cons, List.length_nil, Nat.reduceAdd, Nat.reduceSub, Array.replicate_succ, Array.replicate_zero, List.push_toArray, List.append_toArray, List.nil_append, List.cons_append]
  gi_wp2
  refine wpIn_scope ?_
  gi_wp2
  refine wpIn_label ?_
  gi_wp2_with (refine ⟨trivial, ?_⟩; gi_at_call 71; refine (callsIn_wide.2 AL.out).mono ?_; rintro e w' ⟨v', rfl, hbk, ho, hb⟩)
  rename World => W0
  rw [← HW1.out, hs1] at hbk ho hb
  have hs0 := hb.size
  have hB0 : Below w.heap.size w W0 := HB1.out.trans ⟨hb.os, hb.tape, hb.output, by omega, fun i hi => hb.block i (by omega)⟩
  have hvb : ∀ k, v'.ownBlock = some k → w.heap.size + 3 ≤ k ∧ k < W0.heap.size := fun k e => by have := ho.block k e; omega
  have hc0 : W0.cell? ⟨w.heap.size + 1 + 1, 0, none⟩ = some v' := hbk.cell 0
  have HI0 : Hid (ComeI w W0 now [] W0) := ⟨⟨(hb.block _ (by omega)).trans Hb1.out, (hb.block _ (by omega)).trans Hb2.out, hB0, Nat.le_refl _⟩, fun x hx => nomatch hx⟩
  have hlt2 : w.heap.size + 3 ≤ W0.heap.size := by have := Blk.lt hbk; omega
  have HVB := Lib.hid hvb
  have HO := Lib.hid ho
  clear hbk hb hB0 hvb hs0 hs1 ho
  refine wpIn_rangeFunc_ownH rfl (by omega) (gf := 99) (lb := #[.pointer (some ⟨w.heap.size + 1 + 1, 0, none⟩)]) rfl trivial (enters_of Try.func99 (by kernel_rfl) rfl)
    (all_stops 9 (by omega) (w.heap.size + 1 + 1) _ v' xs W0 hc0 (by omega) HO.out (by omega)) KeepV.trans (keepV_b (fun k e => (HVB.out k e).2)) (Below.refl _ _) (fun x => rfl)
    (ComeI w W0 now)
    (ComeX w W0 now)
    (fun pre X Y row hs hg hr => ⟨comeJ_row (by omega) hs.1 hg hr, hs.2⟩)
    (fun c pre X Y row hs hg hr => by obtain ⟨e, p, x, e2, h1, h2, h3⟩ := hs; exact ⟨e, p, x, e2, comeJ_row (by omega) h1 hg hr, h2, h3⟩)
    HI0.out
    (fun x a' _ => a' = { tmps := #[.pointer (some ⟨g, 0, none⟩), .int .i64 now, undef, .pointer (some ⟨w.heap.size, 0, none⟩), .int .i64 0, .pointer (some ⟨w.heap.size + 1, 0, none⟩), undef, .int .i64 x.2, .pointer (some ⟨g, 0, none⟩), .func (.func 99) #[] #[.pointer (some ⟨w.heap.size + 1 + 1, 0, none⟩)], .int .i64 x.1, .int .i64 x.2, undef, undef, undef, undef, undef, undef, undef], defers := [] })
    (fun x a' _ X Y row hs hg hr => hs)
    ?assign ?body ?done ?stop
  case assign =>
    rintro lp pre x W K hi hK
    have HK := Lib.hid (hK _ W (KeepsFrom.refl _ _) ⟨Nat.le_refl _, fun _ _ => rfl⟩ hi rfl)
    clear hK hi
    rw [show encT x = #[.int .i64 x.1, .int .i64 x.2] from rfl]
    gi_wp2
    exact HK.out
  case body =>
    rintro lp pre x a' W hlp ⟨rr, hrr⟩ ⟨⟨h1, h2, h3, h4⟩, hall⟩ rfl hlt
    have k1 : W.cell? ⟨w.heap.size + 1, 0, none⟩ = some (.int .i64 pre.length) := h1.cell 0
    have f1 : W.frozen? ⟨w.heap.size + 1, 0, none⟩ = false := h1.frozen 0
    have k2 : W.cell? ⟨w.heap.size, 0, none⟩ = some (.int .i64 now) := h2.cell 0
    have hset : W.grownBy (W.setCell ⟨w.heap.size + 1, 0, none⟩ (.int .i64 ((pre.length : Int) + 1))) (some (w.heap.size + 1)) := only_set _
    have hJ2 : Hid (ComeJ w W0 now (pre ++ [x]).length (W.setCell ⟨w.heap.size + 1, 0, none⟩ (.int .i64 ((pre.length : Int) + 1)))) := by
      refine ⟨?_, (hset.block _ (by have := Blk.lt h2; omega) (by intro e; injection e with e; omega)).trans h2, h3.grown hset h3.size (fun k e => by cases e; omega), Nat.le_trans h4 hset.size⟩
      rw [List.length_append]
      have h5 := h1.set_ 0 (.int .i64 ((pre.length : Int) + 1))
      exact h5
    have hKV : Hid (KeepV v' W (W.setCell ⟨w.heap.size + 1, 0, none⟩ (.int .i64 ((pre.length : Int) + 1)))) := ⟨hset.size, fun k e => hset.block k (by have := HVB.out k e; omega) (by have := HVB.out k e; intro e; injection e with e; omega)⟩
    have hKF : Hid (KeepsFrom W0.heap.size W (W.setCell ⟨w.heap.size + 1, 0, none⟩ (.int .i64 ((pre.length : Int) + 1)))) := KeepsFrom.of_grownBy hset (fun j e => by cases e; omega)
    have hJ1 : Hid (ComeJ w W0 now pre.length W) := ⟨h1, h2, h3, h4⟩
    have hlen : pre.length ≤ 9223372036854775800 := by omega
    have HALL := Lib.hid hall
    clear h1 h2 h3 hset hall
    by_cases hx : x.2 ≤ now
    · have hx2 : ¬ (now < x.2) := by omega
      gi_wp2
      exact ⟨hKF.out, hKV.out, hJ2.out, fun y hy => by rcases List.mem_append.1 hy with h | h; exact HALL.out y h; rw [List.mem_singleton.1 h]; exact hx⟩
    · have hx2 : now < x.2 := by omega
      gi_wp2
      exact ⟨KeepsFrom.refl _ _, rfl, pre, x, rfl, hJ1.out, HALL.out, by omega⟩
  case done =>
    rintro D ys W hD rfl ⟨⟨h1, h2, h3, h4⟩, hall⟩ hK
    have k1 : W.cell? ⟨w.heap.size + 1, 0, none⟩ = some (.int .i64 ys.length) := h1.cell 0
    have H3 := Lib.hid h3
    have HK := Lib.hid hK
    have HC := Lib.hid (cnt_all hall)
    clear h1 h2 h3 hK hall
    gi_wp2
    refine ⟨by simp, .inl ⟨_, _, rfl, run_takeDeferred HK.out, ?_⟩⟩
    refine ⟨_, results_tmp rfl _ _ _, ?_, H3.out.trans (belowK_b (w := w) (Nat.le_refl _) W D _ _ (by omega) HK.out rfl rfl)⟩
    rw [HC.out]
    rfl
  case stop =>
    rintro D c pre W hD ⟨j, hj, hpre⟩ ⟨rfl, p, x, hpx, ⟨h1, h2, h3, h4⟩, hall, hx⟩ hK
    have k1 : W.cell? ⟨w.heap.size + 1, 0, none⟩ = some (.int .i64 p.length) := h1.cell 0
    have H3 := Lib.hid h3
    have HK := Lib.hid hK
    have HC : Hid (cnt now xs = p.length) := by
      show _ = _
      have e : xs = p ++ [x] ++ xs.drop j := by rw [← hpx, hpre, List.take_append_drop]
      rw [e]
      exact cnt_app _ hx hall
    clear h1 h2 h3 hK hall hpx hpre hx
    gi_wp2
    refine ⟨by simp, .inl ⟨_, _, rfl, run_takeDeferred HK.out, ?_⟩⟩
    refine ⟨_, results_tmp rfl _ _ _, ?_, H3.out.trans (belowK_b (w := w) (Nat.le_refl _) W D _ _ (by omega) HK.out rfl rfl)⟩
    rw [HC.out]
    rfl
end Go.Proofs.Ytdlnmhobhafobaa
