/-
  What is due, of a list in order.
-/
import Derived.Test.YtdlnmhobhafobaaTmTwo
import Derived.Test.YtdlnmhobhafobaaTmIds
namespace Go.Proofs.Ytdlnmhobhafobaa
open Go.RowKit Go.Shelf
set_option maxRecDepth 100000
set_option maxHeartbeats 2000000
set_option linter.unusedSimpArgs false
set_option linter.unusedVariables false

theorem due_filter {hi : Int} {xs : List T2} (h : Ord xs) : (xs.filter fun x => decide (x.2 ≤ hi)) = xs.take (cnt hi xs) := by
  unfold Ord at h
  induction xs with
  | nil => rfl
  | cons x xs ih =>
    rw [List.pairwise_cons] at h
    by_cases hx : x.2 ≤ hi
    · rw [List.filter_cons_of_pos (by simpa using hx), cnt_cons_pos xs hx, List.take_succ_cons, ih h.2]
    · rw [cnt_cons_neg xs hx, List.take_zero, List.filter_eq_nil_iff]
      intro a ha
      rcases List.mem_cons.1 ha with e | ha
      · rw [e]; simpa using hx
      · have := h.1 a ha
        simp only [decide_eq_true_eq]
        omega
theorem due_rest (hi : Int) (xs : List T2) : cnt hi (xs.drop (cnt hi xs)) = 0 := by
  induction xs with
  | nil => rfl
  | cons x xs ih =>
    by_cases hx : x.2 ≤ hi
    · rw [cnt_cons_pos xs hx, List.drop_succ_cons, ih]
    · rw [cnt_cons_neg xs hx, List.drop_zero, cnt_cons_neg xs hx]
theorem due_both {lo hi : Int} (hl : lo ≤ hi) (xs : List T2) : xs.take (cnt lo xs) ++ (xs.drop (cnt lo xs)).take (cnt hi (xs.drop (cnt lo xs))) = xs.take (cnt hi xs) := by
  induction xs with
  | nil => rfl
  | cons x xs ih =>
    by_cases hx : x.2 ≤ lo
    · rw [cnt_cons_pos xs hx, cnt_cons_pos xs (Int.le_trans hx hl), List.take_succ_cons, List.take_succ_cons, List.drop_succ_cons, List.cons_append, ih]
    · rw [cnt_cons_neg xs hx]
      rfl
theorem due_at {hi : Int} {xs : List T2} {k : Nat} {x : T2} (hk : k < cnt hi xs) (hx : xs[k]? = some x) : x.2 ≤ hi := by
  induction xs generalizing k with
  | nil => simp at hx
  | cons y xs ih =>
    by_cases hy : y.2 ≤ hi
    · rw [cnt_cons_pos xs hy] at hk
      cases k with
      | zero => simp at hx; subst hx; exact hy
      | succ k => exact ih (k := k) (by omega) (by simpa using hx)
    · rw [cnt_cons_neg xs hy] at hk
      omega
theorem fq_nodup (f : Nat → Int × Int × Int × Int) (k : Nat) : ((fq f k).map Prod.fst).Nodup ∧ Ord (fq f k) ∧ (fq f k).length ≤ 64 := by
  have h := fq_tie f k
  refine ⟨?_, by rw [h.1]; exact srt_ord _, by rw [h.len]; exact h.2.2⟩
  have hp : (fq f k).Perm (fr f k) := by
    rw [h.1]
    refine snocI (P := fun ys => (srt ys).Perm ys) (List.Perm.refl _) (fun ys y ih => ?_) (fr f k)
    rw [srt_snoc]
    have hi : ∀ zs : List T2, (insQ y zs).Perm (y :: zs) := by
      intro zs
      induction zs with
      | nil => rw [insQ_nil]
      | cons z zs ihz =>
        by_cases hz : z.2 ≤ y.2
        · rw [insQ_le zs hz]
          exact (List.Perm.cons z ihz).trans (List.Perm.swap ..)
        · rw [insQ_gt zs hz]
    exact ((hi _).trans (List.Perm.cons y ih)).trans (List.perm_append_singleton y ys).symm
  exact (hp.map Prod.fst).nodup_iff.2 h.2.1
theorem without_head {x : T2} {xs : List T2} (h : ((x :: xs).map Prod.fst).Nodup) : without x (x :: xs) = xs := by
  rw [without_idx (k := 0) h rfl]
  rfl
theorem tmlen_any (base g : Nat) (xs : List T2) (v : Value) (w : World) (h : Qs w base g xs v) :
    Calls Try.prog 19 #[.pointer (some ⟨g, 0, none⟩)] w fun e w' => e = .returned (.int .i64 xs.length) ∧ w = w' := by
  obtain ⟨A, c, rfl, _⟩ := h.own.slice
  obtain ⟨n, hn⟩ : ∃ n, xs.length = n := ⟨_, rfl⟩
  have hc := h.blk.cell 0
  have hgl := Blk.lt h.blk
  rw [hn] at hc ⊢
  clear h hn
  have x0 : w.cell? ⟨g, 0, none⟩ = some (.slice A n c) := hc
  go_enter Try.func19, Try.ntmps19
  go_wp2
  go_ret
  exact ⟨rfl, rfl⟩
theorem infoI : (Try.prog.info? 3).map (fun i => (i.zero, i.size, i.bytes)) = some (some (.int .i64 0), 1, 8) := by kernel_rfl
theorem OwnI.tm {w w' : World} {base g : Nat} {u v v' : Value} {l : List Int} (h : OwnI w base u l) (t : TmF g v v' w w') (hg : u.ownBlock ≠ some g) (hv : ∀ i, u.ownBlock = some i → v.ownBlock ≠ some i) : OwnI w' base u l := by
  refine ⟨h.1, ?_⟩
  rcases h.2 with h0 | ⟨k, cap, cur, e, hb, hk, h1, h2, h3, h4⟩
  · exact .inl h0
  · have e2 : u.ownBlock = some k := by rw [e]; simp [Value.ownBlock]
    refine .inr ⟨k, cap, cur, e, hb, (t.block k (Array.getElem?_eq_some_iff.1 hk).1 (fun e3 => hg (by rw [e2, e3])) (hv k e2)).trans hk, h1, h2, h3, h4⟩
theorem Qs.tm {w w' : World} {base g g' : Nat} {u v v' : Value} {xs : List T2} (h : Qs w base g' xs u) (t : TmF g v v' w w') (hne : g' ≠ g) (hvg : v.ownBlock ≠ some g') (hg : u.ownBlock ≠ some g) (hv : ∀ i, u.ownBlock = some i → v.ownBlock ≠ some i) : Qs w' base g' xs u :=
  ⟨(t.block g' (Blk.lt h.blk) hne hvg).trans h.blk, h.own.tm t hg hv, h.ne⟩
/-- numbers behind numbers: append(a, b...) -/
theorem appI_all {w : World} {base b2 : Nat} {v u : Value} {l m : List Int} (h : OwnI w base v l) (k : OwnI w b2 u m) (hm : (l.length + m.length) * 8 ≤ 140737488355328) (hb : base ≤ w.heap.size) :
    ∃ v' w', (Builtin.append_ #[99, 99] 99 #[v, u]).run Try.prog w = .ok v' w' ∧ OwnI w' base v' (l ++ m) ∧ w.grownBy w' v.ownBlock ∧ (v'.ownBlock = v.ownBlock ∨ v'.ownBlock = some w.heap.size) := by
  obtain ⟨i, hi, hz, h1, h2⟩ := info_parts infoI
  rcases k.2 with ⟨rfl, h0⟩ | ⟨g, cap, cur, rfl, hb', hg, _⟩
  · obtain rfl : m = [] := List.eq_nil_of_length_eq_zero h0
    have hrun := run_append_owned_none (P := Try.prog) w base 99 99 3 i 1 Try.underlying99 hi v _ _ h
    exact ⟨v, w, hrun, by rw [List.append_nil]; exact h, ⟨rfl, rfl, rfl, Nat.le_refl _, fun _ _ _ => rfl⟩, .inl rfl⟩
  · obtain ⟨v', w', hrun, h3, h4, _, h5⟩ := run_append_own_at (P := Try.prog) w base 99 99 3 i _ 1 8 Try.underlying99 hi hz h1 h2 rfl (by decide) v _ _ h ⟨g, 0, none⟩ m.length cap (m.map fun z => .int .i64 z)
      (by simp) (fun j u hj => World.ownsRow.cells k (g := g) rfl j u hj) (by intro u hu; obtain ⟨z, _, rfl⟩ := List.mem_map.1 hu; rfl) (by unfold maxLen; omega) (by omega) hb
    refine ⟨v', w', hrun, ?_, h4, h5⟩
    unfold OwnI
    rw [List.length_append, List.map_append]
    exact h3
end Go.Proofs.Ytdlnmhobhafobaa
