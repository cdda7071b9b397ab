/-
  A queue and the reference's, apart.
-/
import Derived.Test.YtdlnmhobhafobaaTmTie
import Derived.Test.YtdlnmhobhafobaaTmRAll2
import Derived.Test.YtdlnmhobhafobaaTmAw
import Derived.Test.YtdlnmhobhafobaaTmOps
namespace Go.Proofs.Ytdlnmhobhafobaa
open Go.RowKit Go.Shelf
set_option maxRecDepth 100000
set_option maxHeartbeats 2000000
set_option linter.unusedSimpArgs false
set_option linter.unusedVariables false

theorem OwnT.tm {w w' : World} {base g : Nat} {u v v' : Value} {xs : List T2} (h : OwnT w base u xs) (t : TmF g v v' w w') (hg : u.ownBlock ≠ some g) (hv : ∀ i, u.ownBlock = some i → v.ownBlock ≠ some i) : OwnT w' base u xs := by
  refine ⟨h.1, ?_⟩
  rcases h.2 with h0 | ⟨k, cap, cur, e, hb, hk, h1, h2, h3, h4⟩
  · exact .inl h0
  · have e2 : u.ownBlock = some k := by rw [e]; simp [Value.ownBlock]
    refine .inr ⟨k, cap, cur, e, hb, (t.block k (Array.getElem?_eq_some_iff.1 hk).1 (fun e3 => hg (by rw [e2, e3])) (hv k e2)).trans hk, h1, h2, h3, h4⟩
/-- a queue and the reference's, apart -/
structure Two (w W : World) (q r : Nat) (xs ys : List T2) (v u : Value) : Prop where
  a : Qs W w.heap.size q xs v
  b : Rq W w.heap.size r ys u
  ne : q ≠ r
  vr : v.ownBlock ≠ some r
  uq : u.ownBlock ≠ some q
  d : ∀ i, u.ownBlock = some i → v.ownBlock ≠ some i
  q0 : w.heap.size ≤ q
  r0 : w.heap.size ≤ r
  below : Below w.heap.size w W
theorem Two.later {w W W' : World} {q r : Nat} {xs ys : List T2} {v u : Value} (h : Two w W q r xs ys v u) (hB : Below W.heap.size W W') : Two w W' q r xs ys v u :=
  ⟨h.a.later hB, h.b.later hB, h.ne, h.vr, h.uq, h.d, h.q0, h.r0, h.below.trans (hB.mono h.below.size)⟩
theorem Two.setq {w W W' : World} {q r : Nat} {xs xs' ys : List T2} {v v' u : Value} (h : Two w W q r xs ys v u) (hq : Qs W' w.heap.size q xs' v') (t : TmF q v v' W W') : Two w W' q r xs' ys v' u := by
  have hub := h.b.own.block
  have hrl := Blk.lt h.b.blk
  refine ⟨hq, ⟨(t.block r hrl h.ne.symm h.vr).trans h.b.blk, h.b.own.tm t h.uq h.d, h.b.ne⟩, h.ne, ?_, h.uq, ?_, h.q0, h.r0, h.below.trans (t.below h.below.size h.q0 (fun k e => (h.a.own.block k e).1))⟩
  · rcases t.own with e | e | ⟨k, e, hk⟩
    · rw [e]; exact h.vr
    · rw [e]; simp
    · rw [e]; intro e2; injection e2 with e2; omega
  · intro i ei
    rcases t.own with e | e | ⟨k, e, hk⟩
    · rw [e]; exact h.d i ei
    · rw [e]; simp
    · rw [e]; intro e2; injection e2 with e2; have := (hub i ei).2; omega
theorem Two.setr {w W W' : World} {q r : Nat} {xs ys ys' : List T2} {v u u' : Value} (h : Two w W q r xs ys v u) (hr : Rq W' w.heap.size r ys' u') (t : TmF r u u' W W') : Two w W' q r xs ys' v u' := by
  have hvb := h.a.own.block
  have hql := Blk.lt h.a.blk
  refine ⟨⟨(t.block q hql h.ne h.uq).trans h.a.blk, h.a.own.tm t h.vr (fun i e e2 => h.d i e2 e), h.a.ne⟩, hr, h.ne, h.vr, ?_, ?_, h.q0, h.r0, h.below.trans (t.below h.below.size h.r0 (fun k e => (h.b.own.block k e).1))⟩
  · rcases t.own with e | e | ⟨k, e, hk⟩
    · rw [e]; exact h.uq
    · rw [e]; simp
    · rw [e]; intro e2; injection e2 with e2; omega
  · intro i ei e2
    rcases t.own with e | e | ⟨k, e, hk⟩
    · rw [e] at ei; exact h.d i ei e2
    · rw [e] at ei; cases ei
    · rw [e] at ei
      injection ei with ei
      have := (hvb i e2).2
      omega
/-- what both hold behind k of the calls -/
noncomputable def fq (f : Nat → Int × Int × Int × Int) : Nat → List T2
  | 0 => []
  | k + 1 => (setQ (f k).2.1 (f k).2.2.1 (fq f k)).2
noncomputable def fr (f : Nat → Int × Int × Int × Int) : Nat → List T2
  | 0 => []
  | k + 1 => (rsetQ (f k).2.1 (f k).2.2.1 (fr f k)).2
theorem fq_tie (f : Nat → Int × Int × Int × Int) : ∀ k, Tie (fq f k) (fr f k)
  | 0 => Tie.nil
  | k + 1 => ((fq_tie f k).set _ _).2
theorem rsetQ_no {id at' : Int} {ys : List T2} (h : (rsetQ id at' ys).1 ≠ 0) : (rsetQ id at' ys).2 = ys := by
  unfold rsetQ at h ⊢
  split
  · rename_i h1
    rw [if_pos h1] at h
    split
    · rename_i h2
      rw [if_pos h2] at h
      split
      · rfl
      · rename_i h3
        rw [if_neg h3] at h
        exact absurd rfl h
    · rename_i h2
      rw [if_neg h2] at h
      exact absurd rfl h
  · rfl
theorem wrap64 {z : Int} (h : In64 z) : IntKind.i64.wrap z = z := by rw [IntKind.wrap_i64]; unfold In64 at h; omega
end Go.Proofs.Ytdlnmhobhafobaa
