/-
  Things that stand apart: what is said of a few blocks stays true where these stay.
-/
import Derived.Test.YtdlnmhobhafobaaTmDueM
namespace Go.Proofs.Ytdlnmhobhafobaa
open Go.RowKit Go.Shelf
set_option maxRecDepth 100000
set_option linter.unusedSimpArgs false
set_option linter.unusedVariables false

/-- P, of the blocks L, at W and wherever these are the same -/
structure Ob (W : World) (P : World → Prop) (L : List Nat) : Prop where
  at_ : ∀ W', W.heap.size ≤ W'.heap.size → (∀ i ∈ L, W'.heap[i]? = W.heap[i]?) → P W'
  lt : ∀ i ∈ L, i < W.heap.size
theorem Ob.get {W : World} {P : World → Prop} {L : List Nat} (h : Ob W P L) : P W := h.at_ W (Nat.le_refl _) fun _ _ => rfl
theorem Ob.next {W W' : World} {P : World → Prop} {L : List Nat} (h : Ob W P L) (hs : W.heap.size ≤ W'.heap.size) (hb : ∀ i ∈ L, W'.heap[i]? = W.heap[i]?) : Ob W' P L :=
  ⟨fun W2 h2 hb2 => h.at_ W2 (Nat.le_trans hs h2) fun i hi => (hb2 i hi).trans (hb i hi), fun i hi => Nat.lt_of_lt_of_le (h.lt i hi) hs⟩
theorem Ob.below {W W' : World} {P : World → Prop} {L : List Nat} (h : Ob W P L) (hB : Below W.heap.size W W') : Ob W' P L :=
  h.next hB.size fun i hi => hB.block i (h.lt i hi)
theorem Ob.tm {W W' : World} {P : World → Prop} {L : List Nat} {g : Nat} {v v' : Value} (h : Ob W P L) (t : TmF g v v' W W') (hg : g ∉ L) (hv : ∀ i, v.ownBlock = some i → i ∉ L) : Ob W' P L :=
  h.next t.size fun i hi => t.block i (h.lt i hi) (fun e => hg (e ▸ hi)) (fun e => hv i e hi)
theorem Ob.grown {W W' : World} {P : World → Prop} {L : List Nat} {row : Option Nat} (h : Ob W P L) (t : W.grownBy W' row) (hv : ∀ i, row = some i → i ∉ L) : Ob W' P L :=
  h.next t.size fun i hi => t.block i (h.lt i hi) (fun e => hv i e.symm hi)
theorem mem_own {v : Value} {i : Nat} : i ∈ v.ownBlock.toList ↔ v.ownBlock = some i := by
  cases v.ownBlock <;> simp [eq_comm]
theorem OwnI.ob {W : World} {base : Nat} {u : Value} {l : List Int} (h : OwnI W base u l) : Ob W (fun W => OwnI W base u l) u.ownBlock.toList := by
  refine ⟨fun W' hs hb => ⟨h.1, ?_⟩, fun i hi => (h.form.2 i (mem_own.1 hi)).2⟩
  rcases h.2 with h0 | ⟨k, cap, cur, e, hb', hk, h1, h2, h3, h4⟩
  · exact .inl h0
  · exact .inr ⟨k, cap, cur, e, hb', (hb k (mem_own.2 (by rw [e]; simp [Value.ownBlock]))).trans hk, h1, h2, h3, h4⟩
theorem OwnR.ob {W : World} {base : Nat} {u : Value} {l : List T2} (h : OwnR W base u l) : Ob W (fun W => OwnR W base u l) u.ownBlock.toList := by
  refine ⟨fun W' hs hb => ⟨h.1, ?_⟩, fun i hi => (h.block i (mem_own.1 hi)).2⟩
  rcases h.2 with h0 | ⟨k, cap, cur, e, hb', hk, h1, h2, h3, h4⟩
  · exact .inl h0
  · exact .inr ⟨k, cap, cur, e, hb', (hb k (mem_own.2 (by rw [e]; simp [Value.ownBlock]))).trans hk, h1, h2, h3, h4⟩
theorem Qs.ob {W : World} {base g : Nat} {u : Value} {xs : List T2} (h : Qs W base g xs u) : Ob W (fun W => Qs W base g xs u) (g :: u.ownBlock.toList) := by
  refine ⟨fun W' hs hb => ⟨(hb g (by simp)).trans h.blk, ⟨h.own.1, ?_⟩, h.ne⟩, fun i hi => ?_⟩
  · rcases h.own.2 with h0 | ⟨k, cap, cur, e, hb', hk, h1, h2, h3, h4⟩
    · exact .inl h0
    · exact .inr ⟨k, cap, cur, e, hb', (hb k (List.mem_cons.2 (.inr (mem_own.2 (by rw [e]; simp [Value.ownBlock]))))).trans hk, h1, h2, h3, h4⟩
  · rcases List.mem_cons.1 hi with rfl | hi
    · exact Blk.lt h.blk
    · exact (h.own.block i (mem_own.1 hi)).2
end Go.Proofs.Ytdlnmhobhafobaa
