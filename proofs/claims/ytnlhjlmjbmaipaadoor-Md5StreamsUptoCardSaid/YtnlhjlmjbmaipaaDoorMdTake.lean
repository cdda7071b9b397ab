/-
  (*md5.Stream).take: the words behind each whole block of some bytes are put behind the others.
-/
import Derived.Test.YtnlhjlmjbmaipaaDoorMdFrame
namespace Go.Proofs.YtnlhjlmjbmaipaaDoor
open Go.RowKit Go.Shelf
set_option maxRecDepth 100000
set_option maxHeartbeats 4000000
set_option linter.unusedSimpArgs false
set_option linter.unusedVariables false
attribute [local go_sem] Oper.semAt_some encX agg16

def TakeI (w W0 : World) (base g n b3 bx : Nat) (vs : List W4) (rest : List UInt8) (v : Value) (pre : List X16) (W : World) : Prop :=
  ∃ v', St W base g (vs ++ stepsX (lastW vs) pre) rest n v' ∧ Frm g v v' w W ∧ (v'.ownBlock = v.ownBlock ∨ ∃ k, v'.ownBlock = some k ∧ W0.heap.size ≤ k) ∧ W0.heap.size ≤ W.heap.size ∧
    Blk W b3 50 (cells4 (wordsX (lastW vs) pre)) ∧ Blk W bx 23 [.pointer (some ⟨g, 0, none⟩)]
theorem takeI_own (w W0 : World) (base g n b3 bx : Nat) (vs : List W4) (rest : List UInt8) (v : Value) (hw : w.heap.size ≤ W0.heap.size) : OwnFrom W0.heap.size (TakeI w W0 base g n b3 bx vs rest v) := by
  intro pre X Y row hs hg hr
  obtain ⟨v', h1, h2, h5, h6, h3, h4⟩ := hs
  have hr2 : ∀ r, row = some r → ∃ o : Obj, X.heap[r]? = some o ∧ o.isCells = false := fun r e => (hr r e).2
  exact ⟨v', h1.rowKept hg hr2, h2.rowKept hg (fun r e => Nat.le_trans hw (hr r e).1), h5, Nat.le_trans h6 hg.size, blk_own b3 _ (fun (_ : Unit) => cells4 (wordsX (lastW vs) pre)) () X Y row h3 hg hr2, blk_own bx _ (fun (_ : Unit) => [.pointer (some ⟨g, 0, none⟩)]) () X Y row h4 hg hr2⟩
/-- the end of a round: the words in the stream's own row, the row's new form in its first cell -/
theorem take_round {w W : World} {base g n b3 bx : Nat} {vs : List W4} {rest : List UInt8} {v v1 v2 : Value} {W0 W1 W2 : World} {pre : List X16} {x : X16} {A : Option Addr} {nn : Nat}
    (hst : St W base g (vs ++ stepsX (lastW vs) pre) rest n v1) (hf : Frm g v v1 w W) (hown : v1.ownBlock = v.ownBlock ∨ ∃ k, v1.ownBlock = some k ∧ W0.heap.size ≤ k) (hsW : W0.heap.size ≤ W.heap.size)
    (hb3 : Blk W1 b3 50 (cells4 (mdBlock x.1 (wordsX (lastW vs) pre)))) (hbx : Blk W bx 23 [.pointer (some ⟨g, 0, none⟩)]) (hg1 : W.grownBy W1 (some b3))
    (ho : OwnW W2 base v2 (vs ++ stepsX (lastW vs) pre ++ [mdBlock x.1 (wordsX (lastW vs) pre)])) (hg2 : (W1.alloc (.cells (cells4 (mdBlock x.1 (wordsX (lastW vs) pre))).toArray 50)).grownBy W2 v1.ownBlock)
    (hv2 : v2.ownBlock = v1.ownBlock ∨ v2.ownBlock = some (W1.heap.size + 1))
    (hn : g < w.heap.size) (hbx3 : bx ≠ b3) (hb30 : b3 < W0.heap.size) (hbx0 : bx < W0.heap.size) (hb3w : w.heap.size ≤ b3) (hbxw : w.heap.size ≤ bx) (hvb : ∀ k, v.ownBlock = some k → k < w.heap.size)
    (hA : ∀ k o, A = some ⟨k, o, none⟩ → 0 < nn → k < w.heap.size ∧ v.ownBlock ≠ some k ∧ (k = g → 1 ≤ o)) :
    KeepsFrom W0.heap.size W (W2.setCell ⟨g, 0, none⟩ v2) ∧ KeepC A nn W (W2.setCell ⟨g, 0, none⟩ v2) ∧ TakeI w W0 base g n b3 bx vs rest v (pre ++ [x]) (W2.setCell ⟨g, 0, none⟩ v2) := by
  have hs1 := hg1.size
  have hs2 := hg2.size
  rw [World.size_alloc] at hs2
  have hvk : ∀ k, v1.ownBlock = some k → k ≠ b3 ∧ k ≠ bx ∧ k ≠ g := by
    intro k hk
    have hne : k ≠ g := fun e => hst.ne (by rw [hk, e])
    rcases hown with e | ⟨j, e, hj⟩
    · have h := hvb k (e.symm.trans hk)
      exact ⟨by omega, by omega, hne⟩
    · rw [e] at hk
      cases hk
      exact ⟨by omega, by omega, hne⟩
  have hv2k : ∀ k, v2.ownBlock = some k → k ≠ g := by
    intro k hk
    rcases hv2 with e | e
    · exact (hvk k (e.symm.trans hk)).2.2
    · rw [e] at hk
      cases hk
      omega
  have hal : W1.grownBy (W1.alloc (.cells (cells4 (mdBlock x.1 (wordsX (lastW vs) pre))).toArray 50)) none := World.grownBy_alloc _ _ _
  have hset : W2.grownBy (W2.setCell ⟨g, 0, none⟩ v2) (some g) := only_set _
  have hs3 := hset.size
  have stay : ∀ k, k < W1.heap.size → k ≠ g → v1.ownBlock ≠ some k → (W2.setCell ⟨g, 0, none⟩ v2).heap[k]? = W1.heap[k]? := by
    intro k hk h1 h2
    rw [hset.block k (by omega) (by intro e; injection e with e; exact h1 e), hg2.block k (by rw [World.size_alloc]; omega) (fun e => h2 e.symm), hal.block k hk (by simp)]
  have gst : ∀ k, k < W.heap.size → k ≠ b3 → W1.heap[k]? = W.heap[k]? := fun k hk h => hg1.block k hk (by intro e; injection e with e; exact h e)
  have hgW2 : Blk W2 g 44 (stCells v1 rest n) := by
    have h1 : W2.heap[g]? = W1.heap[g]? := by rw [hg2.block g (by rw [World.size_alloc]; omega) (fun e => hst.ne e.symm), hal.block g (by omega) (by simp)]
    exact h1.trans ((gst g (by omega) (by omega)).trans hst.blk)
  have hgS := hgW2.set_ 0 v2
  have e0 : (stCells v1 rest n).set 0 v2 = stCells v2 rest n := rfl
  rw [e0] at hgS
  have hown3 : OwnW (W2.setCell ⟨g, 0, none⟩ v2) base v2 (vs ++ stepsX (lastW vs) (pre ++ [x])) := by
    rw [stepsX_snoc, wordsX_snoc, ← List.append_assoc]
    exact ho.grown hset (.inr (by
      intro e
      exact hv2k g e rfl))
  have hv1A : ∀ k o, A = some ⟨k, o, none⟩ → 0 < nn → v1.ownBlock ≠ some k := by
    intro k o e h0 e1
    obtain ⟨a1, a2, a3⟩ := hA k o e h0
    rcases hown with e' | ⟨j, e', hj⟩
    · exact a2 (e'.symm.trans e1)
    · rw [e'] at e1
      cases e1
      omega
  refine ⟨⟨by omega, fun k o hk hko ho' => ?_⟩, ⟨by omega, fun k o e j hj => ?_⟩, v2, ⟨hgS, hst.len, hown3, ?_, ?_⟩, ?_, ?_, by omega, ?_, ?_⟩
  · have hlt := (Array.getElem?_eq_some_iff.1 hko).1
    rw [stay k (by omega) (by omega) (fun e => ?_), gst k hlt (by omega), hko]
    obtain ⟨o2, h2, h3⟩ := hst.own.heap k e
    rw [hko] at h2
    cases h2
    rw [ho'] at h3
    cases h3
  · obtain ⟨a1, a2, a3⟩ := hA k o e (by omega)
    by_cases hkg : k = g
    · subst hkg
      have h1 := a3 rfl
      rw [hgS.cell, hst.blk.cell]
      obtain ⟨i, hi⟩ : ∃ i, o + j = i + 1 := ⟨o + j - 1, by omega⟩
      rw [hi]
      rfl
    · exact World.cell?_of_block (w := W) (a := ⟨k, o + j, none⟩) ((stay k (by omega) hkg (hv1A k o e (by omega))).trans (gst k (by omega) (by omega)))
  · intro e
    exact hv2k g e rfl
  · rw [stepsX_snoc, ← List.append_assoc]
    intro y hy
    rcases List.mem_append.1 hy with h | h
    · exact hst.ok y h
    · obtain rfl := List.mem_singleton.1 h
      rw [wordsX_snoc]
      exact mdAdd_ok _ _
  · have hfs := hf.size
    refine ⟨?_, ?_, ?_, by omega, fun i hi h1 h2 => ?_, ?_⟩
    · rw [hset.os, hg2.os, hal.os, hg1.os, hf.os]
    · rw [hset.tape, hg2.tape, hal.tape, hg1.tape, hf.tape]
    · rw [hset.output, hg2.output, hal.output, hg1.output, hf.output]
    · rw [stay i (by omega) h1 (fun e => ?_), gst i (by omega) (by omega), hf.block i hi h1 h2]
      rcases hf.own with e' | ⟨j, e', hj⟩
      · exact h2 (e'.symm.trans e)
      · rw [e'] at e
        cases e
        omega
    · rcases hv2 with e | e
      · rw [e]
        exact hf.own
      · exact .inr ⟨_, e, by omega⟩
  · rcases hv2 with e | e
    · rw [e]
      exact hown
    · exact .inr ⟨_, e, by omega⟩
  · rw [wordsX_snoc]
    exact (stay b3 (by omega) (by omega) (fun e => (hvk b3 e).1 rfl)).trans hb3
  · exact (stay bx (by omega) (by omega) (fun e => (hvk bx e).2.1 rfl)).trans ((gst bx (by omega) hbx3).trans hbx)
end Go.Proofs.YtnlhjlmjbmaipaaDoor
