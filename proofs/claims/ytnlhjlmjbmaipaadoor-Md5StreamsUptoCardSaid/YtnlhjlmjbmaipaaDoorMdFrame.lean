/-
  What a stream keeps; an append of words whose run is known; what a walk over the bytes of a slice keeps.
-/
import Derived.Test.YtnlhjlmjbmaipaaDoorMdSteps
import Derived.Test.YtnlhjlmjbmaipaaDoorAnyIn
namespace Go.Proofs.YtnlhjlmjbmaipaaDoor
open Go.RowKit Go.Shelf
set_option maxRecDepth 100000
set_option maxHeartbeats 400000
set_option linter.unusedSimpArgs false
set_option linter.unusedVariables false

theorem TabK.keptB {w w' : World} {base : Nat} (h : TabK w) (hB : Below base w w') (hb : 0 < base) : TabK w' := fun i hi =>
  (hB.cell (p := ⟨0, i, none⟩) hb).trans (h i hi)
theorem TabS.keptB {w w' : World} {base : Nat} (h : TabS w) (hB : Below base w w') (hb : 1 < base) : TabS w' := fun i hi =>
  (hB.cell (p := ⟨1, i, none⟩) hb).trans (h i hi)
/-- what a walk over the nn bytes at A keeps -/
def KeepC (A : Option Addr) (nn : Nat) (W1 W2 : World) : Prop := W1.heap.size ≤ W2.heap.size ∧ ∀ b o, A = some ⟨b, o, none⟩ → ∀ j, j < nn → W2.cell? ⟨b, o + j, none⟩ = W1.cell? ⟨b, o + j, none⟩
theorem KeepC.trans {A : Option Addr} {nn : Nat} {a b c : World} (h : KeepC A nn a b) (k : KeepC A nn b c) : KeepC A nn a c :=
  ⟨Nat.le_trans h.1 k.1, fun x o e j hj => (k.2 x o e j hj).trans (h.2 x o e j hj)⟩
theorem KeepC.of_block {A : Option Addr} {nn : Nat} {a b : World} (hs : a.heap.size ≤ b.heap.size) (h : ∀ x o, A = some ⟨x, o, none⟩ → 0 < nn → b.heap[x]? = a.heap[x]?) : KeepC A nn a b :=
  ⟨hs, fun x o e j hj => World.cell?_of_block (w := a) (w' := b) (a := ⟨x, o + j, none⟩) (h x o e (by omega))⟩
theorem keepC_b {A : Option Addr} {nn : Nat} {w : World} (hA : ∀ x o, A = some ⟨x, o, none⟩ → 0 < nn → x < w.heap.size) (W : World) (l : Nat) (o o' : Obj) (hl : w.heap.size ≤ l) (h : W.heap[l]? = some o) (_ : o.isCells = false) (_ : o.isWalk = false) : KeepC A nn W (W.putObj l o') :=
  KeepC.of_block (by simp) fun x k e h0 => by
    have h1 := hA x k e h0
    have h2 := (Array.getElem?_eq_some_iff.1 h).1
    exact (grownBy_putObj' W l o').block x (by omega) (by intro e; injection e with e; omega)
theorem rd_at {w : World} {B nn : Nat} {A : Option Addr} {l : List UInt8} (hr : Rd w B A nn l) (hB : B ≤ w.heap.size) : ∀ x o, A = some ⟨x, o, none⟩ → 0 < nn → x < w.heap.size := by
  intro x o e h0
  obtain ⟨b, off, e', hb, _⟩ := hr.2 h0
  rw [e'] at e
  cases e
  omega
theorem OwnW.grown {w w' : World} {base : Nat} {v : Value} {vs : List W4} {row : Option Nat} (h : OwnW w base v vs) (hg : w.grownBy w' row) (hne : v.ownBlock = none ∨ v.ownBlock ≠ row) : OwnW w' base v vs := World.ownsRow.kept h hg hne
theorem OwnW.heap {w : World} {base : Nat} {v : Value} {vs : List W4} (h : OwnW w base v vs) : ∀ k, v.ownBlock = some k → ∃ o : Obj, w.heap[k]? = some o ∧ o.isCells = true := by
  intro k hk
  rcases h.2 with ⟨e, _⟩ | ⟨g, cap, cur, e, _, hg, _⟩
  · rw [e] at hk
    simp [Value.ownBlock] at hk
  · rw [e] at hk
    simp [Value.ownBlock] at hk
    subst hk
    exact ⟨_, hg, rfl⟩
theorem St.grown {W W' : World} {base g n k : Nat} {vs : List W4} {rest : List UInt8} {v : Value} (h : St W base g vs rest n v) (hg : W.grownBy W' (some k)) (h1 : g ≠ k) (h2 : v.ownBlock ≠ some k) : St W' base g vs rest n v :=
  ⟨(hg.block g (Blk.lt h.blk) (by intro e; injection e with e; exact h1 e)).trans h.blk, h.len, h.own.grown hg (.inr h2), h.ne, h.ok⟩
theorem St.rowKept {W W' : World} {base g n : Nat} {vs : List W4} {rest : List UInt8} {v : Value} {row : Option Nat} (h : St W base g vs rest n v) (hg : W.grownBy W' row) (hr : ∀ r, row = some r → ∃ o : Obj, W.heap[r]? = some o ∧ o.isCells = false) : St W' base g vs rest n v := by
  refine ⟨?_, h.len, h.own.grown hg ?_, h.ne, h.ok⟩
  · refine (hg.block g (Blk.lt h.blk) fun e => ?_).trans h.blk
    obtain ⟨o, ho, hc⟩ := hr g e.symm
    rw [show W.heap[g]? = _ from h.blk] at ho
    cases ho
    cases hc
  · cases hv : v.ownBlock with
    | none => exact .inl rfl
    | some k =>
      refine .inr fun e => ?_
      obtain ⟨o, ho, hc⟩ := hr k e.symm
      obtain ⟨o', ho', hc'⟩ := h.own.heap k hv
      rw [ho] at ho'
      cases ho'
      rw [hc] at hc'
      cases hc'
theorem Frm.rowKept {g : Nat} {v v' : Value} {a b c : World} {row : Option Nat} (h : Frm g v v' a b) (hg : b.grownBy c row) (hr : ∀ r, row = some r → a.heap.size ≤ r) : Frm g v v' a c :=
  ⟨hg.os.trans h.os, hg.tape.trans h.tape, hg.output.trans h.output, Nat.le_trans h.size hg.size, fun i hi h1 h2 => (hg.block i (Nat.lt_of_lt_of_le hi h.size) (fun e => by have := hr i e.symm; omega)).trans (h.block i hi h1 h2), h.own⟩
/-- words, one more -/
theorem words_run {w : World} {base : Nat} {v : Value} {vs : List W4} (h : OwnW w base v vs) (V : W4) (hm : (vs.length + 1) * 16 ≤ 140737488355328) (hb : base ≤ w.heap.size) :
    ∃ v' w', (Builtin.append_ #[41, 41] 41 #[v, .slice (some ⟨w.heap.size, 0, none⟩) 1 1]).run Tryd.prog (w.alloc (.cells (cells4 V).toArray 50)) = .ok v' w' ∧ OwnW w' base v' (vs ++ [V]) ∧
      (w.alloc (.cells (cells4 V).toArray 50)).grownBy w' v.ownBlock ∧ (v'.ownBlock = v.ownBlock ∨ v'.ownBlock = some (w.heap.size + 1)) ∧ ∃ A c, v' = .slice A (vs.length + 1) c := by
  have hi : ∃ i, Tryd.prog.info? 50 = some i ∧ i.zero = some (.agg #[.int .u32 0, .int .u32 0, .int .u32 0, .int .u32 0]) ∧ i.size = 4 ∧ i.bytes = 16 :=
    info_parts (show (Tryd.prog.info? 50).map (fun i => (i.zero, i.size, i.bytes)) = some (some (.agg #[.int .u32 0, .int .u32 0, .int .u32 0, .int .u32 0]), 4, 16) by kernel_rfl)
  obtain ⟨i, hi, hz, h1, h2⟩ := hi
  have hal : OwnW (w.alloc (.cells (cells4 V).toArray 50)) base v vs := World.ownsRow.alloc h _
  obtain ⟨v', w', hrun, h3, h4, _, h5⟩ := run_append_own_at (P := Tryd.prog) (w.alloc (.cells (cells4 V).toArray 50)) base 41 41 50 i _ 4 16 Tryd.underlying41 hi hz h1 h2 rfl (by decide) v _ _ hal ⟨w.heap.size, 0, none⟩ 1 1 (cells4 V)
    (by simp [cells4]) (fun j u hj => by
      have hbk := (blk_new w 50 (cells4 V)).cell j
      have e : (⟨w.heap.size, 0, none⟩ : Addr).add j = ⟨w.heap.size, j, none⟩ := by
        unfold Addr.add
        split
        · rename_i h
          rw [h]
        · simp
      rw [e, hbk, hj]) (cells4_one2 V) (by unfold maxLen; omega) (by omega) (by rw [World.size_alloc]; omega)
  have hf : (vs ++ [V]).length = vs.length + 1 := by simp
  have h3' : OwnW w' base v' (vs ++ [V]) := by
    unfold OwnW
    rw [hf, List.flatMap_append]
    simpa using h3
  refine ⟨v', w', hrun, h3', h4, by rwa [World.size_alloc] at h5, ?_⟩
  rcases h3'.form with ⟨_, e⟩ | ⟨g, cap, e, _⟩
  · simp at e
  · exact ⟨_, cap, by rw [e, hf]⟩
/-- an append of words whose run is known, as a step of a region -/
theorem step_appW {w : World} {ops : Array Oper} {o : Oper} {a : Act} {K : Act → World → Prop} {Q : Exit → Act → World → Prop} {E : Prop} (hgd : o.guard = none) (s x : Operand)
    (ho : o.op = .call { callee := .builtin .append, args := #[s, x], argTypes := #[41, 41] }) (v u : Value) (hs : a.eval s = v) (hx : a.eval x = u)
    (v' : Value) (w2 : World) (hrun : (Builtin.append_ #[41, 41] o.type #[v, u]).run Tryd.prog w = .ok v' w2)
    (h : K (a.put o.dst v') w2) : if Region.wanted o (yielded ops a.tmps) = true then Oper.wp Tryd.prog o a w K Q else E := by
  have hw : Region.wanted o (yielded ops a.tmps) = true := by simp [Region.wanted, hgd]
  rw [if_pos hw]
  unfold Oper.wp execOp
  simp only [ho, resolve, invoke, builtin, Sem.run_bind, Sem.run_pure, Result.andThen_ok, List.map_toArray, List.map_cons, List.map_nil, hs, hx, hrun]
  exact h
end Go.Proofs.YtnlhjlmjbmaipaaDoor
