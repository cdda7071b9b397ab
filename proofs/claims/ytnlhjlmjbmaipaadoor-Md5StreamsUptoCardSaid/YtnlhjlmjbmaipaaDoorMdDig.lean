/-
  Slices of digests of the call's own: an append of one; what they read as.
-/
import Derived.Test.YtnlhjlmjbmaipaaDoorMdEq
import Derived.Test.YtnlhjlmjbmaipaaDoorMdSteps
namespace Go.Proofs.YtnlhjlmjbmaipaaDoor
open Go.RowKit Go.Shelf
set_option maxRecDepth 100000
set_option maxHeartbeats 1000000
set_option linter.unusedSimpArgs false
set_option linter.unusedVariables false

def OwnD (w : World) (base : Nat) (v : Value) (vs : List W4) : Prop := w.ownsRow base 31 16 v vs.length (vs.flatMap fun V => partB V 16)
theorem partB_length (V : W4) (k : Nat) : (partB V k).length = 16 := by simp [partB]
theorem OwnD.form {w : World} {base : Nat} {v : Value} {vs : List W4} (h : OwnD w base v vs) :
    (v = .slice none 0 0 ∧ vs = []) ∨ ∃ g cap, v = .slice (some ⟨g, 0, none⟩) vs.length cap ∧ base ≤ g ∧ g < w.heap.size ∧ vs.length ≤ cap ∧ cap ≤ maxLen := by
  rcases h.2 with ⟨e, h0⟩ | ⟨g, cap, cur, e, hb, hg, hc, hm, _⟩
  · exact .inl ⟨e, List.eq_nil_of_length_eq_zero h0⟩
  · exact .inr ⟨g, cap, e, hb, (Array.getElem?_eq_some_iff.1 hg).1, hc, hm⟩
theorem OwnD.grown {w w' : World} {base : Nat} {v : Value} {vs : List W4} {row : Option Nat} (h : OwnD w base v vs) (hg : w.grownBy w' row) (hne : v.ownBlock = none ∨ v.ownBlock ≠ row) : OwnD w' base v vs := World.ownsRow.kept h hg hne
theorem OwnD.later {w w' : World} {base : Nat} {v : Value} {vs : List W4} (h : OwnD w base v vs) (hB : Below w.heap.size w w') : OwnD w' base v vs := h.grown (row := none) (grown_of_below hB) (Classical.em _)
theorem OwnD.block {w : World} {base : Nat} {v : Value} {vs : List W4} (h : OwnD w base v vs) : ∀ k, v.ownBlock = some k → base ≤ k ∧ k < w.heap.size := by
  intro k hk
  rcases h.form with ⟨rfl, _⟩ | ⟨g, cap, rfl, h1, h2, _⟩
  · simp [Value.ownBlock] at hk
  · simp [Value.ownBlock] at hk
    omega
theorem OwnD.heap {w : World} {base : Nat} {v : Value} {vs : List W4} (h : OwnD w base v vs) : ∀ k, v.ownBlock = some k → ∃ o : Obj, w.heap[k]? = some o ∧ o.isCells = true := by
  intro k hk
  rcases h.2 with ⟨e, _⟩ | ⟨g, cap, cur, e, _, hg, _⟩
  · rw [e] at hk
    simp [Value.ownBlock] at hk
  · rw [e] at hk
    simp [Value.ownBlock] at hk
    subst hk
    exact ⟨_, hg, rfl⟩
theorem OwnD.rowKept {W W' : World} {base : Nat} {v : Value} {vs : List W4} {row : Option Nat} (h : OwnD W base v vs) (hg : W.grownBy W' row) (hr : ∀ r, row = some r → ∃ o : Obj, W.heap[r]? = some o ∧ o.isCells = false) : OwnD W' base v vs := by
  refine h.grown hg ?_
  cases hv : v.ownBlock with
  | none => exact .inl rfl
  | some k =>
    refine .inr fun e => ?_
    obtain ⟨o, ho, hc⟩ := hr k e.symm
    obtain ⟨o', ho', hc'⟩ := h.heap k hv
    rw [ho] at ho'
    cases ho'
    rw [hc] at hc'
    cases hc'
theorem ownD_wide {w : World} {b b' : Nat} {v : Value} {vs : List W4} (h : OwnD w b v vs) (hb : b' ≤ b) : OwnD w b' v vs := by
  rcases h.2 with h0 | ⟨g', cap, cur, e, hb', hr'⟩
  · exact ⟨h.1, .inl h0⟩
  · exact ⟨h.1, .inr ⟨g', cap, cur, e, by omega, hr'⟩⟩
theorem flat16 : ∀ (vs : List W4) (i r : Nat) (x : W4), vs[i]? = some x → r < 16 → (vs.flatMap fun V => partB V 16)[16 * i + r]? = (partB x 16)[r]?
  | [], i, r, x, h, _ => by simp at h
  | y :: vs, 0, r, x, h, hr => by
    simp at h
    subst h
    rw [List.flatMap_cons, List.getElem?_append_left (by rw [partB_length]; omega)]
    congr 1
    omega
  | y :: vs, i + 1, r, x, h, hr => by
    rw [List.flatMap_cons, List.getElem?_append_right (by rw [partB_length]; omega)]
    have := flat16 vs i r x (by simpa using h) hr
    rw [← this, partB_length]
    congr 1
    omega
/-- a slice of digests that is read -/
def RdD (w : World) (A : Option Addr) (n : Nat) (vs : List W4) : Prop :=
  vs.length = n ∧ (0 < n → ∃ g, A = some ⟨g, 0, none⟩ ∧ g < w.heap.size ∧ ∀ i r x, vs[i]? = some x → r < 16 → w.cell? ⟨g, i * 16 + r, none⟩ = some (.int .u8 (mdByte x r)))
theorem partB_at (V : W4) (r : Nat) (hr : r < 16) : (partB V 16)[r]? = some (.int .u8 (mdByte V r)) := by
  unfold partB
  rw [List.getElem?_map, List.getElem?_range hr]
  simp [hr]
theorem OwnD.rd {w : World} {base : Nat} {A : Option Addr} {n c : Nat} {vs : List W4} (h : OwnD w base (.slice A n c) vs) : RdD w A n vs := by
  rcases h.form with ⟨e, rfl⟩ | ⟨g, cap, e, hb, hg, hc, _⟩
  · injection e with e1 e2 e3
    subst e2
    exact ⟨rfl, fun h => absurd h (by omega)⟩
  · injection e with e1 e2 e3
    subst e1 e2
    refine ⟨rfl, fun _ => ⟨g, rfl, hg, fun i r x hx hr => ?_⟩⟩
    have h1 := World.ownsRow.cells h (g := g) rfl (16 * i + r) (.int .u8 (mdByte x r)) (by rw [flat16 vs i r x hx hr, partB_at x r hr])
    have e : (⟨g, 0, none⟩ : Addr).add (16 * i + r) = ⟨g, i * 16 + r, none⟩ := by
      unfold Addr.add
      split
      · congr 1
        omega
      · congr 1
        simp
        omega
    rw [e] at h1
    exact h1
theorem RdD.take {w : World} {A : Option Addr} {n : Nat} {vs : List W4} (h : RdD w A n vs) (k : Nat) (hk : k ≤ n) : RdD w A k (vs.take k) := by
  refine ⟨by rw [List.length_take, h.1]; omega, fun h0 => ?_⟩
  obtain ⟨g, e, hg, hc⟩ := h.2 (by omega)
  refine ⟨g, e, hg, fun i r x hx hr => hc i r x ?_ hr⟩
  rw [List.getElem?_take] at hx
  split at hx
  · exact hx
  · cases hx
theorem RdD.later {w w' : World} {A : Option Addr} {n : Nat} {vs : List W4} (h : RdD w A n vs) (hB : Below w.heap.size w w') : RdD w' A n vs := by
  refine ⟨h.1, fun h0 => ?_⟩
  obtain ⟨g, e, hg, hc⟩ := h.2 h0
  exact ⟨g, e, Nat.lt_of_lt_of_le hg hB.size, fun i r x hx hr => (hB.cell (p := ⟨g, i * 16 + r, none⟩) hg).trans (hc i r x hx hr)⟩
/-- digests, one more -/
theorem digs_run {w : World} {base : Nat} {v : Value} {vs : List W4} (h : OwnD w base v vs) (V : W4) (hm : (vs.length + 1) * 16 ≤ 140737488355328) (hb : base ≤ w.heap.size) :
    ∃ v' w', (Builtin.append_ #[34, 34] 34 #[v, .slice (some ⟨w.heap.size, 0, none⟩) 1 1]).run Tryd.prog (w.alloc (.cells (partB V 16).toArray 31)) = .ok v' w' ∧ OwnD w' base v' (vs ++ [V]) ∧
      (w.alloc (.cells (partB V 16).toArray 31)).grownBy w' v.ownBlock ∧ (v'.ownBlock = v.ownBlock ∨ v'.ownBlock = some (w.heap.size + 1)) ∧ ∃ A c, v' = .slice A (vs.length + 1) c := by
  have hi : ∃ i, Tryd.prog.info? 31 = some i ∧ i.zero = some (.agg (zeros 16).toArray) ∧ i.size = 16 ∧ i.bytes = 16 :=
    info_parts (show (Tryd.prog.info? 31).map (fun i => (i.zero, i.size, i.bytes)) = some (some (.agg (zeros 16).toArray), 16, 16) by kernel_rfl)
  obtain ⟨i, hi, hz, h1, h2⟩ := hi
  have hal : OwnD (w.alloc (.cells (partB V 16).toArray 31)) base v vs := World.ownsRow.alloc h _
  obtain ⟨v', w', hrun, h3, h4, _, h5⟩ := run_append_own_at (P := Tryd.prog) (w.alloc (.cells (partB V 16).toArray 31)) base 34 34 31 i _ 16 16 Tryd.underlying34 hi hz h1 h2 rfl (by decide) v _ _ hal ⟨w.heap.size, 0, none⟩ 1 1 (partB V 16)
    (by rw [partB_length]) (fun j u hj => by
      have hbk := (blk_new w 31 (partB V 16)).cell j
      have e : (⟨w.heap.size, 0, none⟩ : Addr).add j = ⟨w.heap.size, j, none⟩ := by
        unfold Addr.add
        split
        · rename_i h
          rw [h]
        · simp
      rw [e, hbk, hj]) (partB_one V 16) (by unfold maxLen; omega) (by omega) (by rw [World.size_alloc]; omega)
  have hf : (vs ++ [V]).length = vs.length + 1 := by simp
  have h3' : OwnD w' base v' (vs ++ [V]) := by
    unfold OwnD
    rw [hf, List.flatMap_append]
    simpa using h3
  refine ⟨v', w', hrun, h3', h4, by rwa [World.size_alloc] at h5, ?_⟩
  rcases h3'.form with ⟨_, e⟩ | ⟨g, cap, e, _⟩
  · simp at e
  · exact ⟨_, cap, by rw [e, hf]⟩
/-- the cells of a digest, one by one -/
def cellsB (V : W4) : List Value := [.int .u8 (mdByte V 0), .int .u8 (mdByte V 1), .int .u8 (mdByte V 2), .int .u8 (mdByte V 3), .int .u8 (mdByte V 4), .int .u8 (mdByte V 5), .int .u8 (mdByte V 6), .int .u8 (mdByte V 7), .int .u8 (mdByte V 8), .int .u8 (mdByte V 9), .int .u8 (mdByte V 10), .int .u8 (mdByte V 11), .int .u8 (mdByte V 12), .int .u8 (mdByte V 13), .int .u8 (mdByte V 14), .int .u8 (mdByte V 15)]
theorem cellsB_eq (V : W4) : partB V 16 = cellsB V := rfl
/-- an append whose run is known, as a step of a walk, at whatever type -/
theorem wpList_appT (t : TypeId) {w : World} {ops : Array Oper} {rest : List Oper} {o : Oper} {a : Act} {Q : Exit → Act → World → Prop} (hgd : o.guard = none) (s x : Operand)
    (ho : o.op = .call { callee := .builtin .append, args := #[s, x], argTypes := #[t, t] }) (v u : Value) (hs : a.eval s = v) (hx : a.eval x = u)
    (v' : Value) (w2 : World) (hrun : (Builtin.append_ #[t, t] o.type #[v, u]).run Tryd.prog w = .ok v' w2)
    (h : wpList Tryd.prog ops Q rest (a.put o.dst v') w2) : wpList Tryd.prog ops Q (o :: rest) a w := by
  refine wpList_plain hgd fun K hK => ?_
  unfold Oper.wp execOp
  simp only [ho, resolve, invoke, builtin, Sem.run_bind, Sem.run_pure, Result.andThen_ok, List.map_toArray, List.map_cons, List.map_nil, hs, hx, hrun]
  exact hK _ _ h
theorem wpListIn_appT (t : TypeId) {F : Fence} {n : Nat} {w : World} {ops : Array Oper} {rest : List Oper} {o : Oper} {a : Act} {Q : Exit → Act → World → Prop} (hgd : o.guard = none) (s x : Operand)
    (ho : o.op = .call { callee := .builtin .append, args := #[s, x], argTypes := #[t, t] }) (v u : Value) (hs : a.eval s = v) (hx : a.eval x = u)
    (v' : Value) (w2 : World) (hrun : (Builtin.append_ #[t, t] o.type #[v, u]).run Tryd.prog w = .ok v' w2)
    (h : wpListIn F n Tryd.prog ops Q rest (a.put o.dst v') w2) : wpListIn F n Tryd.prog ops Q (o :: rest) a w := by
  refine wpListIn_plain hgd fun K hK' => ?_
  unfold Oper.wpIn
  refine ⟨?_, ?_⟩
  · simp [Oper.about, ho, resolve, Target.leads, Sem.run_pure]
  · rw [Oper.semAt_plain F _ _ (by rw [ho]; intro c hc'; cases hc')]
    unfold execOp
    simp only [ho, resolve, invoke, builtin, Sem.run_bind, Sem.run_pure, Result.andThen_ok, List.map_toArray, List.map_cons, List.map_nil, hs, hx, hrun]
    exact hK' _ _ h
end Go.Proofs.YtnlhjlmjbmaipaaDoor
