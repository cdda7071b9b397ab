/-
  Slices of whole numbers: what came in, and what is the call's own.
-/
import Derived.Test.YtdjifjlkpimiaaaProg
import Derived.Test.YtdjifjlkpimiaaaMath
import Derived.Lib.Hide
import Derived.Lib.SliceRun
import Derived.Laws.IdiomCopy
import Derived.Maps.AppendAt
import Derived.Laws.OwnMore
import Derived.Laws.Rows
import Derived.LoopTactic
import Derived.WalkKit
import Derived.Deep.QuietTactic
import Derived.BigQuiet
import Derived.Outline
import Derived.IntWalk
namespace Go.Proofs.Ytdjifjlkpimiaaa
open Go.RowKit
set_option maxRecDepth 100000
set_option maxHeartbeats 1000000
set_option linter.unusedSimpArgs false
set_option linter.unusedVariables false

theorem blk_new (w : World) (t : Nat) (cs : List Value) : Blk (w.alloc (.cells cs.toArray t)) w.heap.size t cs := heap_alloc_new w _
theorem grown_of_below {w w' : World} (h : Below w.heap.size w w') : w.grownBy w' none := ⟨h.os, h.tape, h.output, h.size, fun i hi _ => h.block i hi⟩
theorem only_set {w : World} {p : Addr} (u : Value) : w.grownBy (w.setCell p u) (some p.block) :=
  ⟨rfl, rfl, rfl, by simp [World.setCell], fun k _ hne => Below.heap_setCell w p u k (fun e => hne (by rw [e]))⟩
theorem addr_add (g i : Nat) : (⟨g, 0, none⟩ : Addr).add i = ⟨g, i, none⟩ := by
  unfold Addr.add
  split
  · rename_i h
    rw [h]
  · simp
theorem Blk.grown {w w' : World} {g t : Nat} {cs : List Value} {row : Option Nat} (h : Blk w g t cs) (hg : w.grownBy w' row) (hne : row ≠ some g) : Blk w' g t cs :=
  (hg.block g h.lt (fun e => hne e.symm)).trans h
theorem Blk.below {w w' : World} {B g t : Nat} {cs : List Value} (h : Blk w g t cs) (hb : Below B w w') (hg : g < B) : Blk w' g t cs := (hb.block g hg).trans h
theorem Blk.drewN {w : World} {g t : Nat} {cs : List Value} (h : Blk w g t cs) (n : Nat) : Blk (w.drewN n) g t cs := h

/-- the number at place j -/
def numAt (l : List Int) (j : Nat) : Int := l.getD j 0
theorem numAt_some {l : List Int} {j : Nat} (h : j < l.length) : l[j]? = some (numAt l j) := by
  unfold numAt
  simp [List.getD_eq_getElem?_getD, h]
theorem numAt_eq {l : List Int} {j : Nat} (h : j < l.length) : numAt l j = l[j] := by
  unfold numAt
  simp [List.getD_eq_getElem?_getD, h]
/-- The slice at A of n whole numbers reads as l, all of it in blocks below B. -/
def RdI (w : World) (B : Nat) (A : Option Addr) (n : Nat) (l : List Int) : Prop :=
  l.length = n ∧ (0 < n → ∃ b off, A = some ⟨b, off, none⟩ ∧ b < B ∧ ∀ j, j < n → w.cell? ⟨b, off + j, none⟩ = some (.int .i64 (numAt l j)))
section
variable {w w' : World} {B C n : Nat} {A : Option Addr} {l : List Int}
theorem RdI.nil : RdI w B A 0 [] := ⟨rfl, fun h => absurd h (Nat.lt_irrefl 0)⟩
theorem RdI.of_zero (h : RdI w B A 0 l) : l = [] := List.eq_nil_of_length_eq_zero h.1
theorem RdI.kept (h : RdI w B A n l) (hk : ∀ p : Addr, p.block < B → w'.cell? p = w.cell? p) : RdI w' B A n l := by
  refine ⟨h.1, fun hn => ?_⟩
  obtain ⟨b, off, e, hb, hc⟩ := h.2 hn
  exact ⟨b, off, e, hb, fun j hj => (hk _ hb).trans (hc j hj)⟩
theorem RdI.wide (h : RdI w B A n l) (hB : B ≤ C) : RdI w C A n l := by
  refine ⟨h.1, fun hn => ?_⟩
  obtain ⟨b, off, e, hb, hc⟩ := h.2 hn
  exact ⟨b, off, e, by omega, hc⟩
theorem RdI.below (h : RdI w B A n l) (hb : Below C w w') (hB : B ≤ C) : RdI w' B A n l := h.kept fun _ hp => hb.cell (by omega)
theorem RdI.drewN (h : RdI w B A n l) (k : Nat) : RdI (w.drewN k) B A n l := h
theorem RdI.grown {row : Option Nat} (h : RdI w B A n l) (hg : w.grownBy w' row) (hB : B ≤ w.heap.size) (hr : ∀ g, row = some g → B ≤ g) : RdI w' B A n l :=
  h.kept fun p hp => World.cell?_of_block (hg.block p.block (by omega) (fun e => by have := hr _ e.symm; omega))
/-- the block at stake is another one than the slice's own -/
theorem RdI.off {g : Nat} (h : RdI w B A n l) (hg : w.grownBy w' (some g)) (hB : B ≤ w.heap.size) (hne : ∀ b off, A = some ⟨b, off, none⟩ → b ≠ g) : RdI w' B A n l := by
  refine ⟨h.1, fun hn => ?_⟩
  obtain ⟨b, off, e, hb, hc⟩ := h.2 hn
  exact ⟨b, off, e, hb, fun j hj => (World.cell?_of_block (hg.block b (by omega) (fun e2 => hne b off e (by injection e2)))).trans (hc j hj)⟩
end

/-- a slice of whole numbers of the call's own -/
def OwnI (w : World) (base : Nat) (v : Value) (l : List Int) : Prop := w.ownsRow base 3 1 v l.length (l.map fun z => .int .i64 z)
theorem OwnI.nil (w : World) (base : Nat) : OwnI w base (.slice none 0 0) [] := World.ownsRow_nil _ _ _ _
theorem OwnI.form {w : World} {base : Nat} {v : Value} {l : List Int} (h : OwnI w base v l) : (∃ A c, v = .slice A l.length c ∧ l.length ≤ c ∧ (A = none → c = 0)) ∧ ∀ k, v.ownBlock = some k → base ≤ k ∧ k < w.heap.size := by
  rcases h.2 with ⟨e, h0⟩ | ⟨g, cap, cur, e, hb, hg, hc, hm, _⟩
  · refine ⟨⟨none, 0, by rw [e, h0], by omega, fun _ => rfl⟩, fun k hk => ?_⟩
    rw [e] at hk
    simp [Value.ownBlock] at hk
  · refine ⟨⟨_, cap, e, hc, fun h => by cases h⟩, fun k hk => ?_⟩
    rw [e] at hk
    simp [Value.ownBlock] at hk
    subst hk
    exact ⟨hb, (Array.getElem?_eq_some_iff.1 hg).1⟩
theorem OwnI.grown {w w' : World} {base : Nat} {v : Value} {l : List Int} {row : Option Nat} (h : OwnI w base v l) (hg : w.grownBy w' row) (hne : v.ownBlock = none ∨ v.ownBlock ≠ row) : OwnI w' base v l := World.ownsRow.kept h hg hne
theorem OwnI.later {w w' : World} {base : Nat} {v : Value} {l : List Int} (h : OwnI w base v l) (hB : Below w.heap.size w w') : OwnI w' base v l := h.grown (row := none) (grown_of_below hB) (Classical.em _)
theorem OwnI.drewN {w : World} {base : Nat} {v : Value} {l : List Int} (h : OwnI w base v l) (n : Nat) : OwnI (w.drewN n) base v l := h
theorem OwnI.wide {w : World} {b b' : Nat} {v : Value} {l : List Int} (h : OwnI w b v l) (hb : b' ≤ b) : OwnI w b' v l := by
  rcases h.2 with h0 | ⟨g', cap, cur, e, hb', hr'⟩
  · exact ⟨h.1, .inl h0⟩
  · exact ⟨h.1, .inr ⟨g', cap, cur, e, by omega, hr'⟩⟩
theorem OwnI.cell {w : World} {base g n c : Nat} {l : List Int} (h : OwnI w base (.slice (some ⟨g, 0, none⟩) n c) l) (j : Nat) (hj : j < l.length) : w.cell? ⟨g, j, none⟩ = some (.int .i64 (numAt l j)) := by
  have h0 := World.ownsRow.cells h (g := g) rfl j (.int .i64 (numAt l j)) (by rw [List.getElem?_map, numAt_some hj]; rfl)
  rwa [addr_add] at h0
theorem OwnI.rd {w : World} {base n c : Nat} {A : Option Addr} {l : List Int} (h : OwnI w base (.slice A n c) l) : RdI w w.heap.size A n l ∧ n ≤ c ∧ (A = none → c = 0) ∧ (0 < n → ∃ g, A = some ⟨g, 0, none⟩ ∧ base ≤ g) := by
  rcases h.2 with ⟨e, h0⟩ | ⟨g, cap, cur, e, hb, hg, hc, hm, _⟩
  · injection e with e1 e2 e3
    subst e1; subst e2; subst e3
    rw [List.eq_nil_of_length_eq_zero h0]
    exact ⟨RdI.nil, Nat.le_refl _, fun _ => rfl, fun h => absurd h (Nat.lt_irrefl 0)⟩
  · injection e with e1 e2 e3
    subst e1; subst e2; subst e3
    refine ⟨⟨rfl, fun hn => ⟨g, 0, rfl, (Array.getElem?_eq_some_iff.1 hg).1, fun j hj => ?_⟩⟩, hc, (fun h => by cases h), fun _ => ⟨g, rfl, hb⟩⟩
    rw [Nat.zero_add]
    exact h.cell j hj
theorem OwnI.slice {w : World} {base : Nat} {v : Value} {l : List Int} (h : OwnI w base v l) : ∃ A c, v = .slice A l.length c ∧ l.length ≤ c ∧ (A = none → c = 0) := h.form.1
theorem infoI : (Try.prog.info? 3).map (fun i => (i.zero, i.size, i.bytes)) = some (some (.int .i64 0), 1, 8) := by kernel_rfl
/-- an append of numbers that lie in cells of their own -/
theorem appI_any {w : World} {base : Nat} {v : Value} {l : List Int} (h : OwnI w base v l) (b off m c : Nat) (k : List Int) (hk : k.length = m) (hcells : ∀ j, j < m → w.cell? ⟨b, off + j, none⟩ = some (.int .i64 (numAt k j))) (hm : (l.length + m) * 8 ≤ 140737488355328) (hb : base ≤ w.heap.size) :
    ∃ v' w', (Builtin.append_ #[22, 22] 22 #[v, .slice (some ⟨b, off, none⟩) m c]).run Try.prog w = .ok v' w' ∧ OwnI w' base v' (l ++ k) ∧ w.grownBy w' v.ownBlock ∧ (v'.ownBlock = v.ownBlock ∨ v'.ownBlock = some w.heap.size) := by
  obtain ⟨i, hi, hz, h1, h2⟩ := info_parts infoI
  obtain ⟨v', w', hrun, h3, h4, _, h5⟩ := run_append_own_at (P := Try.prog) w base 22 22 3 i _ 1 8 Try.underlying22 hi hz h1 h2 rfl (by decide) v _ _ h ⟨b, off, none⟩ m c (k.map fun z => .int .i64 z)
    (by rw [List.length_map, hk]; omega) (fun j u hj => by
      rw [List.getElem?_map] at hj
      have hjl : j < m := by
        rcases Nat.lt_or_ge j k.length with x | x
        · omega
        · rw [List.getElem?_eq_none x] at hj; cases hj
      rw [numAt_some (by omega)] at hj
      have e : (⟨b, off, none⟩ : Addr).add j = ⟨b, off + j, none⟩ := by
        unfold Addr.add
        split
        · rename_i h; rw [h]; rfl
        · simp
      rw [e, hcells j hjl]
      simpa using hj) (by intro u hu; obtain ⟨z, _, rfl⟩ := List.mem_map.1 hu; rfl) (by unfold maxLen; omega) (by omega) hb
  refine ⟨v', w', hrun, ?_, h4, h5⟩
  unfold OwnI
  rw [List.length_append, List.map_append, hk]
  exact h3
theorem appI_one {w : World} {base : Nat} {v : Value} {l : List Int} (h : OwnI w base v l) (z : Int) (hm : (l.length + 1) * 8 ≤ 140737488355328) (hb : base ≤ w.heap.size) :
    ∃ v' w', (Builtin.append_ #[22, 22] 22 #[v, .slice (some ⟨w.heap.size, 0, none⟩) 1 1]).run Try.prog (w.alloc (.cells #[.int .i64 z] 3)) = .ok v' w' ∧ OwnI w' base v' (l ++ [z]) ∧
      Below base w w' ∧ w.grownBy w' v.ownBlock ∧ (v'.ownBlock = v.ownBlock ∨ ∃ k, v'.ownBlock = some k ∧ w.heap.size ≤ k) := by
  have hal : OwnI (w.alloc (.cells #[.int .i64 z] 3)) base v l := World.ownsRow.alloc h _
  obtain ⟨v', w', hrun, h3, h4, h5⟩ := appI_any hal w.heap.size 0 1 1 [z] rfl (fun j hj => by
    obtain rfl : j = 0 := by omega
    exact (blk_new w 3 [.int .i64 z]).cell 0) hm (by simp; omega)
  refine ⟨v', w', hrun, h3, ((Below.refl base w).alloc hb _).grown h4 (by simp; omega) (fun k e => (h.form.2 k e).1), ?_, ?_⟩
  · refine ⟨h4.os, h4.tape, h4.output, by have := h4.size; simp at this; omega, fun i hi hne => ?_⟩
    rw [h4.block i (by simp; omega) hne]
    exact Below.heap_alloc _ _ _ hi
  · rcases h5 with h5 | h5
    · exact .inl h5
    · exact .inr ⟨_, h5, by simp⟩
/-- an append whose run is known, as a step of a walk, at whatever types -/
theorem wpList_appR (t t' : TypeId) {w : World} {ops : Array Oper} {rest : List Oper} {o : Oper} {a : Act} {Q : Exit → Act → World → Prop} (hgd : o.guard = none) (s x : Operand)
    (ho : o.op = .call { callee := .builtin .append, args := #[s, x], argTypes := #[t, t'] }) (v u : Value) (hs : a.eval s = v) (hx : a.eval x = u)
    (v' : Value) (w2 : World) (hrun : (Builtin.append_ #[t, t'] o.type #[v, u]).run Try.prog w = .ok v' w2)
    (h : wpList Try.prog ops Q rest (a.put o.dst v') w2) : wpList Try.prog ops Q (o :: rest) a w := by
  refine wpList_plain hgd fun K hK => ?_
  unfold Oper.wp execOp
  simp only [ho, resolve, invoke, builtin, Sem.run_bind, Sem.run_pure, Result.andThen_ok, List.map_toArray, List.map_cons, List.map_nil, hs, hx, hrun]
  exact hK _ _ h
end Go.Proofs.Ytdjifjlkpimiaaa
