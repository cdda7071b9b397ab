/-
  Slices of floats: what came in, and what is the call's own; a list of floats that is an argument.
-/
import Derived.Test.YtplmflgmfffdhaaDoorProg
import Derived.Test.YtplmflgmfffdhaaDoorMath
import Derived.Lib.Hide
import Derived.Lib.SliceRun
import Derived.Laws.IdiomCopy
import Derived.Maps.AppendAt
import Derived.Laws.OwnMore
import Derived.Laws.Rows
import Derived.LoopTactic
import Derived.WalkKit
import Derived.Deep.QuietTactic
import Derived.BigQuiet
import Derived.Outline
import Derived.IntWalk
import Derived.Test.YtplmflgmfffdhaaDoorMeCmp
import Derived.Deep.Slices
import Derived.ProofKit
import Derived.SizedLaws
import Derived.OpenShut
import Derived.Laws.Cover2
namespace Go.Proofs.YtplmflgmfffdhaaDoor
open Go.RowKit
set_option maxRecDepth 100000
set_option maxHeartbeats 1000000
set_option linter.unusedSimpArgs false
set_option linter.unusedVariables false

theorem blk_new (w : World) (t : Nat) (cs : List Value) : Blk (w.alloc (.cells cs.toArray t)) w.heap.size t cs := heap_alloc_new w _
theorem grown_of_below {w w' : World} (h : Below w.heap.size w w') : w.grownBy w' none := ⟨h.os, h.tape, h.output, h.size, fun i hi _ => h.block i hi⟩
theorem only_set {w : World} {p : Addr} (u : Value) : w.grownBy (w.setCell p u) (some p.block) :=
  ⟨rfl, rfl, rfl, by simp [World.setCell], fun k _ hne => Below.heap_setCell w p u k (fun e => hne (by rw [e]))⟩
theorem addr_add (g i : Nat) : (⟨g, 0, none⟩ : Addr).add i = ⟨g, i, none⟩ := by
  unfold Addr.add
  split
  · rename_i h
    rw [h]
  · simp
theorem Blk.grown {w w' : World} {g t : Nat} {cs : List Value} {row : Option Nat} (h : Blk w g t cs) (hg : w.grownBy w' row) (hne : row ≠ some g) : Blk w' g t cs :=
  (hg.block g h.lt (fun e => hne e.symm)).trans h
theorem Blk.below {w w' : World} {B g t : Nat} {cs : List Value} (h : Blk w g t cs) (hb : Below B w w') (hg : g < B) : Blk w' g t cs := (hb.block g hg).trans h
theorem Blk.drewN {w : World} {g t : Nat} {cs : List Value} (h : Blk w g t cs) (n : Nat) : Blk (w.drewN n) g t cs := h

/-- the number at place j -/
def numAt (l : List Nat) (j : Nat) : Nat := l.getD j 0
theorem numAt_some {l : List Nat} {j : Nat} (h : j < l.length) : l[j]? = some (numAt l j) := by
  unfold numAt
  simp [List.getD_eq_getElem?_getD, h]
theorem numAt_eq {l : List Nat} {j : Nat} (h : j < l.length) : numAt l j = l[j] := by
  unfold numAt
  simp [List.getD_eq_getElem?_getD, h]
/-- The slice at A of n whole numbers reads as l, all of it in blocks below B. -/
def RdF (w : World) (B : Nat) (A : Option Addr) (n : Nat) (l : List Nat) : Prop :=
  l.length = n ∧ (0 < n → ∃ b off, A = some ⟨b, off, none⟩ ∧ b < B ∧ ∀ j, j < n → w.cell? ⟨b, off + j, none⟩ = some (.float .f64 (numAt l j)))
section
variable {w w' : World} {B C n : Nat} {A : Option Addr} {l : List Nat}
theorem RdF.nil : RdF w B A 0 [] := ⟨rfl, fun h => absurd h (Nat.lt_irrefl 0)⟩
theorem RdF.of_zero (h : RdF w B A 0 l) : l = [] := List.eq_nil_of_length_eq_zero h.1
theorem RdF.kept (h : RdF w B A n l) (hk : ∀ p : Addr, p.block < B → w'.cell? p = w.cell? p) : RdF w' B A n l := by
  refine ⟨h.1, fun hn => ?_⟩
  obtain ⟨b, off, e, hb, hc⟩ := h.2 hn
  exact ⟨b, off, e, hb, fun j hj => (hk _ hb).trans (hc j hj)⟩
theorem RdF.wide (h : RdF w B A n l) (hB : B ≤ C) : RdF w C A n l := by
  refine ⟨h.1, fun hn => ?_⟩
  obtain ⟨b, off, e, hb, hc⟩ := h.2 hn
  exact ⟨b, off, e, by omega, hc⟩
theorem RdF.below (h : RdF w B A n l) (hb : Below C w w') (hB : B ≤ C) : RdF w' B A n l := h.kept fun _ hp => hb.cell (by omega)
theorem RdF.drewN (h : RdF w B A n l) (k : Nat) : RdF (w.drewN k) B A n l := h
theorem RdF.grown {row : Option Nat} (h : RdF w B A n l) (hg : w.grownBy w' row) (hB : B ≤ w.heap.size) (hr : ∀ g, row = some g → B ≤ g) : RdF w' B A n l :=
  h.kept fun p hp => World.cell?_of_block (hg.block p.block (by omega) (fun e => by have := hr _ e.symm; omega))
/-- the block at stake is another one than the slice's own -/
theorem RdF.off {g : Nat} (h : RdF w B A n l) (hg : w.grownBy w' (some g)) (hB : B ≤ w.heap.size) (hne : ∀ b off, A = some ⟨b, off, none⟩ → b ≠ g) : RdF w' B A n l := by
  refine ⟨h.1, fun hn => ?_⟩
  obtain ⟨b, off, e, hb, hc⟩ := h.2 hn
  exact ⟨b, off, e, hb, fun j hj => (World.cell?_of_block (hg.block b (by omega) (fun e2 => hne b off e (by injection e2)))).trans (hc j hj)⟩
end

/-- a slice of whole numbers of the call's own -/
def OwnF (w : World) (base : Nat) (v : Value) (l : List Nat) : Prop := w.ownsRow base 22 1 v l.length (l.map fun z => .float .f64 z)
theorem OwnF.nil (w : World) (base : Nat) : OwnF w base (.slice none 0 0) [] := World.ownsRow_nil _ _ _ _
theorem OwnF.form {w : World} {base : Nat} {v : Value} {l : List Nat} (h : OwnF w base v l) : (∃ A c, v = .slice A l.length c ∧ l.length ≤ c ∧ (A = none → c = 0)) ∧ ∀ k, v.ownBlock = some k → base ≤ k ∧ k < w.heap.size := by
  rcases h.2 with ⟨e, h0⟩ | ⟨g, cap, cur, e, hb, hg, hc, hm, _⟩
  · refine ⟨⟨none, 0, by rw [e, h0], by omega, fun _ => rfl⟩, fun k hk => ?_⟩
    rw [e] at hk
    simp [Value.ownBlock] at hk
  · refine ⟨⟨_, cap, e, hc, fun h => by cases h⟩, fun k hk => ?_⟩
    rw [e] at hk
    simp [Value.ownBlock] at hk
    subst hk
    exact ⟨hb, (Array.getElem?_eq_some_iff.1 hg).1⟩
theorem OwnF.grown {w w' : World} {base : Nat} {v : Value} {l : List Nat} {row : Option Nat} (h : OwnF w base v l) (hg : w.grownBy w' row) (hne : v.ownBlock = none ∨ v.ownBlock ≠ row) : OwnF w' base v l := World.ownsRow.kept h hg hne
theorem OwnF.later {w w' : World} {base : Nat} {v : Value} {l : List Nat} (h : OwnF w base v l) (hB : Below w.heap.size w w') : OwnF w' base v l := h.grown (row := none) (grown_of_below hB) (Classical.em _)
theorem OwnF.drewN {w : World} {base : Nat} {v : Value} {l : List Nat} (h : OwnF w base v l) (n : Nat) : OwnF (w.drewN n) base v l := h
theorem OwnF.wide {w : World} {b b' : Nat} {v : Value} {l : List Nat} (h : OwnF w b v l) (hb : b' ≤ b) : OwnF w b' v l := by
  rcases h.2 with h0 | ⟨g', cap, cur, e, hb', hr'⟩
  · exact ⟨h.1, .inl h0⟩
  · exact ⟨h.1, .inr ⟨g', cap, cur, e, by omega, hr'⟩⟩
theorem OwnF.cell {w : World} {base g n c : Nat} {l : List Nat} (h : OwnF w base (.slice (some ⟨g, 0, none⟩) n c) l) (j : Nat) (hj : j < l.length) : w.cell? ⟨g, j, none⟩ = some (.float .f64 (numAt l j)) := by
  have h0 := World.ownsRow.cells h (g := g) rfl j (.float .f64 (numAt l j)) (by rw [List.getElem?_map, numAt_some hj]; rfl)
  rwa [addr_add] at h0
theorem OwnF.rd {w : World} {base n c : Nat} {A : Option Addr} {l : List Nat} (h : OwnF w base (.slice A n c) l) : RdF w w.heap.size A n l ∧ n ≤ c ∧ (A = none → c = 0) ∧ (0 < n → ∃ g, A = some ⟨g, 0, none⟩ ∧ base ≤ g) := by
  rcases h.2 with ⟨e, h0⟩ | ⟨g, cap, cur, e, hb, hg, hc, hm, _⟩
  · injection e with e1 e2 e3
    subst e1; subst e2; subst e3
    rw [List.eq_nil_of_length_eq_zero h0]
    exact ⟨RdF.nil, Nat.le_refl _, fun _ => rfl, fun h => absurd h (Nat.lt_irrefl 0)⟩
  · injection e with e1 e2 e3
    subst e1; subst e2; subst e3
    refine ⟨⟨rfl, fun hn => ⟨g, 0, rfl, (Array.getElem?_eq_some_iff.1 hg).1, fun j hj => ?_⟩⟩, hc, (fun h => by cases h), fun _ => ⟨g, rfl, hb⟩⟩
    rw [Nat.zero_add]
    exact h.cell j hj
theorem OwnF.slice {w : World} {base : Nat} {v : Value} {l : List Nat} (h : OwnF w base v l) : ∃ A c, v = .slice A l.length c ∧ l.length ≤ c ∧ (A = none → c = 0) := h.form.1
theorem infoF : (Tryd.prog.info? 22).map (fun i => (i.zero, i.size, i.bytes)) = some (some (.float .f64 0), 1, 8) := by kernel_rfl
/-- an append of numbers that lie in cells of their own -/
theorem appF_any {w : World} {base : Nat} {v : Value} {l : List Nat} (h : OwnF w base v l) (b off m c : Nat) (k : List Nat) (hk : k.length = m) (hcells : ∀ j, j < m → w.cell? ⟨b, off + j, none⟩ = some (.float .f64 (numAt k j))) (hm : (l.length + m) * 8 ≤ 140737488355328) (hb : base ≤ w.heap.size) :
    ∃ v' w', (Builtin.append_ #[31, 31] 31 #[v, .slice (some ⟨b, off, none⟩) m c]).run Tryd.prog w = .ok v' w' ∧ OwnF w' base v' (l ++ k) ∧ w.grownBy w' v.ownBlock ∧ (v'.ownBlock = v.ownBlock ∨ v'.ownBlock = some w.heap.size) := by
  obtain ⟨i, hi, hz, h1, h2⟩ := info_parts infoF
  obtain ⟨v', w', hrun, h3, h4, _, h5⟩ := run_append_own_at (P := Tryd.prog) w base 31 31 22 i _ 1 8 Tryd.underlying31 hi hz h1 h2 rfl (by decide) v _ _ h ⟨b, off, none⟩ m c (k.map fun z => .float .f64 z)
    (by rw [List.length_map, hk]; omega) (fun j u hj => by
      rw [List.getElem?_map] at hj
      have hjl : j < m := by
        rcases Nat.lt_or_ge j k.length with x | x
        · omega
        · rw [List.getElem?_eq_none x] at hj; cases hj
      rw [numAt_some (by omega)] at hj
      have e : (⟨b, off, none⟩ : Addr).add j = ⟨b, off + j, none⟩ := by
        unfold Addr.add
        split
        · rename_i h; rw [h]; rfl
        · simp
      rw [e, hcells j hjl]
      simpa using hj) (by intro u hu; obtain ⟨z, _, rfl⟩ := List.mem_map.1 hu; rfl) (by unfold maxLen; omega) (by omega) hb
  refine ⟨v', w', hrun, ?_, h4, h5⟩
  unfold OwnF
  rw [List.length_append, List.map_append, hk]
  exact h3
theorem appF_one {w : World} {base : Nat} {v : Value} {l : List Nat} (h : OwnF w base v l) (z : Nat) (hm : (l.length + 1) * 8 ≤ 140737488355328) (hb : base ≤ w.heap.size) :
    ∃ v' w', (Builtin.append_ #[31, 31] 31 #[v, .slice (some ⟨w.heap.size, 0, none⟩) 1 1]).run Tryd.prog (w.alloc (.cells #[.float .f64 z] 22)) = .ok v' w' ∧ OwnF w' base v' (l ++ [z]) ∧
      Below base w w' ∧ w.grownBy w' v.ownBlock ∧ (v'.ownBlock = v.ownBlock ∨ ∃ k, v'.ownBlock = some k ∧ w.heap.size ≤ k) := by
  have hal : OwnF (w.alloc (.cells #[.float .f64 z] 22)) base v l := World.ownsRow.alloc h _
  obtain ⟨v', w', hrun, h3, h4, h5⟩ := appF_any hal w.heap.size 0 1 1 [z] rfl (fun j hj => by
    obtain rfl : j = 0 := by omega
    exact (blk_new w 22 [.float .f64 z]).cell 0) hm (by simp; omega)
  refine ⟨v', w', hrun, h3, ((Below.refl base w).alloc hb _).grown h4 (by simp; omega) (fun k e => (h.form.2 k e).1), ?_, ?_⟩
  · refine ⟨h4.os, h4.tape, h4.output, by have := h4.size; simp at this; omega, fun i hi hne => ?_⟩
    rw [h4.block i (by simp; omega) hne]
    exact Below.heap_alloc _ _ _ hi
  · rcases h5 with h5 | h5
    · exact .inl h5
    · exact .inr ⟨_, h5, by simp⟩
/-- an append of floats, wherever they lie -/
theorem appF_rd {w : World} {base B : Nat} {v : Value} {l k : List Nat} {A : Option Addr} {n c : Nat} (h : OwnF w base v l) (hr : RdF w B A n k) (hz : A = none → c = 0) (hm : (l.length + n) * 8 ≤ 140737488355328) (hb : base ≤ w.heap.size) :
    ∃ v' w', (Builtin.append_ #[31, 31] 31 #[v, .slice A n c]).run Tryd.prog w = .ok v' w' ∧ OwnF w' base v' (l ++ k) ∧ w.grownBy w' v.ownBlock ∧ (v'.ownBlock = v.ownBlock ∨ v'.ownBlock = some w.heap.size) := by
  cases A with
  | none =>
    have hn : n = 0 := by
      rcases Nat.eq_zero_or_pos n with e | e
      · exact e
      · obtain ⟨b, off, e2, _⟩ := hr.2 e
        cases e2
    subst hn
    rw [hz rfl]
    obtain ⟨i, hi, _, h1, _⟩ := info_parts infoF
    refine ⟨v, w, run_append_owned_none w base 31 31 22 i 1 Tryd.underlying31 hi v _ _ h, ?_, World.grownBy.refl _ _, .inl rfl⟩
    rw [hr.of_zero, List.append_nil]
    exact h
  | some p =>
    rcases Nat.eq_zero_or_pos n with e | e
    · subst e
      have hk := hr.of_zero
      subst hk
      obtain ⟨i, hi, hz, h1, h2⟩ := info_parts infoF
      obtain ⟨v', w', hrun, h3, h4, _, h5⟩ := run_append_own_at (P := Tryd.prog) w base 31 31 22 i _ 1 8 Tryd.underlying31 hi hz h1 h2 rfl (by decide) v _ _ h p 0 c []
        rfl (fun j u hj => by simp at hj) (by simp) (by unfold maxLen; omega) (by omega) hb
      refine ⟨v', w', hrun, ?_, h4, h5⟩
      rw [List.append_nil] at h3 ⊢
      exact h3
    · obtain ⟨b, off, e2, hbl, hc⟩ := hr.2 e
      injection e2 with e2
      subst e2
      exact appF_any h b off n c k hr.1 hc hm hb

/-- an append whose run is known, as a step of a walk, at whatever types -/
theorem wpList_appR (t t' : TypeId) {w : World} {ops : Array Oper} {rest : List Oper} {o : Oper} {a : Act} {Q : Exit → Act → World → Prop} (hgd : o.guard = none) (s x : Operand)
    (ho : o.op = .call { callee := .builtin .append, args := #[s, x], argTypes := #[t, t'] }) (v u : Value) (hs : a.eval s = v) (hx : a.eval x = u)
    (v' : Value) (w2 : World) (hrun : (Builtin.append_ #[t, t'] o.type #[v, u]).run Tryd.prog w = .ok v' w2)
    (h : wpList Tryd.prog ops Q rest (a.put o.dst v') w2) : wpList Tryd.prog ops Q (o :: rest) a w := by
  refine wpList_plain hgd fun K hK => ?_
  unfold Oper.wp execOp
  simp only [ho, resolve, invoke, builtin, Sem.run_bind, Sem.run_pure, Result.andThen_ok, List.map_toArray, List.map_cons, List.map_nil, hs, hx, hrun]
  exact hK _ _ h
open Go.ChangeShapes Go.WideShapes Go.Deep
section
variable {H : Type} {enc : TypeId × Value → H}
theorem fl_cells : Tryd.prog.cellsOf 22 = 1 := by kernel_rfl
theorem fl_bytes : Tryd.prog.bytesOf 22 = 8 := by kernel_rfl
theorem fl_open {W : World} {fuel : Nat} {v : Value} {y : DataW H × List MemPlace} (h : DataW.trod enc Tryd.prog W 0 (fun _ => true) true fuel 22 [v] = some y) : ∃ b : Nat, v = .float .f64 b ∧ Word b := by
  cases fuel with
  | zero => simp [DataW.trod] at h
  | succ n =>
    simp only [DataW.trod, Tryd.underlying22] at h
    cases v with
    | float k b =>
      by_cases hk : k = .f64
      · subst hk
        by_cases hw : (Lit.float .f64 b).wf = true
        · exact ⟨b, rfl, by unfold Word; simpa [Lit.wf] using hw⟩
        · simp [hw] at h
      · simp [hk] at h
    | _ => simp at h
theorem floats_open {W : World} {fuel : Nat} {a : Option Addr} {n c : Nat} {d : DataW H} {p : List MemPlace} (h : DataW.trod enc Tryd.prog W 0 (fun _ => true) true fuel 31 [.slice a n c] = some (d, p))
    (hw : ∀ x ∈ d.weights Tryd.prog 31, x ≤ 140737488351232) : ∃ l, RdF W W.heap.size a n l ∧ (∀ x ∈ l, Word x) ∧ n ≤ 17592186043904 ∧ (a = none → c = 0) := by
  rcases open_slice1 Tryd.underlying31 fl_cells h with ⟨hcs, _⟩ | ⟨x, l, c', m, f, V, D, Pl, hcs, _, hl, hm, hmm, hx, hi⟩
  · simp at hcs
    obtain ⟨rfl, rfl, rfl⟩ := hcs
    exact ⟨[], RdF.nil, by simp, by omega, fun _ => rfl⟩
  · simp at hcs
    obtain ⟨rfl, rfl, rfl⟩ := hcs
    simp only [Prod.mk.injEq] at hx
    obtain ⟨rfl, _⟩ := hx
    simp only [if_true] at hmm
    subst hmm
    have hn : n ≤ 17592186043904 := by
      have hw2 := hw
      unfold DataW.weights at hw2
      rw [Tryd.underlying31] at hw2
      have hs := hw2 _ (List.mem_cons.2 (.inl rfl))
      simp only [List.length_map, List.length_range, fl_bytes] at hs
      omega
    have each : ∀ i, i < n → ∃ b : Nat, W.cell? (x.add i) = some (.float .f64 b) ∧ Word b := by
      intro i hin
      obtain ⟨h1, h2⟩ := hi i (by omega)
      obtain ⟨b, hb, hwb⟩ := fl_open h2
      exact ⟨b, by rw [h1, hb], hwb⟩
    obtain ⟨Q, hQ⟩ := choose_lt each
    refine ⟨(List.range n).map Q, ⟨by simp, fun h0 => ?_⟩, ?_, hn, (fun e => by cases e)⟩
    · obtain ⟨b, off, spot⟩ := x
      have hq := (hQ 0 h0).1
      have hspot : spot = none := by simpa [Addr.add] using World.cell?_spot hq
      subst hspot
      have hb := World.block_lt_of_cell? _ _ hq
      have ea : ∀ o j : Nat, (⟨b, o, none⟩ : Addr).add j = ⟨b, o + j, none⟩ := by
        intro o j
        unfold Addr.add
        split
        · subst_vars
          rfl
        · rfl
      rw [ea] at hb
      refine ⟨b, off, rfl, hb, fun i hin => ?_⟩
      have := (hQ i hin).1
      rw [ea] at this
      rw [this]
      unfold numAt
      simp [List.getD_eq_getElem?_getD, hin]
    · intro y hy
      obtain ⟨i, hir, rfl⟩ := List.mem_map.1 hy
      exact (hQ i (List.mem_range.1 hir)).2
end
end Go.Proofs.YtplmflgmfffdhaaDoor
