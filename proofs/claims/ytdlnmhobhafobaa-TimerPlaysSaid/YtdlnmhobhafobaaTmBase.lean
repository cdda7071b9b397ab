/-
  Worlds that grow; rows of timers (two numbers each) of the call's own.
-/
import Derived.Test.YtdlnmhobhafobaaProg
import Derived.Test.YtdlnmhobhafobaaMath
import Derived.Lib.Hide
import Derived.Lib.SliceRun
import Derived.Laws.IdiomCopy
import Derived.Maps.AppendAt
import Derived.Laws.OwnMore
import Derived.Laws.Rows
import Derived.LoopTactic
import Derived.Deep.Light
import Derived.RangeFuncNested
import Derived.RangeFuncBound
import Derived.RangeFuncCalls
import Derived.RangeFuncLeaves
import Derived.Shelf.Abstract
import Derived.WalkKit
import Derived.OwnWalkIn
import Derived.TacticsInMore
import Derived.LoopNIn
import Derived.LoopIn
import Derived.Scope
namespace Go.Proofs.Ytdlnmhobhafobaa
open Go.RowKit Go.Shelf
set_option maxRecDepth 100000
set_option maxHeartbeats 1000000
set_option linter.unusedSimpArgs false
set_option linter.unusedVariables false

theorem blk_new (w : World) (t : Nat) (cs : List Value) : Blk (w.alloc (.cells cs.toArray t)) w.heap.size t cs := heap_alloc_new w _
theorem grown_setRow {w : World} {g : Nat} (cs : Array Value) : w.grownBy (w.setRow g cs) (some g) :=
  ⟨rfl, rfl, rfl, by simp [World.setRow], fun k _ hne => setRow_other w g k cs (fun e => hne (by rw [e]))⟩
theorem only_alloc {a w : World} {row : Option Nat} (h : a.grownBy w row) (o : Obj) : a.grownBy (w.alloc o) row :=
  ⟨h.os, h.tape, h.output, Nat.le_trans h.size (by simp), fun i hi hne => (Below.heap_alloc w o i (Nat.lt_of_lt_of_le hi h.size)).trans (h.block i hi hne)⟩
theorem only_then {a b c : World} {row row' : Option Nat} (h : a.grownBy b row) (k : b.grownBy c row') (hr : ∀ g, row' = some g → row = some g ∨ a.heap.size ≤ g) : a.grownBy c row := by
  refine ⟨k.os.trans h.os, k.tape.trans h.tape, k.output.trans h.output, Nat.le_trans h.size k.size, fun i hi hne => ?_⟩
  rw [k.block i (Nat.lt_of_lt_of_le hi h.size) ?_, h.block i hi hne]
  intro e
  rcases hr i e.symm with e' | e'
  · exact hne e'.symm
  · omega
theorem only_set {w : World} {p : Addr} (u : Value) : w.grownBy (w.setCell p u) (some p.block) :=
  ⟨rfl, rfl, rfl, by simp [World.setCell], fun k _ hne => Below.heap_setCell w p u k (fun e => hne (by rw [e]))⟩
theorem grown_of_below {w w' : World} (h : Below w.heap.size w w') : w.grownBy w' none := ⟨h.os, h.tape, h.output, h.size, fun i hi _ => h.block i hi⟩
theorem blk_own {β : Type} (g t : Nat) (f : β → List Value) : _root_.Go.Own (fun (s : β) W => Blk W g t (f s)) := fun s X Y row hs hg hrow =>
  (hg.block g (Blk.lt hs) (fun e => by
    obtain ⟨o, ho, hc⟩ := hrow g e.symm
    rw [show X.heap[g]? = _ from hs] at ho
    cases ho
    cases hc)).trans hs
theorem wpIn_scope {n : Nat} {P : Program} {c : Code} {Q : Exit → Act → World → Prop} {a : Act} {w : World} (h : c.wpIn Fence.wide n P (Exit.noGoto Q) a w) : (Code.scope c).wpIn Fence.wide n P Q a w :=
  wpIn_wide.2 (wp_scope_straight (wpIn_wide.1 h))
theorem addr_add (g i : Nat) : (⟨g, 0, none⟩ : Addr).add i = ⟨g, i, none⟩ := by
  unfold Addr.add
  split
  · rename_i h
    rw [h]
  · simp

/-- a timer: its number and its deadline -/
abbrev T2 := Int × Int
def cellsT (x : T2) : List Value := [.int .i64 x.1, .int .i64 x.2]
/-- a slice of timers of the call's own -/
def OwnT (w : World) (base : Nat) (v : Value) (xs : List T2) : Prop := w.ownsRow base 95 2 v xs.length (xs.flatMap cellsT)
theorem OwnT.nil (w : World) (base : Nat) : OwnT w base (.slice none 0 0) [] := World.ownsRow_nil _ _ _ _
theorem OwnT.form {w : World} {base : Nat} {v : Value} {xs : List T2} (h : OwnT w base v xs) :
    (v = .slice none 0 0 ∧ xs = []) ∨ ∃ g cap, v = .slice (some ⟨g, 0, none⟩) xs.length cap ∧ base ≤ g ∧ g < w.heap.size ∧ xs.length ≤ cap ∧ cap ≤ maxLen := by
  rcases h.2 with ⟨e, h0⟩ | ⟨g, cap, cur, e, hb, hg, hc, hm, _⟩
  · exact .inl ⟨e, List.eq_nil_of_length_eq_zero h0⟩
  · exact .inr ⟨g, cap, e, hb, (Array.getElem?_eq_some_iff.1 hg).1, hc, hm⟩
theorem OwnT.slice {w : World} {base : Nat} {v : Value} {xs : List T2} (h : OwnT w base v xs) : ∃ A c, v = .slice A xs.length c ∧ xs.length ≤ c := by
  rcases h.form with ⟨rfl, rfl⟩ | ⟨g, cap, rfl, _, _, hc, _⟩
  · exact ⟨none, 0, rfl, Nat.le_refl _⟩
  · exact ⟨_, cap, rfl, hc⟩
theorem OwnT.grown {w w' : World} {base : Nat} {v : Value} {xs : List T2} {row : Option Nat} (h : OwnT w base v xs) (hg : w.grownBy w' row) (hne : v.ownBlock = none ∨ v.ownBlock ≠ row) : OwnT w' base v xs := World.ownsRow.kept h hg hne
theorem OwnT.later {w w' : World} {base : Nat} {v : Value} {xs : List T2} (h : OwnT w base v xs) (hB : Below w.heap.size w w') : OwnT w' base v xs := h.grown (row := none) (grown_of_below hB) (Classical.em _)
theorem OwnT.wide {w : World} {b b' : Nat} {v : Value} {xs : List T2} (h : OwnT w b v xs) (hb : b' ≤ b) : OwnT w b' v xs := by
  rcases h.2 with h0 | ⟨g', cap, cur, e, hb', hr'⟩
  · exact ⟨h.1, .inl h0⟩
  · exact ⟨h.1, .inr ⟨g', cap, cur, e, by omega, hr'⟩⟩
theorem OwnT.block {w : World} {base : Nat} {v : Value} {xs : List T2} (h : OwnT w base v xs) : ∀ k, v.ownBlock = some k → base ≤ k ∧ k < w.heap.size := by
  intro k hk
  rcases h.form with ⟨rfl, _⟩ | ⟨g, cap, rfl, h1, h2, _⟩
  · simp [Value.ownBlock] at hk
  · simp [Value.ownBlock] at hk
    omega
theorem flatT : ∀ (xs : List T2) (i r : Nat) (x : T2), xs[i]? = some x → r < 2 → (xs.flatMap cellsT)[2 * i + r]? = (cellsT x)[r]?
  | [], i, r, x, h, _ => by simp at h
  | y :: xs, 0, r, x, h, hr => by
    simp at h
    subst h
    rw [List.flatMap_cons, List.getElem?_append_left (by show _ < 2; omega)]
    congr 1
    omega
  | y :: xs, i + 1, r, x, h, hr => by
    rw [List.flatMap_cons, List.getElem?_append_right (by show 2 ≤ _; omega)]
    have := flatT xs i r x (by simpa using h) hr
    rw [← this]
    congr 1
    show 2 * (i + 1) + r - 2 = _
    omega
theorem OwnT.cell {w : World} {base g n cap : Nat} {xs : List T2} (h : OwnT w base (.slice (some ⟨g, 0, none⟩) n cap) xs) (i : Nat) (x : T2) (hx : xs[i]? = some x) :
    w.cell? ⟨g, i * 2, none⟩ = some (.int .i64 x.1) ∧ w.cell? ⟨g, i * 2 + 1, none⟩ = some (.int .i64 x.2) := by
  have h0 := World.ownsRow.cells h (g := g) rfl (2 * i + 0) (.int .i64 x.1) (by rw [flatT xs i 0 x hx (by omega)]; rfl)
  have h1 := World.ownsRow.cells h (g := g) rfl (2 * i + 1) (.int .i64 x.2) (by rw [flatT xs i 1 x hx (by omega)]; rfl)
  rw [addr_add] at h0 h1
  rw [show i * 2 = 2 * i + 0 by omega, show 2 * i + 0 + 1 = 2 * i + 1 by omega]
  exact ⟨h0, h1⟩
theorem cellsT_one (x : T2) : ∀ u ∈ cellsT x, u.oneCell' = true := by
  intro u hu
  simp [cellsT] at hu
  rcases hu with rfl | rfl <;> rfl
theorem flat_one (xs : List T2) : ∀ u ∈ xs.flatMap cellsT, u.oneCell' = true := by
  intro u hu
  obtain ⟨x, _, hx⟩ := List.mem_flatMap.1 hu
  exact cellsT_one x u hx
theorem flat_length (xs : List T2) : (xs.flatMap cellsT).length = 2 * xs.length := by
  induction xs with
  | nil => rfl
  | cons x xs ih =>
    rw [List.flatMap_cons, List.length_append, ih, List.length_cons]
    show 2 + _ = _
    omega
theorem infoT : (Try.prog.info? 95).map (fun i => (i.zero, i.size, i.bytes)) = some (some (.agg #[.int .i64 0, .int .i64 0]), 2, 16) := by kernel_rfl
/-- an append onto timers of the call's own -/
theorem appT_run {w : World} {base : Nat} {v : Value} {xs : List T2} (h : OwnT w base v xs) (b m c : Nat) (ys : List T2) (hm : ys.length = m) (hcells : ∀ j u, (ys.flatMap cellsT)[j]? = some u → w.cell? ⟨b, j, none⟩ = some u) (hl : (xs.length + m) * 16 ≤ 140737488355328) (hb : base ≤ w.heap.size) :
    ∃ v' w', (Builtin.append_ #[90, 90] 90 #[v, .slice (some ⟨b, 0, none⟩) m c]).run Try.prog w = .ok v' w' ∧ OwnT w' base v' (xs ++ ys) ∧ w.grownBy w' v.ownBlock ∧ (v'.ownBlock = v.ownBlock ∨ v'.ownBlock = some w.heap.size) := by
  obtain ⟨i, hi, hz, h1, h2⟩ := info_parts infoT
  obtain ⟨v', w', hrun, h3, h4, _, h5⟩ := run_append_own_at (P := Try.prog) w base 90 90 95 i _ 2 16 Try.underlying90 hi hz h1 h2 rfl (by decide) v _ _ h ⟨b, 0, none⟩ m c (ys.flatMap cellsT)
    (by rw [flat_length, hm]; omega) (fun j u hj => by rw [addr_add]; exact hcells j u hj) (flat_one ys) (by unfold maxLen; omega) (by omega) hb
  refine ⟨v', w', hrun, ?_, h4, h5⟩
  unfold OwnT
  rw [List.length_append, List.flatMap_append, hm]
  exact h3
/-- an append whose run is known, as a step of a walk, at whatever types -/
theorem wpList_appT (t t' : TypeId) {w : World} {ops : Array Oper} {rest : List Oper} {o : Oper} {a : Act} {Q : Exit → Act → World → Prop} (hgd : o.guard = none) (s x : Operand)
    (ho : o.op = .call { callee := .builtin .append, args := #[s, x], argTypes := #[t, t'] }) (v u : Value) (hs : a.eval s = v) (hx : a.eval x = u)
    (v' : Value) (w2 : World) (hrun : (Builtin.append_ #[t, t'] o.type #[v, u]).run Try.prog w = .ok v' w2)
    (h : wpList Try.prog ops Q rest (a.put o.dst v') w2) : wpList Try.prog ops Q (o :: rest) a w := by
  refine wpList_plain hgd fun K hK => ?_
  unfold Oper.wp execOp
  simp only [ho, resolve, invoke, builtin, Sem.run_bind, Sem.run_pure, Result.andThen_ok, List.map_toArray, List.map_cons, List.map_nil, hs, hx, hrun]
  exact hK _ _ h

theorem tclone_nil (w : World) : Calls Try.prog 52 #[.slice none 0 0] w fun e w' => e = .returned (.slice none 0 0) ∧ w = w' := by
  have EQ := fun (w : World) (a : Option Addr) (n c : Nat) => Lib.run_eql_slice_nil (P := Try.prog) w 90 95 a n c 0 0 Try.underlying90
  go_enter Try.func52, Try.ntmps52
  go_wp2
  go_ret
  exact ⟨rfl, rfl⟩
theorem tclone_some (w : World) (base g n cap : Nat) (xs : List T2) (h : OwnT w base (.slice (some ⟨g, 0, none⟩) n cap) xs) (hm : 16 * xs.length ≤ 140737488355328) :
    Calls Try.prog 52 #[.slice (some ⟨g, 0, none⟩) n cap] w fun e w' => ∃ v', e = .returned v' ∧ OwnT w' w.heap.size v' xs ∧ Below w.heap.size w w' := by
  have hn : n = xs.length := by
    rcases h.form with ⟨e, _⟩ | ⟨g', cap', e, _⟩
    · cases e
    · injection e
  have he : OwnT (w.alloc (.cells #[] 95)) w.heap.size (.slice (some ⟨w.heap.size, 0, none⟩) 0 0) [] :=
    ⟨by simp, .inr ⟨w.heap.size, 0, _, rfl, Nat.le_refl _, heap_alloc_new w _, Nat.zero_le _, by unfold maxLen; omega, by simp, by simp⟩⟩
  have ha : OwnT (w.alloc (.cells #[] 95)) base (.slice (some ⟨g, 0, none⟩) n cap) xs := World.ownsRow.alloc h _
  obtain ⟨v', w', hrun, h3, h4, h5⟩ := appT_run he g n cap xs hn.symm (fun j u hj => by have h1 := World.ownsRow.cells ha (g := g) rfl j u hj; rwa [addr_add] at h1) (by simp; omega) (by rw [World.size_alloc]; omega)
  have POST : Hid (∃ v'', v' = v'' ∧ OwnT w' w.heap.size v'' xs ∧ Below w.heap.size w w') :=
    ⟨v', rfl, by simpa using h3, ((Below.refl _ _).alloc (Nat.le_refl _) _).grown h4 (by simp) (fun k e => by simp [Value.ownBlock] at e; omega)⟩
  have HRUN := Lib.hid hrun
  clear h ha he hrun h3 h4 h5 hn
  have EQ := fun (w : World) (a : Option Addr) (n c : Nat) => Lib.run_eql_slice_nil (P := Try.prog) w 90 95 a n c 0 0 Try.underlying90
  go_enter Try.func52, Try.ntmps52
  go_wp2_with (at_builtin; refine wpList_appT 90 90 rfl (.tmp 5) (.tmp 6) rfl _ _ rfl rfl _ _ HRUN.out ?_)
  go_ret
  obtain ⟨v'', rfl, h⟩ := POST.out
  exact ⟨_, rfl, h⟩
theorem tclone_any (w : World) (base : Nat) (v : Value) (xs : List T2) (h : OwnT w base v xs) (hm : 16 * xs.length ≤ 140737488355328) :
    Calls Try.prog 52 #[v] w fun e w' => ∃ v', e = .returned v' ∧ OwnT w' w.heap.size v' xs ∧ Below w.heap.size w w' := by
  rcases h.form with ⟨rfl, rfl⟩ | ⟨g, cap, rfl, _⟩
  · refine (tclone_nil w).mono ?_
    rintro e w' ⟨rfl, rfl⟩
    exact ⟨_, rfl, OwnT.nil _ _, Below.refl _ _⟩
  · exact tclone_some w base g _ cap xs h hm
end Go.Proofs.Ytdlnmhobhafobaa
