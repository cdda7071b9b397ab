/-
  opt.Options of the six known bytes.
-/
import Derived.Test.YtnhadkmbekgfbaaOpRead
import Derived.LoopTactic
namespace Go.Proofs.Ytnhadkmbekgfbaa
open Go.RowKit
set_option maxRecDepth 100000
set_option maxHeartbeats 4000000
set_option linter.unusedSimpArgs false
set_option linter.unusedVariables false

def k6 : List UInt8 := [1, 4, 5, 220, 7, 2]
/-- a row of options of the call's own, by its cells -/
def OwnO (w : World) (base : Nat) (v : Value) (n : Nat) (cs : List Value) : Prop := w.ownsRow base 70 2 v n cs
theorem infoO : (Try.prog.info? 70).map (fun i => (i.zero, i.size, i.bytes)) = some (some (.agg #[.int .i64 0, .slice none 0 0]), 2, 32) := by kernel_rfl
theorem addr_add (g i : Nat) : (⟨g, 0, none⟩ : Addr).add i = ⟨g, i, none⟩ := by
  unfold Addr.add
  split
  · rename_i h
    rw [h]
  · simp
theorem OwnO.block {w : World} {base n : Nat} {v : Value} {cs : List Value} (h : OwnO w base v n cs) : ∀ k, v.ownBlock = some k → base ≤ k ∧ k < w.heap.size := by
  intro k hk
  rcases h.2 with ⟨rfl, _⟩ | ⟨g, cap, cur, rfl, hb, hg, _⟩
  · simp [Value.ownBlock] at hk
  · simp [Value.ownBlock] at hk
    subst hk
    exact ⟨hb, (Array.getElem?_eq_some_iff.1 hg).1⟩
theorem OwnO.shape {w : World} {base n : Nat} {v : Value} {cs : List Value} (h : OwnO w base v n cs) : ∃ A c, v = .slice A n c := by
  rcases h.2 with ⟨rfl, h0⟩ | ⟨g, cap, cur, rfl, _⟩
  · exact ⟨none, 0, by rw [h0]⟩
  · exact ⟨_, _, rfl⟩
theorem OwnO.grown {w w' : World} {base n : Nat} {v : Value} {cs : List Value} {row : Option Nat} (h : OwnO w base v n cs) (hg : w.grownBy w' row) (hne : v.ownBlock = none ∨ v.ownBlock ≠ row) : OwnO w' base v n cs := World.ownsRow.kept h hg hne
theorem appO_run {w : World} {base n : Nat} {v : Value} {cs : List Value} (h : OwnO w base v n cs) (b : Nat) (x y : Value) (hx : w.cell? ⟨b, 0, none⟩ = some x) (hy : w.cell? ⟨b, 1, none⟩ = some y) (h1 : x.oneCell' = true) (h2 : y.oneCell' = true) (hn : n ≤ 1000) (hb : base ≤ w.heap.size) :
    ∃ v' w', (Builtin.append_ #[55, 55] 55 #[v, .slice (some ⟨b, 0, none⟩) 1 1]).run Try.prog w = .ok v' w' ∧ OwnO w' base v' (n + 1) (cs ++ [x, y]) ∧ w.grownBy w' v.ownBlock ∧ (v'.ownBlock = v.ownBlock ∨ v'.ownBlock = some w.heap.size) := by
  obtain ⟨i, hi, hz, e1, e2⟩ := info_parts infoO
  obtain ⟨v', w', hrun, h3, h4, _, h5⟩ := run_append_own_at (P := Try.prog) w base 55 55 70 i _ 2 32 Try.underlying55 hi hz e1 e2 rfl (by decide) v n cs h ⟨b, 0, none⟩ 1 1 [x, y]
    rfl (fun j u hj => by
      rw [addr_add]
      match j, hj with
      | 0, hj => simp at hj; rw [← hj]; exact hx
      | 1, hj => simp at hj; rw [← hj]; exact hy
      | j + 2, hj => simp at hj) (by intro u hu; simp at hu; rcases hu with rfl | rfl <;> assumption) (by unfold maxLen; omega) (by omega) hb
  exact ⟨v', w', hrun, h3, h4, h5⟩
/-- what is left behind j options, and the options -/
def k6R (j : Nat) : List UInt8 := k6.drop ([0, 4, 6].getD j 6)
def k6C (j : Nat) (D1 D2 : Option Addr) (c1 c2 : Nat) : List Value := ([.int .i64 1, .slice D1 2 c1, .int .i64 7, .slice D2 0 c2] : List Value).take (2 * j)
def OptJ (w wr : World) (B g j : Nat) (v : Value) : Prop := OctAt wr B g (k6R j) 0 ∧ (∃ D1 D2 c1 c2, OwnO wr B v j (k6C j D1 D2 c1 c2)) ∧ Below w.heap.size w wr ∧ w.heap.size ≤ g ∧ g < B ∧ B ≤ wr.heap.size
end Go.Proofs.Ytnhadkmbekgfbaa
