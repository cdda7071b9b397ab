/-
  A row of options of the call's own, whose bytes are others'.
-/
import Derived.Test.YtlpboleclehilaaDoorOpList
namespace Go.Proofs.YtlpboleclehilaaDoor
open Go.RowKit
set_option maxRecDepth 100000
set_option maxHeartbeats 4000000
set_option linter.unusedSimpArgs false
set_option linter.unusedVariables false

/-- a row of the call's own, whose options' bytes lie below B -/
def OwnR (w : World) (base B : Nat) (v : Value) (s : List Opt) : Prop :=
  ∃ cs, OwnO w base v s.length cs ∧ ∀ i (h : i < s.length), cs[i * 2]? = some (.int .i64 s[i].1) ∧ ∃ E k c, cs[i * 2 + 1]? = some (.slice E k c) ∧ Rd w B E k s[i].2 ∧ (E = none → c = 0) ∧ k ≤ c ∧ k ≤ 140737488351232
theorem OwnR.nil (w : World) (base B : Nat) : OwnR w base B (.slice none 0 0) [] := ⟨[], World.ownsRow_nil _ _ _ _, fun i h => absurd h (by simp)⟩
theorem OwnR.shape {w : World} {base B : Nat} {v : Value} {s : List Opt} (h : OwnR w base B v s) : ∃ A c, v = .slice A s.length c := by
  obtain ⟨cs, h1, _⟩ := h
  exact h1.shape
theorem OwnR.block {w : World} {base B : Nat} {v : Value} {s : List Opt} (h : OwnR w base B v s) : ∀ k, v.ownBlock = some k → base ≤ k ∧ k < w.heap.size := by
  obtain ⟨cs, h1, _⟩ := h
  exact h1.block
theorem OwnR.grown {w w' : World} {base B : Nat} {v : Value} {s : List Opt} {row : Option Nat} (h : OwnR w base B v s) (hg : w.grownBy w' row) (hne : v.ownBlock = none ∨ v.ownBlock ≠ row) (hB : B ≤ w.heap.size) (hr : ∀ g, row = some g → B ≤ g) : OwnR w' base B v s := by
  obtain ⟨cs, h1, h2⟩ := h
  refine ⟨cs, h1.grown hg hne, fun i hi => ?_⟩
  obtain ⟨a, E, k, c, b, hr2, h3⟩ := h2 i hi
  exact ⟨a, E, k, c, b, hr2.grown hg hB hr, h3⟩
theorem OwnR.rd {w : World} {base B : Nat} {v : Value} {s : List Opt} (h : OwnR w base B v s) (hB : B ≤ w.heap.size) :
    ∃ A c, v = .slice A s.length c ∧ OptRd w w.heap.size A s.length s ∧ s.length ≤ c := by
  obtain ⟨cs, h1, h2⟩ := h
  have h1' := h1
  rcases h1.2 with ⟨rfl, h0⟩ | ⟨g, cap, cur, rfl, hb, hg, hc, _⟩
  · have : s = [] := List.eq_nil_of_length_eq_zero h0
    subst this
    exact ⟨none, 0, rfl, OptRd.nil, Nat.le_refl _⟩
  · refine ⟨_, _, rfl, ⟨rfl, fun h0 => ⟨g, 0, rfl, (Array.getElem?_eq_some_iff.1 hg).1, fun i hi => ?_⟩⟩, hc⟩
    obtain ⟨a, E, k, c, b, hr, h3, h4, h5⟩ := h2 i hi
    have f : ∀ j u, cs[j]? = some u → w.cell? ⟨g, j, none⟩ = some u := fun j u hj => by
      have h3 := World.ownsRow.cells h1' (g := g) rfl j u hj
      rwa [addr_add] at h3
    rw [Nat.zero_add]
    exact ⟨f _ _ a, E, k, c, f _ _ b, hr.wide hB, h3, h4, h5⟩
theorem appR_run {w : World} {base B : Nat} {v : Value} {s : List Opt} (h : OwnR w base B v s) (b : Nat) (K : Int) (E : Option Addr) (k c : Nat) (l : List UInt8) (hx : w.cell? ⟨b, 0, none⟩ = some (.int .i64 K)) (hy : w.cell? ⟨b, 1, none⟩ = some (.slice E k c)) (hr : Rd w B E k l) (hE : E = none → c = 0) (hkc : k ≤ c) (hk : k ≤ 140737488351232)
    (hn : s.length < 4398046511104) (hb : base ≤ w.heap.size) (hB : B ≤ base) :
    ∃ v' w', (Builtin.append_ #[28, 28] 28 #[v, .slice (some ⟨b, 0, none⟩) 1 1]).run Tryd.prog w = .ok v' w' ∧ OwnR w' base B v' (s ++ [(K, l)]) ∧ w.grownBy w' v.ownBlock ∧ (v'.ownBlock = v.ownBlock ∨ v'.ownBlock = some w.heap.size) := by
  have hblk := h.block
  obtain ⟨cs, h1, h2⟩ := h
  obtain ⟨i, hi, hz, e1, e2⟩ := info_parts infoO
  obtain ⟨v', w', hrun, h3, h4, _, h5⟩ := run_append_own_at (P := Tryd.prog) w base 28 28 61 i _ 2 32 Tryd.underlying28 hi hz e1 e2 rfl (by decide) v s.length cs h1 ⟨b, 0, none⟩ 1 1 [.int .i64 K, .slice E k c]
    rfl (fun j u hj => by
      rw [addr_add]
      match j, hj with
      | 0, hj => simp at hj; rw [← hj]; exact hx
      | 1, hj => simp at hj; rw [← hj]; exact hy
      | j + 2, hj => simp at hj) (by intro u hu; simp at hu; rcases hu with rfl | rfl <;> rfl) (by unfold maxLen; omega) (by omega) hb
  have hcl : cs.length = s.length * 2 := h1.1
  have hrow : ∀ g, v.ownBlock = some g → B ≤ g := fun g hg => by have := (hblk g hg).1; omega
  refine ⟨v', w', hrun, ⟨cs ++ [.int .i64 K, .slice E k c], by rw [List.length_append]; exact h3, fun j hj => ?_⟩, h4, h5⟩
  rcases Nat.lt_or_ge j s.length with hlt | hge
  · obtain ⟨a, E', k', c', b', hr', h6⟩ := h2 j hlt
    rw [List.getElem_append_left hlt, List.getElem?_append_left (by omega), List.getElem?_append_left (by omega)]
    exact ⟨a, E', k', c', b', hr'.grown h4 (by omega) hrow, h6⟩
  · have hj' : j = s.length := by simp at hj; omega
    subst hj'
    rw [List.getElem?_append_right (by omega), List.getElem?_append_right (by omega)]
    simp only [hcl, Nat.sub_self, show s.length * 2 + 1 - s.length * 2 = 1 by omega, List.getElem_concat_length]
    exact ⟨rfl, E, k, c, rfl, hr.grown h4 (by omega) hrow, hE, hkc, hk⟩
end Go.Proofs.YtlpboleclehilaaDoor
