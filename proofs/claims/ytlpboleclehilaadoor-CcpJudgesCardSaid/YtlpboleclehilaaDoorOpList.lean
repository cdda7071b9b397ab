/-
  A list of options: one that is read; one of the call's own, with each option's bytes the call's own too.
-/
import Derived.Test.YtlpboleclehilaaDoorOpWd
import Derived.Test.YtlpboleclehilaaDoorOpClone
import Derived.Test.YtlpboleclehilaaDoorOpOpts
namespace Go.Proofs.YtlpboleclehilaaDoor
open Go.RowKit
set_option maxRecDepth 100000
set_option maxHeartbeats 4000000
set_option linter.unusedSimpArgs false
set_option linter.unusedVariables false

/-- kinds are whole numbers of the machine -/
def okK (s : List Opt) : Prop := ∀ o ∈ s, -9223372036854775808 ≤ o.1 ∧ o.1 ≤ 9223372036854775807
/-- The slice at A of n options reads as s, all of it in blocks below B. -/
def OptRd (w : World) (B : Nat) (A : Option Addr) (n : Nat) (s : List Opt) : Prop :=
  s.length = n ∧ (0 < n → ∃ b off, A = some ⟨b, off, none⟩ ∧ b < B ∧ ∀ i (h : i < s.length), w.cell? ⟨b, off + i * 2, none⟩ = some (.int .i64 s[i].1) ∧
    ∃ E k c, w.cell? ⟨b, off + i * 2 + 1, none⟩ = some (.slice E k c) ∧ Rd w B E k s[i].2 ∧ (E = none → c = 0) ∧ k ≤ c ∧ k ≤ 140737488351232)
theorem OptRd.nil {w : World} {B : Nat} {A : Option Addr} : OptRd w B A 0 [] := ⟨rfl, fun h => absurd h (Nat.lt_irrefl 0)⟩
theorem OptRd.below {w w' : World} {B C n : Nat} {A : Option Addr} {s : List Opt} (h : OptRd w B A n s) (hb : Below C w w') (hB : B ≤ C) : OptRd w' B A n s := by
  refine ⟨h.1, fun h0 => ?_⟩
  obtain ⟨b, off, e, hl, hc⟩ := h.2 h0
  refine ⟨b, off, e, hl, fun i hi => ?_⟩
  obtain ⟨h1, E, k, c, h2, h3, h4⟩ := hc i hi
  exact ⟨(hb.cell (by show b < C; omega)).trans h1, E, k, c, (hb.cell (by show b < C; omega)).trans h2, h3.below (hb.mono hB), h4⟩
theorem OptRd.wide {w : World} {B C n : Nat} {A : Option Addr} {s : List Opt} (h : OptRd w B A n s) (hB : B ≤ C) : OptRd w C A n s := by
  refine ⟨h.1, fun h0 => ?_⟩
  obtain ⟨b, off, e, hl, hc⟩ := h.2 h0
  refine ⟨b, off, e, by omega, fun i hi => ?_⟩
  obtain ⟨h1, E, k, c, h2, h3, h4⟩ := hc i hi
  exact ⟨h1, E, k, c, h2, h3.wide hB, h4⟩
theorem OptRd.drewN {w : World} {B n : Nat} {A : Option Addr} {s : List Opt} (h : OptRd w B A n s) (k : Nat) : OptRd (w.drewN k) B A n s := h
theorem OptRd.tail {w : World} {B n b off : Nat} {x : Opt} {s : List Opt} (h : OptRd w B (some ⟨b, off, none⟩) (n + 1) (x :: s)) : OptRd w B (some ⟨b, off + 2, none⟩) n s := by
  have hl : s.length = n := by simpa using h.1
  refine ⟨hl, fun h0 => ?_⟩
  obtain ⟨b', off', e, hlt, hc⟩ := h.2 (by omega)
  injection e with e
  injection e with e1 e2
  subst e1 e2
  refine ⟨b, off + 2, rfl, hlt, fun i hi => ?_⟩
  have := hc (i + 1) (by simpa using hi)
  rw [show off + (i + 1) * 2 = off + 2 + i * 2 by omega] at this
  exact this
theorem opts_rd {w : World} {B m : Nat} {A : Option Addr} {K : Nat → Int} {L : Nat → List UInt8} (h : OptsAt w B A m K L) : OptRd w B A m ((List.range m).map fun i => (K i, L i)) := by
  refine ⟨by simp, fun h0 => ?_⟩
  obtain ⟨b, off, e, hl, hc⟩ := h h0
  refine ⟨b, off, e, hl, fun i hi => ?_⟩
  have hi' : i < m := by simpa using hi
  obtain ⟨h1, E, k, c, h2, h3, h4, h5, h6⟩ := hc i hi'
  simp only [List.getElem_map, List.getElem_range]
  exact ⟨h1, E, k, c, h2, h3, h4, h5, by omega⟩

theorem OptRd.bytes {w : World} {B n : Nat} {A : Option Addr} {s : List Opt} (h : OptRd w B A n s) : ∀ o ∈ s, o.2.length ≤ 140737488351232 := by
  intro o ho
  obtain ⟨i, hi, rfl⟩ := List.mem_iff_getElem.1 ho
  obtain ⟨b, off, _, _, hc⟩ := h.2 (by have := h.1; omega)
  obtain ⟨_, E, k, c, _, h3, _, _, h4⟩ := hc i hi
  rw [h3.1]
  exact h4
/-- a list of options of the call's own -/
def OwnL (w : World) (base : Nat) (v : Value) (s : List Opt) : Prop :=
  ∃ cs, OwnO w base v s.length cs ∧ ∀ i (h : i < s.length), cs[i * 2]? = some (.int .i64 s[i].1) ∧ ∃ E k c, cs[i * 2 + 1]? = some (.slice E k c) ∧ Own w base (.slice E k c) s[i].2
theorem OwnL.nil (w : World) (base : Nat) : OwnL w base (.slice none 0 0) [] := ⟨[], World.ownsRow_nil _ _ _ _, fun i h => absurd h (by simp)⟩
theorem OwnL.shape {w : World} {base : Nat} {v : Value} {s : List Opt} (h : OwnL w base v s) : ∃ A c, v = .slice A s.length c := by
  obtain ⟨cs, h1, _⟩ := h
  exact h1.shape
theorem OwnL.block {w : World} {base : Nat} {v : Value} {s : List Opt} (h : OwnL w base v s) : ∀ k, v.ownBlock = some k → base ≤ k ∧ k < w.heap.size := by
  obtain ⟨cs, h1, _⟩ := h
  exact h1.block
theorem OwnL.later {w w' : World} {base : Nat} {v : Value} {s : List Opt} (h : OwnL w base v s) (hB : Below w.heap.size w w') : OwnL w' base v s := by
  obtain ⟨cs, h1, h2⟩ := h
  refine ⟨cs, h1.grown (only_of_below hB none) ?_, fun i hi => ?_⟩
  · rcases hv : v.ownBlock with _ | g
    · exact .inl rfl
    · exact .inr (by simp)
  · obtain ⟨a, E, k, c, b, ho⟩ := h2 i hi
    exact ⟨a, E, k, c, b, ho.later hB⟩
theorem Own.base_le {w : World} {b b' : Nat} {v : Value} {l : List UInt8} (h : Own w b v l) (hb : b' ≤ b) : Own w b' v l := by
  refine ⟨h.1, ?_⟩
  rcases h.2 with h | ⟨g', cap, cur, h1, h2, h3⟩
  · exact .inl h
  · exact .inr ⟨g', cap, cur, h1, by omega, h3⟩
theorem OwnL.base_le {w : World} {b b' : Nat} {v : Value} {s : List Opt} (h : OwnL w b v s) (hb : b' ≤ b) : OwnL w b' v s := by
  obtain ⟨cs, h1, h2⟩ := h
  refine ⟨cs, ⟨h1.1, ?_⟩, fun i hi => ?_⟩
  · rcases h1.2 with h | ⟨g', cap, cur, h1, h2, h3⟩
    · exact .inl h
    · exact .inr ⟨g', cap, cur, h1, by omega, h3⟩
  · obtain ⟨a, E, k, c, b, ho⟩ := h2 i hi
    exact ⟨a, E, k, c, b, ho.base_le hb⟩
theorem own_other {w : World} {base b2 n : Nat} {v u : Value} {cs : List Value} {l : List UInt8} (h : OwnO w base v n cs) (ho : Own w b2 u l) : u.ownBlock = none ∨ u.ownBlock ≠ v.ownBlock := by
  rcases h.2 with ⟨rfl, _⟩ | ⟨g, cap, cur, rfl, _, hg, _⟩
  · rcases hu : u.ownBlock with _ | q
    · exact .inl rfl
    · exact .inr (by simp [Value.ownBlock])
  · rcases ho.2 with ⟨rfl, _⟩ | ⟨g2, cap2, cur2, rfl, _, hg2, _⟩
    · exact .inl rfl
    · refine .inr fun e => ?_
      simp only [Value.ownBlock, Option.some.injEq] at e
      subst e
      rw [hg] at hg2
      simp at hg2
theorem Own.len {w : World} {base : Nat} {E : Option Addr} {k c : Nat} {l : List UInt8} (h : Own w base (.slice E k c) l) : k = l.length ∧ (E = none → c = 0) ∧ k ≤ c := by
  rcases h.form with ⟨e, rfl⟩ | ⟨g, cap, e, _, _, h3⟩
  · injection e with e1 e2 e3
    subst e1 e2 e3
    exact ⟨rfl, fun _ => rfl, Nat.le_refl _⟩
  · injection e with e1 e2 e3
    subst e1 e2 e3
    exact ⟨rfl, fun e => (by cases e), h3⟩
theorem Own.rdAll {w : World} {base : Nat} {E : Option Addr} {k c : Nat} {l : List UInt8} (h : Own w base (.slice E k c) l) : Rd w w.heap.size E k l := by
  rcases h.form with ⟨e, rfl⟩ | ⟨g, cap, e, _, _, h3⟩
  · injection e with e1 e2 e3
    subst e1 e2 e3
    exact Rd.nil
  · injection e with e1 e2 e3
    subst e1 e2 e3
    have := h.rd rfl l.length (Nat.le_refl _)
    rwa [List.take_length] at this
/-- what is owned is read -/
theorem OwnL.rd {w : World} {base : Nat} {v : Value} {s : List Opt} (h : OwnL w base v s) (hm : ∀ o ∈ s, o.2.length ≤ 140737488351232) :
    ∃ A c, v = .slice A s.length c ∧ OptRd w w.heap.size A s.length s ∧ (A = none → c = 0) ∧ s.length ≤ c := by
  obtain ⟨cs, h1, h2⟩ := h
  have h1' := h1
  rcases h1.2 with ⟨rfl, h0⟩ | ⟨g, cap, cur, rfl, hb, hg, hc, _⟩
  · have : s = [] := List.eq_nil_of_length_eq_zero h0
    subst this
    exact ⟨none, 0, rfl, OptRd.nil, fun _ => rfl, Nat.le_refl _⟩
  · refine ⟨_, _, rfl, ⟨rfl, fun h0 => ⟨g, 0, rfl, (Array.getElem?_eq_some_iff.1 hg).1, fun i hi => ?_⟩⟩, (fun e => by cases e), hc⟩
    obtain ⟨a, E, k, c, b, ho⟩ := h2 i hi
    have f : ∀ j u, cs[j]? = some u → w.cell? ⟨g, j, none⟩ = some u := fun j u hj => by
      have h3 := World.ownsRow.cells h1' (g := g) rfl j u hj
      rwa [addr_add] at h3
    obtain ⟨e1, e2, e3⟩ := ho.len
    rw [Nat.zero_add]
    exact ⟨f _ _ a, E, k, c, f _ _ b, ho.rdAll, e2, e3, by rw [e1]; exact hm _ (List.getElem_mem hi)⟩
theorem appL_run {w : World} {base : Nat} {v : Value} {s : List Opt} (h : OwnL w base v s) (b : Nat) (K : Int) (E : Option Addr) (k c : Nat) (l : List UInt8) (hx : w.cell? ⟨b, 0, none⟩ = some (.int .i64 K)) (hy : w.cell? ⟨b, 1, none⟩ = some (.slice E k c)) (ho : Own w base (.slice E k c) l)
    (hn : s.length < 4398046511104) (hb : base ≤ w.heap.size) :
    ∃ v' w', (Builtin.append_ #[28, 28] 28 #[v, .slice (some ⟨b, 0, none⟩) 1 1]).run Tryd.prog w = .ok v' w' ∧ OwnL w' base v' (s ++ [(K, l)]) ∧ w.grownBy w' v.ownBlock ∧ (v'.ownBlock = v.ownBlock ∨ v'.ownBlock = some w.heap.size) := by
  obtain ⟨cs, h1, h2⟩ := h
  obtain ⟨i, hi, hz, e1, e2⟩ := info_parts infoO
  obtain ⟨v', w', hrun, h3, h4, _, h5⟩ := run_append_own_at (P := Tryd.prog) w base 28 28 61 i _ 2 32 Tryd.underlying28 hi hz e1 e2 rfl (by decide) v s.length cs h1 ⟨b, 0, none⟩ 1 1 [.int .i64 K, .slice E k c]
    rfl (fun j u hj => by
      rw [addr_add]
      match j, hj with
      | 0, hj => simp at hj; rw [← hj]; exact hx
      | 1, hj => simp at hj; rw [← hj]; exact hy
      | j + 2, hj => simp at hj) (by intro u hu; simp at hu; rcases hu with rfl | rfl <;> rfl) (by unfold maxLen; omega) (by omega) hb
  have hcl : cs.length = s.length * 2 := h1.1
  refine ⟨v', w', hrun, ⟨cs ++ [.int .i64 K, .slice E k c], by rw [List.length_append]; exact h3, fun j hj => ?_⟩, h4, h5⟩
  rcases Nat.lt_or_ge j s.length with hlt | hge
  · obtain ⟨a, E', k', c', b', ho'⟩ := h2 j hlt
    rw [List.getElem_append_left hlt, List.getElem?_append_left (by omega), List.getElem?_append_left (by omega)]
    exact ⟨a, E', k', c', b', ho'.grown h4 (own_other h1 ho')⟩
  · have hj' : j = s.length := by simp at hj; omega
    subst hj'
    rw [List.getElem?_append_right (by omega), List.getElem?_append_right (by omega)]
    simp only [hcl, Nat.sub_self, show s.length * 2 + 1 - s.length * 2 = 1 by omega, List.getElem_concat_length]
    exact ⟨rfl, E, k, c, rfl, ho.grown h4 (own_other h1 ho)⟩
end Go.Proofs.YtlpboleclehilaaDoor
