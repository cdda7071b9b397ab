/-
  A list of secrets of the call's own.
-/
import Derived.Test.YtdijgmijnoiliaaDoorSeBest
namespace Go.Proofs.YtdijgmijnoiliaaDoor
open Go.RowKit Go.Shelf
set_option maxRecDepth 100000
set_option maxHeartbeats 4000000
set_option linter.unusedSimpArgs false
set_option linter.unusedVariables false

theorem infoS : (Tryd.prog.info? 44).map (fun i => (i.zero, i.size, i.bytes)) = some (some (.agg #[.string ⟨#[]⟩, .string ⟨#[]⟩, .string ⟨#[]⟩, .slice none 0 0]), 4, 72) := by kernel_rfl
/-- a list of secrets of the call's own; the numbers lie elsewhere -/
def OwnS (w : World) (base : Nat) (v : Value) (ss : List Sec) : Prop :=
  ∃ cs, w.ownsRow base 44 4 v ss.length cs ∧ ∀ i x, ss[i]? = some x → okS x ∧ ∃ E m k, AdRd w w.heap.size E m k x.ad ∧ (∀ b o, E = some ⟨b, o, none⟩ → v.ownBlock ≠ some b ∧ b < w.heap.size ∧ base ≤ b) ∧ ∀ j u, (secV x E m k)[j]? = some u → cs[i * 4 + j]? = some u
theorem OwnS.nil (w : World) (base : Nat) : OwnS w base (.slice none 0 0) [] := ⟨[], World.ownsRow_nil _ _ _ _, fun i x h => by simp at h⟩
theorem OwnS.form {w : World} {base : Nat} {v : Value} {ss : List Sec} (h : OwnS w base v ss) :
    (v = .slice none 0 0 ∧ ss = []) ∨ ∃ g cap, v = .slice (some ⟨g, 0, none⟩) ss.length cap ∧ base ≤ g ∧ g < w.heap.size ∧ ss.length ≤ cap := by
  obtain ⟨cs, h1, _⟩ := h
  rcases h1.2 with ⟨e, h0⟩ | ⟨g, cap, cur, e, hb, hg, hc, hm, _⟩
  · exact .inl ⟨e, List.eq_nil_of_length_eq_zero h0⟩
  · exact .inr ⟨g, cap, e, hb, (Array.getElem?_eq_some_iff.1 hg).1, hc⟩
theorem OwnS.slice {w : World} {base : Nat} {v : Value} {ss : List Sec} (h : OwnS w base v ss) : ∃ A c, v = .slice A ss.length c ∧ ss.length ≤ c := by
  rcases h.form with ⟨rfl, rfl⟩ | ⟨g, cap, rfl, _, _, hc⟩
  · exact ⟨none, 0, rfl, Nat.le_refl _⟩
  · exact ⟨_, cap, rfl, hc⟩
theorem OwnS.block {w : World} {base : Nat} {v : Value} {ss : List Sec} (h : OwnS w base v ss) : ∀ k, v.ownBlock = some k → base ≤ k ∧ k < w.heap.size := by
  intro k hk
  rcases h.form with ⟨rfl, _⟩ | ⟨g, cap, rfl, h1, h2, _⟩
  · simp [Value.ownBlock] at hk
  · simp [Value.ownBlock] at hk
    omega
theorem OwnS.grown {w w' : World} {base : Nat} {v : Value} {ss : List Sec} {row : Option Nat} (h : OwnS w base v ss) (hg : w.grownBy w' row) (hne : ∀ q, row = some q → q < base ∨ w.heap.size ≤ q) : OwnS w' base v ss := by
  have hvb := h.block
  obtain ⟨cs, h1, h2⟩ := h
  refine ⟨cs, World.ownsRow.kept h1 hg ?_, fun i x hx => ?_⟩
  · cases hv : v.ownBlock with
    | none => exact .inl rfl
    | some k =>
      refine .inr fun e => ?_
      have h3 := hvb k hv
      rcases hne k e.symm with h4 | h4 <;> omega
  · obtain ⟨ho, E, m, k, ha, hn, hc⟩ := h2 i x hx
    refine ⟨ho, E, m, k, (ha.keep fun b o e => hg.block b (hn b o e).2.1 fun e2 => ?_).wide hg.size, fun b o e => ⟨(hn b o e).1, Nat.lt_of_lt_of_le (hn b o e).2.1 hg.size, (hn b o e).2.2⟩, hc⟩
    have := hn b o e
    rcases hne b e2.symm with h | h <;> omega
theorem OwnS.later {w w' : World} {base : Nat} {v : Value} {ss : List Sec} (h : OwnS w base v ss) (hB : Below w.heap.size w w') : OwnS w' base v ss :=
  h.grown (row := none) ⟨hB.os, hB.tape, hB.output, hB.size, fun i hi _ => hB.block i hi⟩ (fun q e => by cases e)
theorem secV_one (x : Sec) (E : Option Addr) (m k : Nat) : ∀ u ∈ secV x E m k, u.oneCell' = true := by
  intro u hu
  simp [secV] at hu
  rcases hu with rfl | rfl | rfl | rfl <;> rfl
theorem appS_own {w : World} {base : Nat} {v : Value} {ss : List Sec} (h : OwnS w base v ss) (b c : Nat) (x : Sec) (E : Option Addr) (m k : Nat) (hx : ∀ j u, (secV x E m k)[j]? = some u → w.cell? ⟨b, j, none⟩ = some u) (ho : okS x) (ha : AdRd w w.heap.size E m k x.ad) (hE : ∀ b o, E = some ⟨b, o, none⟩ → v.ownBlock ≠ some b ∧ b < w.heap.size ∧ base ≤ b)
    (hl : ss.length < 4398046511) (hb : base ≤ w.heap.size) :
    ∃ v' w', (Builtin.append_ #[37, 37] 37 #[v, .slice (some ⟨b, 0, none⟩) 1 c]).run Tryd.prog w = .ok v' w' ∧ OwnS w' base v' (ss ++ [x]) ∧ w.grownBy w' v.ownBlock ∧ (v'.ownBlock = v.ownBlock ∨ v'.ownBlock = some w.heap.size) := by
  obtain ⟨cs, h1, h2⟩ := h
  obtain ⟨i, hi, hz, hs1, hs2⟩ := info_parts infoS
  obtain ⟨v', w', hrun, h3, h4, _, h5⟩ := run_append_own_at (P := Tryd.prog) w base 37 37 44 i _ 4 72 Tryd.underlying37 hi hz hs1 hs2 rfl (by decide) v _ _ h1 ⟨b, 0, none⟩ 1 c (secV x E m k)
    rfl (fun j u hj => by rw [addr_adds, Nat.zero_add]; exact hx j u hj) (secV_one x E m k) (by unfold maxLen; omega) (by omega) hb
  have hcl : cs.length = ss.length * 4 := h1.1
  have old : ∀ b o E', E' = some (⟨b, o, none⟩ : Addr) → (v.ownBlock ≠ some b ∧ b < w.heap.size ∧ base ≤ b) → v'.ownBlock ≠ some b ∧ b < w'.heap.size ∧ base ≤ b := fun b o E' e hn => by
    refine ⟨fun e2 => ?_, Nat.lt_of_lt_of_le hn.2.1 h4.size, hn.2.2⟩
    rcases h5 with e3 | e3
    · exact hn.1 (e3 ▸ e2)
    · rw [e3] at e2; injection e2 with e2; omega
  refine ⟨v', w', hrun, ⟨cs ++ secV x E m k, ?_, fun i y hy => ?_⟩, h4, h5⟩
  · rw [List.length_append, List.length_singleton]
    exact h3
  · by_cases hi : i < ss.length
    · rw [List.getElem?_append_left hi] at hy
      obtain ⟨ho', E', m', k', ha', hn', hc'⟩ := h2 i y hy
      refine ⟨ho', E', m', k', (ha'.keep fun b o e => h4.block b (hn' b o e).2.1 (fun e2 => (hn' b o e).1 e2.symm)).wide h4.size, fun b o e => old b o E' e (hn' b o e), fun j u hu => ?_⟩
      have := hc' j u hu
      rw [List.getElem?_append_left (List.getElem?_eq_some_iff.1 this).1]
      exact this
    · have hi2 := (List.getElem?_eq_some_iff.1 hy).1
      rw [List.length_append, List.length_singleton] at hi2
      obtain rfl : i = ss.length := by omega
      obtain rfl : x = y := by simpa using hy
      refine ⟨ho, E, m, k, (ha.keep fun b o e => h4.block b (hE b o e).2.1 (fun e2 => (hE b o e).1 e2.symm)).wide h4.size, fun b o e => old b o E e (hE b o e), fun j u hu => ?_⟩
      rw [List.getElem?_append_right (by omega), hcl, show ss.length * 4 + j - ss.length * 4 = j by omega]
      exact hu
/-- what is owned is read -/
theorem OwnS.rd {w : World} {base : Nat} {v : Value} {ss : List Sec} (h : OwnS w base v ss) (hm : ss.length ≤ 4398046510976) : ∃ A c, v = .slice A ss.length c ∧ SecRd w w.heap.size A ss.length ss := by
  obtain ⟨cs, h1, h2⟩ := h
  have h1' := h1
  rcases h1.2 with ⟨e, h0⟩ | ⟨g, cap, cur, e, hb, hg, hc, _⟩
  · exact ⟨none, 0, by rw [e, h0], rfl, hm, fun h => by omega⟩
  · refine ⟨_, _, e, rfl, hm, fun _ => ⟨g, 0, rfl, (Array.getElem?_eq_some_iff.1 hg).1, fun i x hx => ?_⟩⟩
    obtain ⟨ho, E, m, k, ha, hn, hcs⟩ := h2 i x hx
    refine ⟨ho, E, m, k, ha, fun j u hu => ?_⟩
    have h3 := World.ownsRow.cells h1' (g := g) (by rw [e]; rfl) (i * 4 + j) u (hcs j u hu)
    rw [addr_adds] at h3
    rw [show (0 + i * 4 + j) = 0 + (i * 4 + j) by omega]
    exact h3
end Go.Proofs.YtdijgmijnoiliaaDoor
