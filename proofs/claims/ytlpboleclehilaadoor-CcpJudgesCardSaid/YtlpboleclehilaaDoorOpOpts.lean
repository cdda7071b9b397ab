/-
  A list of options that came in: of each its kind and its bytes.
-/
import Derived.Test.YtlpboleclehilaaDoorOpWd
import Derived.Test.YtlpboleclehilaaDoorOpPb
import Derived.Deep.Slices
namespace Go.Proofs.YtlpboleclehilaaDoor
open Go.RowKit
set_option maxRecDepth 100000
set_option linter.unusedSimpArgs false
set_option linter.unusedVariables false

/-- The slice at A of m options: of option i the kind K i and the bytes L i. -/
def OptsAt (w : World) (B : Nat) (A : Option Addr) (m : Nat) (K : Nat → Int) (L : Nat → List UInt8) : Prop :=
  0 < m → ∃ b off, A = some ⟨b, off, none⟩ ∧ b < B ∧ ∀ i, i < m → w.cell? ⟨b, off + i * 2, none⟩ = some (.int .i64 (K i)) ∧ ∃ E k c, w.cell? ⟨b, off + i * 2 + 1, none⟩ = some (.slice E k c) ∧ Rd w B E k (L i) ∧ (E = none → c = 0) ∧ k ≤ c ∧ c ≤ 140737488351232
theorem OptsAt.below {w w' : World} {B C m : Nat} {A : Option Addr} {K : Nat → Int} {L : Nat → List UInt8} (h : OptsAt w B A m K L) (hb : Below C w w') (hB : B ≤ C) : OptsAt w' B A m K L := fun h0 => by
  obtain ⟨b, off, e, hl, hc⟩ := h h0
  refine ⟨b, off, e, hl, fun i hi => ?_⟩
  obtain ⟨h1, E, k, c, h2, h3, h4⟩ := hc i hi
  exact ⟨(hb.cell (by show b < C; omega)).trans h1, E, k, c, (hb.cell (by show b < C; omega)).trans h2, h3.below (hb.mono hB), h4⟩

open Go.ChangeShapes Go.WideShapes Go.Deep
section
variable {H : Type} {enc : TypeId × Value → H}
theorem opt_cells : Tryd.prog.cellsOf 61 = 2 := by kernel_rfl
theorem opt_bytes : Tryd.prog.bytesOf 61 = 32 := by kernel_rfl
theorem weights_all {P : Program} {e : TypeId} {d : DataW H} {x : Nat} : ∀ {l : List (DataW H)}, d ∈ l → x ∈ d.weights P e → x ∈ DataW.weightsAll P e l
  | a :: l, h, hx => by
    rw [DataW.weightsAll, List.mem_append]
    rcases List.mem_cons.1 h with rfl | h
    · exact .inl hx
    · exact .inr (weights_all h hx)
theorem opts_open {W : World} {fuel : Nat} {a : Option Addr} {n c : Nat} {d : DataW H} {p : List MemPlace} (h : DataW.trod enc Tryd.prog W 0 (fun _ => true) true fuel 28 [.slice a n c] = some (d, p))
    (hw : ∀ x ∈ d.weights Tryd.prog 28, x ≤ 140737488351232) : ∃ (K : Nat → Int) (L : Nat → List UInt8), OptsAt W W.heap.size a n K L ∧ n ≤ 4398046510976 ∧ n ≤ c ∧ ∀ i, i < n → (Lit.int .i64 (K i)).wf = true := by
  rcases open_slice Tryd.underlying28 h with ⟨hcs, _⟩ | ⟨x, l, c', m, f, D, Pl, hcs, _, hl, hm, hmm, hx, hi⟩
  · simp at hcs
    obtain ⟨rfl, rfl, rfl⟩ := hcs
    exact ⟨fun _ => 0, fun _ => [], fun h => absurd h (Nat.lt_irrefl 0), by omega, Nat.le_refl _, fun i hi => absurd hi (Nat.not_lt_zero _)⟩
  · simp at hcs
    obtain ⟨rfl, rfl, rfl⟩ := hcs
    simp only [Prod.mk.injEq] at hx
    obtain ⟨rfl, _⟩ := hx
    simp only [if_true] at hmm
    subst hmm
    rw [opt_cells] at hi
    unfold DataW.weights at hw
    rw [Tryd.underlying28] at hw
    have hn : n ≤ 4398046510976 := by
      have hs := hw _ (List.mem_cons.2 (.inl rfl))
      simp only [List.length_map, List.length_range, opt_bytes] at hs
      omega
    have each : ∀ i, i < n → ∃ q : Int × List UInt8, W.cell? (x.add (i * 2)) = some (.int .i64 q.1) ∧ (Lit.int .i64 q.1).wf = true ∧ ∃ E k c, W.cell? ((x.add (i * 2)).add 1) = some (.slice E k c) ∧ Rd W W.heap.size E k q.2 ∧ (E = none → c = 0) ∧ k ≤ c ∧ c ≤ 140737488351232 := by
      intro i hin
      obtain ⟨cs, hc, ht⟩ := hi i (by omega)
      obtain ⟨_, hlen, hat⟩ := World.cells?_some hc
      obtain ⟨ys, f', hf', hy, hy2, hyl, hf⟩ := DataW.trod_struct Tryd.underlying61 ht
      match cs, hlen with
      | [v0, v1], _ =>
        match ys, hyl with
        | [y0, y1], _ =>
          have h0 : DataW.trod enc Tryd.prog W 0 (fun _ => true) true f' 3 [v0] = some y0 := hf 0 _ rfl
          have h1 : DataW.trod enc Tryd.prog W 0 (fun _ => true) true f' 51 [v1] = some y1 := hf 1 _ rfl
          obtain ⟨z0, e0, _, w0⟩ := DataW.trod_int Tryd.underlying3 h0
          obtain ⟨E, k, cc, e1⟩ := Go.Joins.slice_form Tryd.underlying51 h1
          simp at e0 e1
          subst e0 e1
          have hD : D i = .agg [y0.1, y1.1] := by
            have := hy
            simp only [Prod.mk.injEq] at this
            exact this.1
          obtain ⟨l1, hl1⟩ := pkt_bytes h1 (fun u hu => hw u (List.mem_cons_of_mem _ (List.mem_append.2 (.inl (weights_all (d := D i) (List.mem_map.2 ⟨i, List.mem_range.2 hin, rfl⟩) (by
            rw [hD]
            simp [DataW.weights, DataW.weightsEach, Tryd.underlying61, hu]))))))
          exact ⟨(z0, l1), by simpa [Addr.add] using hat 0 (by omega), w0, E, k, cc, hat 1 (by omega), hl1⟩
    obtain ⟨Q, hQ⟩ := choose_lt each
    refine ⟨fun i => (Q i).1, fun i => (Q i).2, fun h0 => ?_, hn, hl, fun i hi => (hQ i hi).2.1⟩
    obtain ⟨b, off, spot⟩ := x
    have hq := (hQ 0 h0).1
    have hspot : spot = none := by simpa [Addr.add] using World.cell?_spot hq
    subst hspot
    have hb := World.block_lt_of_cell? _ _ hq
    have ea : ∀ o j : Nat, (⟨b, o, none⟩ : Addr).add j = ⟨b, o + j, none⟩ := by
      intro o j
      unfold Addr.add
      split
      · subst_vars
        rfl
      · rfl
    refine ⟨b, off, rfl, by rw [ea] at hb; exact hb, fun i hi => ?_⟩
    obtain ⟨h1, _, E, k, c, h2, h3⟩ := hQ i hi
    rw [ea] at h1
    rw [ea, ea] at h2
    exact ⟨h1, E, k, c, h2, h3⟩
end
end Go.Proofs.YtlpboleclehilaaDoor
