/-
  A list of frames that came in; whole numbers that came in.
-/
import Derived.Test.YtmdlpbgelgeiaaaDoorHdFrm
import Derived.Test.YtmdlpbgelgeiaaaDoorOpPb
import Derived.Deep.Slices
import Derived.ProofKit
import Derived.SizedLaws
import Derived.OpenShut
namespace Go.Proofs.YtmdlpbgelgeiaaaDoor
open Go.RowKit
set_option maxRecDepth 100000
set_option linter.unusedSimpArgs false
set_option linter.unusedVariables false

/-- The slice at A of m options: of option i the kind K i and the bytes L i. -/
def FrmsAt (w : World) (B : Nat) (A : Option Addr) (m : Nat) (K : Nat → Int) (L : Nat → List UInt8) : Prop :=
  0 < m → ∃ b off, A = some ⟨b, off, none⟩ ∧ b < B ∧ ∀ i, i < m → w.cell? ⟨b, off + i * 2, none⟩ = some (.int .i64 (K i)) ∧ ∃ E k c, w.cell? ⟨b, off + i * 2 + 1, none⟩ = some (.slice E k c) ∧ Rd w B E k (L i) ∧ (E = none → c = 0) ∧ k ≤ c ∧ c ≤ 140737488351232
theorem FrmsAt.below {w w' : World} {B C m : Nat} {A : Option Addr} {K : Nat → Int} {L : Nat → List UInt8} (h : FrmsAt w B A m K L) (hb : Below C w w') (hB : B ≤ C) : FrmsAt w' B A m K L := fun h0 => by
  obtain ⟨b, off, e, hl, hc⟩ := h h0
  refine ⟨b, off, e, hl, fun i hi => ?_⟩
  obtain ⟨h1, E, k, c, h2, h3, h4⟩ := hc i hi
  exact ⟨(hb.cell (by show b < C; omega)).trans h1, E, k, c, (hb.cell (by show b < C; omega)).trans h2, h3.below (hb.mono hB), h4⟩

open Go.ChangeShapes Go.WideShapes Go.Deep
section
variable {H : Type} {enc : TypeId × Value → H}
theorem frm_cells : Tryd.prog.cellsOf 24 = 2 := by kernel_rfl
theorem frm_bytes : Tryd.prog.bytesOf 24 = 32 := by kernel_rfl
theorem weights_allF {P : Program} {e : TypeId} {d : DataW H} {x : Nat} : ∀ {l : List (DataW H)}, d ∈ l → x ∈ d.weights P e → x ∈ DataW.weightsAll P e l
  | a :: l, h, hx => by
    rw [DataW.weightsAll, List.mem_append]
    rcases List.mem_cons.1 h with rfl | h
    · exact .inl hx
    · exact .inr (weights_allF h hx)
theorem frms_at {W : World} {fuel : Nat} {a : Option Addr} {n c : Nat} {d : DataW H} {p : List MemPlace} (h : DataW.trod enc Tryd.prog W 0 (fun _ => true) true fuel 42 [.slice a n c] = some (d, p))
    (hw : ∀ x ∈ d.weights Tryd.prog 42, x ≤ 140737488351232) : ∃ (K : Nat → Int) (L : Nat → List UInt8), FrmsAt W W.heap.size a n K L ∧ n ≤ 4398046510976 ∧ n ≤ c ∧ ∀ i, i < n → (Lit.int .i64 (K i)).wf = true := by
  rcases open_slice Tryd.underlying42 h with ⟨hcs, _⟩ | ⟨x, l, c', m, f, D, Pl, hcs, _, hl, hm, hmm, hx, hi⟩
  · simp at hcs
    obtain ⟨rfl, rfl, rfl⟩ := hcs
    exact ⟨fun _ => 0, fun _ => [], fun h => absurd h (Nat.lt_irrefl 0), by omega, Nat.le_refl _, fun i hi => absurd hi (Nat.not_lt_zero _)⟩
  · simp at hcs
    obtain ⟨rfl, rfl, rfl⟩ := hcs
    simp only [Prod.mk.injEq] at hx
    obtain ⟨rfl, _⟩ := hx
    simp only [if_true] at hmm
    subst hmm
    rw [frm_cells] at hi
    unfold DataW.weights at hw
    rw [Tryd.underlying42] at hw
    have hn : n ≤ 4398046510976 := by
      have hs := hw _ (List.mem_cons.2 (.inl rfl))
      simp only [List.length_map, List.length_range, frm_bytes] at hs
      omega
    have each : ∀ i, i < n → ∃ q : Int × List UInt8, W.cell? (x.add (i * 2)) = some (.int .i64 q.1) ∧ (Lit.int .i64 q.1).wf = true ∧ ∃ E k c, W.cell? ((x.add (i * 2)).add 1) = some (.slice E k c) ∧ Rd W W.heap.size E k q.2 ∧ (E = none → c = 0) ∧ k ≤ c ∧ c ≤ 140737488351232 := by
      intro i hin
      obtain ⟨cs, hc, ht⟩ := hi i (by omega)
      obtain ⟨_, hlen, hat⟩ := World.cells?_some hc
      obtain ⟨ys, f', hf', hy, hy2, hyl, hf⟩ := DataW.trod_struct Tryd.underlying24 ht
      match cs, hlen with
      | [v0, v1], _ =>
        match ys, hyl with
        | [y0, y1], _ =>
          have h0 : DataW.trod enc Tryd.prog W 0 (fun _ => true) true f' 3 [v0] = some y0 := hf 0 _ rfl
          have h1 : DataW.trod enc Tryd.prog W 0 (fun _ => true) true f' 22 [v1] = some y1 := hf 1 _ rfl
          obtain ⟨z0, e0, _, w0⟩ := DataW.trod_int Tryd.underlying3 h0
          obtain ⟨E, k, cc, e1⟩ := Go.Joins.slice_form Tryd.underlying22 h1
          simp at e0 e1
          subst e0 e1
          have hD : D i = .agg [y0.1, y1.1] := by
            have := hy
            simp only [Prod.mk.injEq] at this
            exact this.1
          obtain ⟨l1, hl1⟩ := pkt_bytes h1 (fun u hu => hw u (List.mem_cons_of_mem _ (List.mem_append.2 (.inl (weights_allF (d := D i) (List.mem_map.2 ⟨i, List.mem_range.2 hin, rfl⟩) (by
            rw [hD]
            simp [DataW.weights, DataW.weightsEach, Tryd.underlying24, hu]))))))
          exact ⟨(z0, l1), by simpa [Addr.add] using hat 0 (by omega), w0, E, k, cc, hat 1 (by omega), hl1⟩
    obtain ⟨Q, hQ⟩ := choose_lt each
    refine ⟨fun i => (Q i).1, fun i => (Q i).2, fun h0 => ?_, hn, hl, fun i hi => (hQ i hi).2.1⟩
    obtain ⟨b, off, spot⟩ := x
    have hq := (hQ 0 h0).1
    have hspot : spot = none := by simpa [Addr.add] using World.cell?_spot hq
    subst hspot
    have hb := World.block_lt_of_cell? _ _ hq
    have ea : ∀ o j : Nat, (⟨b, o, none⟩ : Addr).add j = ⟨b, o + j, none⟩ := by
      intro o j
      unfold Addr.add
      split
      · subst_vars
        rfl
      · rfl
    refine ⟨b, off, rfl, by rw [ea] at hb; exact hb, fun i hi => ?_⟩
    obtain ⟨h1, _, E, k, c, h2, h3⟩ := hQ i hi
    rw [ea] at h1
    rw [ea, ea] at h2
    exact ⟨h1, E, k, c, h2, h3⟩
theorem frms_rd {w : World} {B m : Nat} {A : Option Addr} {K : Nat → Int} {L : Nat → List UInt8} (h : FrmsAt w B A m K L) : FrmRd w B A m ((List.range m).map fun i => (K i, L i)) := by
  refine ⟨by simp, fun h0 => ?_⟩
  obtain ⟨b, off, e, hl, hc⟩ := h h0
  refine ⟨b, off, e, hl, fun i hi => ?_⟩
  have hi' : i < m := by simpa using hi
  obtain ⟨h1, E, k, c, h2, h3, h4, h5, h6⟩ := hc i hi'
  simp only [List.getElem_map, List.getElem_range]
  exact ⟨h1, E, k, c, h2, h3, h4, h5, by omega⟩
theorem frms_open {W : World} {fuel : Nat} {a : Option Addr} {n c : Nat} {d : DataW H} {p : List MemPlace} (h : DataW.trod enc Tryd.prog W 0 (fun _ => true) true fuel 42 [.slice a n c] = some (d, p))
    (hw : ∀ x ∈ d.weights Tryd.prog 42, x ≤ 140737488351232) : ∃ s : List Frm, FrmRd W W.heap.size a n s ∧ n ≤ c ∧ n ≤ 4398046510976 := by
  obtain ⟨K, L, h1, h2, h3, _⟩ := frms_at h hw
  exact ⟨_, frms_rd h1, h3, h2⟩
/-- whole numbers that came in -/
def RdN (w : World) (B : Nat) (A : Option Addr) (n : Nat) : Prop :=
  0 < n → ∃ b off, A = some ⟨b, off, none⟩ ∧ b < B ∧ ∀ j, j < n → ∃ z : Int, w.cell? ⟨b, off + j, none⟩ = some (.int .i64 z) ∧ -9223372036854775808 ≤ z ∧ z ≤ 9223372036854775807
theorem RdN.below {w w' : World} {B C n : Nat} {A : Option Addr} (h : RdN w B A n) (hb : Below C w w') (hB : B ≤ C) : RdN w' B A n := fun h0 => by
  obtain ⟨b, off, e, hl, hc⟩ := h h0
  refine ⟨b, off, e, hl, fun j hj => ?_⟩
  obtain ⟨z, h1, h2⟩ := hc j hj
  exact ⟨z, (hb.cell (by show b < C; omega)).trans h1, h2⟩
theorem nums_bytes : Tryd.prog.bytesOf 3 = 8 := by kernel_rfl
theorem nums_open {W : World} {fuel : Nat} {a : Option Addr} {n c : Nat} {d : DataW H} {p : List MemPlace} (h : DataW.trod enc Tryd.prog W 0 (fun _ => true) true fuel 65 [.slice a n c] = some (d, p))
    (hw : ∀ x ∈ d.weights Tryd.prog 65, x ≤ 140737488351232) : RdN W W.heap.size a n ∧ n ≤ 17592186043904 := by
  rcases open_ints Tryd.underlying65 Tryd.underlying3 (by kernel_rfl) h with ⟨hcs, _⟩ | ⟨x, l, c', zs, hcs, _, hl, hm, hz, hx, hcell, hwz⟩
  · simp at hcs
    obtain ⟨rfl, rfl, rfl⟩ := hcs
    exact ⟨fun h => absurd h (Nat.lt_irrefl 0), by omega⟩
  · simp at hcs
    obtain ⟨rfl, rfl, rfl⟩ := hcs
    simp only [Prod.mk.injEq] at hx
    obtain ⟨rfl, _⟩ := hx
    simp only [if_true] at hz
    have hs := hw ((zs.length) * 8) (by
      unfold DataW.weights
      rw [Tryd.underlying65]
      simp only [lits, List.length_map, List.length_take, List.length_drop, nums_bytes]
      refine List.mem_cons.2 (.inl ?_)
      omega)
    refine ⟨fun h0 => ?_, by omega⟩
    obtain ⟨b, off, spot⟩ := x
    have h1 := hcell 0 (by omega)
    have hspot : spot = none := by simpa [Addr.add] using World.cell?_spot h1
    subst hspot
    have hb := World.block_lt_of_cell? _ _ h1
    refine ⟨b, off, rfl, by simpa [Addr.add] using hb, fun j hj => ?_⟩
    have h2 := hcell j (by omega)
    have e : (⟨b, off, none⟩ : Addr).add j = ⟨b, off + j, none⟩ := by
      unfold Addr.add
      split
      · subst_vars
        rfl
      · rfl
    rw [e] at h2
    have hj2 : j < zs.length := by omega
    have hw2 := hwz (zs.getD j 0) (by rw [List.getD_eq_getElem?_getD, List.getElem?_eq_getElem hj2]; exact List.getElem_mem hj2)
    exact ⟨_, h2, bounds_i64 hw2⟩
end
end Go.Proofs.YtmdlpbgelgeiaaaDoor
