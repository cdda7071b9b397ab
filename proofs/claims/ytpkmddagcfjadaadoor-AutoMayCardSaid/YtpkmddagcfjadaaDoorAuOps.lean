/-
  A list of calls (Op: two numbers) that came in: each cell of it.
-/
import Derived.Test.YtpkmddagcfjadaaDoorAuWords
import Derived.Deep.Slices
import Derived.ProofKit
import Derived.SizedLaws
import Derived.OpenShut
namespace Go.Proofs.YtpkmddagcfjadaaDoor
open Go.RowKit
set_option maxRecDepth 100000

/-- The slice at A of m calls: of call i the kind K i, the event N i. -/
def OpsAt (w : World) (B : Nat) (A : Option Addr) (m : Nat) (K N : Nat → Int) : Prop :=
  0 < m → ∃ b off, A = some ⟨b, off, none⟩ ∧ b < B ∧ ∀ i, i < m → w.cell? ⟨b, off + i * 2, none⟩ = some (.int .i64 (K i)) ∧ w.cell? ⟨b, off + i * 2 + 1, none⟩ = some (.int .i64 (N i)) ∧
    (-9223372036854775808 ≤ K i ∧ K i ≤ 9223372036854775807) ∧ (-9223372036854775808 ≤ N i ∧ N i ≤ 9223372036854775807)
theorem OpsAt.below {w w' : World} {B C m : Nat} {A : Option Addr} {K N : Nat → Int} (h : OpsAt w B A m K N) (hb : Below C w w') (hB : B ≤ C) : OpsAt w' B A m K N := fun h0 => by
  obtain ⟨b, off, e, hl, hc⟩ := h h0
  refine ⟨b, off, e, hl, fun i hi => ?_⟩
  obtain ⟨h1, h2, h3⟩ := hc i hi
  exact ⟨(hb.cell (by show b < C; omega)).trans h1, (hb.cell (by show b < C; omega)).trans h2, h3⟩

open Go.ChangeShapes Go.WideShapes Go.Deep
section
variable {H : Type} {enc : TypeId × Value → H}
theorem op_cells : Tryd.prog.cellsOf 43 = 2 := by kernel_rfl
theorem op_bytes : Tryd.prog.bytesOf 43 = 16 := by kernel_rfl
theorem int_open {W : World} {fuel : Nat} {v : Value} {y : DataW H × List MemPlace} (h : DataW.trod enc Tryd.prog W 0 (fun _ => true) true fuel 3 [v] = some y) : ∃ z : Int, v = .int .i64 z ∧ -9223372036854775808 ≤ z ∧ z ≤ 9223372036854775807 := by
  obtain ⟨z, hv, _, hwf⟩ := DataW.trod_int Tryd.underlying3 h
  simp at hv
  exact ⟨z, hv, (bounds_i64 hwf).1, (bounds_i64 hwf).2⟩
theorem aops_open {W : World} {fuel : Nat} {a : Option Addr} {n c : Nat} {d : DataW H} {p : List MemPlace} (h : DataW.trod enc Tryd.prog W 0 (fun _ => true) true fuel 35 [.slice a n c] = some (d, p))
    (hw : ∀ x ∈ d.weights Tryd.prog 35, x ≤ 140737488351232) : ∃ (K N : Nat → Int), OpsAt W W.heap.size a n K N ∧ n ≤ 8796093021952 := by
  rcases open_slice Tryd.underlying35 h with ⟨hcs, _⟩ | ⟨x, l, c', m, f, D, Pl, hcs, _, hl, hm, hmm, hx, hi⟩
  · simp at hcs
    obtain ⟨rfl, rfl, rfl⟩ := hcs
    exact ⟨fun _ => 0, fun _ => 0, fun h => absurd h (Nat.lt_irrefl 0), by omega⟩
  · simp at hcs
    obtain ⟨rfl, rfl, rfl⟩ := hcs
    simp only [Prod.mk.injEq] at hx
    obtain ⟨rfl, _⟩ := hx
    simp only [if_true] at hmm
    subst hmm
    rw [op_cells] at hi
    have hn : n ≤ 8796093021952 := by
      have hw2 := hw
      unfold DataW.weights at hw2
      rw [Tryd.underlying35] at hw2
      have hs := hw2 _ (List.mem_cons.2 (.inl rfl))
      simp only [List.length_map, List.length_range, op_bytes] at hs
      omega
    have each : ∀ i, i < n → ∃ q : Int × Int, W.cell? (x.add (i * 2)) = some (.int .i64 q.1) ∧ W.cell? ((x.add (i * 2)).add 1) = some (.int .i64 q.2) ∧ (-9223372036854775808 ≤ q.1 ∧ q.1 ≤ 9223372036854775807) ∧ (-9223372036854775808 ≤ q.2 ∧ q.2 ≤ 9223372036854775807) := by
      intro i hin
      obtain ⟨cs, hc, ht⟩ := hi i (by omega)
      obtain ⟨_, hlen, hat⟩ := World.cells?_some hc
      obtain ⟨ys, f', _, hy, _, hyl, hf⟩ := DataW.trod_struct Tryd.underlying43 ht
      match cs, hlen with
      | [v0, v1], _ =>
        match ys, hyl with
        | [y0, y1], _ =>
          have h0 : DataW.trod enc Tryd.prog W 0 (fun _ => true) true f' 3 [v0] = some y0 := hf 0 _ rfl
          have h1 : DataW.trod enc Tryd.prog W 0 (fun _ => true) true f' 3 [v1] = some y1 := hf 1 _ rfl
          obtain ⟨z0, rfl, a1, a2⟩ := int_open h0
          obtain ⟨z1, rfl, b1, b2⟩ := int_open h1
          exact ⟨(z0, z1), by simpa [Addr.add] using hat 0 (by omega), hat 1 (by omega), ⟨a1, a2⟩, b1, b2⟩
    obtain ⟨Q, hQ⟩ := choose_lt each
    refine ⟨fun i => (Q i).1, fun i => (Q i).2, fun h0 => ?_, hn⟩
    obtain ⟨b, off, spot⟩ := x
    have hq := (hQ 0 h0).1
    have hspot : spot = none := by simpa [Addr.add] using World.cell?_spot hq
    subst hspot
    have hb := World.block_lt_of_cell? _ _ hq
    have ea : ∀ o j : Nat, (⟨b, o, none⟩ : Addr).add j = ⟨b, o + j, none⟩ := by
      intro o j
      unfold Addr.add
      split
      · subst_vars
        rfl
      · rfl
    rw [ea] at hb
    refine ⟨b, off, rfl, hb, fun i hin => ?_⟩
    have := hQ i hin
    simp only [ea] at this
    exact this
end
end Go.Proofs.YtpkmddagcfjadaaDoor
