/-
  A list of calls (Op: two numbers, two bools) that came in: each cell of it.
-/
import Derived.Test.YtandakinbcfleaaPhMath
import Derived.Deep.Slices
import Derived.ProofKit
import Derived.SizedLaws
import Derived.OpenShut
namespace Go.Proofs.Ytandakinbcfleaa
open Go.RowKit
set_option maxRecDepth 100000

/-- a number of 64 bits -/
def In64 (z : Int) : Prop := -9223372036854775808 ≤ z ∧ z ≤ 9223372036854775807
/-- The slice at A of m calls: of call i the kind, the number, the deadline and the span. -/
def PhOps (w : World) (B : Nat) (A : Option Addr) (m : Nat) (f : Nat → Int × Int × Bool × Bool) : Prop :=
  0 < m → ∃ b off, A = some ⟨b, off, none⟩ ∧ b < B ∧ ∀ i, i < m → w.cell? ⟨b, off + i * 4, none⟩ = some (.int .i64 (f i).1) ∧ w.cell? ⟨b, off + i * 4 + 1, none⟩ = some (.int .i64 (f i).2.1) ∧
    w.cell? ⟨b, off + i * 4 + 2, none⟩ = some (.bool (f i).2.2.1) ∧ w.cell? ⟨b, off + i * 4 + 3, none⟩ = some (.bool (f i).2.2.2) ∧ In64 (f i).1 ∧ In64 (f i).2.1
theorem PhOps.below {w w' : World} {B C m : Nat} {A : Option Addr} {f : Nat → Int × Int × Bool × Bool} (h : PhOps w B A m f) (hb : Below C w w') (hB : B ≤ C) : PhOps w' B A m f := fun h0 => by
  obtain ⟨b, off, e, hl, hc⟩ := h h0
  refine ⟨b, off, e, hl, fun i hi => ?_⟩
  obtain ⟨h1, h2, h3, h4, h5⟩ := hc i hi
  exact ⟨(hb.cell (by show b < C; omega)).trans h1, (hb.cell (by show b < C; omega)).trans h2, (hb.cell (by show b < C; omega)).trans h3, (hb.cell (by show b < C; omega)).trans h4, h5⟩

open Go.ChangeShapes Go.WideShapes Go.Deep
section
variable {H : Type} {enc : TypeId × Value → H}
theorem phop_cells : Try.prog.cellsOf 38 = 4 := by kernel_rfl
theorem phop_bytes : Try.prog.bytesOf 38 = 24 := by kernel_rfl
theorem int4_open {W : World} {fuel : Nat} {v : Value} {y : DataW H × List MemPlace} (h : DataW.trod enc Try.prog W 0 (fun _ => true) true fuel 3 [v] = some y) : ∃ z : Int, v = .int .i64 z ∧ In64 z := by
  obtain ⟨z, hv, _, hwf⟩ := DataW.trod_int Try.underlying3 h
  simp at hv
  exact ⟨z, hv, (bounds_i64 hwf).1, (bounds_i64 hwf).2⟩
theorem bool1_open {W : World} {fuel : Nat} {v : Value} {y : DataW H × List MemPlace} (h : DataW.trod enc Try.prog W 0 (fun _ => true) true fuel 4 [v] = some y) : ∃ b : Bool, v = .bool b := by
  obtain ⟨q, e, _⟩ := DataW.trod_bool Try.underlying4 h
  simp at e
  exact ⟨q, e⟩
theorem phops_open {W : World} {fuel : Nat} {a : Option Addr} {n c : Nat} {d : DataW H} {p : List MemPlace} (h : DataW.trod enc Try.prog W 0 (fun _ => true) true fuel 30 [.slice a n c] = some (d, p))
    (hw : ∀ x ∈ d.weights Try.prog 30, x ≤ 140737488351232) : ∃ f, PhOps W W.heap.size a n f ∧ n ≤ 8796093021952 := by
  rcases open_slice Try.underlying30 h with ⟨hcs, _⟩ | ⟨x, l, c', m, f, D, Pl, hcs, _, hl, hm, hmm, hx, hi⟩
  · simp at hcs
    obtain ⟨rfl, rfl, rfl⟩ := hcs
    exact ⟨fun _ => (0, 0, false, false), fun h => absurd h (Nat.lt_irrefl 0), by omega⟩
  · simp at hcs
    obtain ⟨rfl, rfl, rfl⟩ := hcs
    simp only [Prod.mk.injEq] at hx
    obtain ⟨rfl, _⟩ := hx
    simp only [if_true] at hmm
    subst hmm
    rw [phop_cells] at hi
    have hn : n ≤ 8796093021952 := by
      have hw2 := hw
      unfold DataW.weights at hw2
      rw [Try.underlying30] at hw2
      have hs := hw2 _ (List.mem_cons.2 (.inl rfl))
      simp only [List.length_map, List.length_range, phop_bytes] at hs
      omega
    have each : ∀ i, i < n → ∃ q : Int × Int × Bool × Bool, W.cell? (x.add (i * 4)) = some (.int .i64 q.1) ∧ W.cell? ((x.add (i * 4)).add 1) = some (.int .i64 q.2.1) ∧ W.cell? ((x.add (i * 4)).add 2) = some (.bool q.2.2.1) ∧ W.cell? ((x.add (i * 4)).add 3) = some (.bool q.2.2.2) ∧ In64 q.1 ∧ In64 q.2.1 := by
      intro i hin
      obtain ⟨cs, hc, ht⟩ := hi i (by omega)
      obtain ⟨_, hlen, hat⟩ := World.cells?_some hc
      obtain ⟨ys, f', _, hy, _, hyl, hf⟩ := DataW.trod_struct Try.underlying38 ht
      match cs, hlen with
      | [v0, v1, v2, v3], _ =>
        match ys, hyl with
        | [y0, y1, y2, y3], _ =>
          have h0 : DataW.trod enc Try.prog W 0 (fun _ => true) true f' 3 [v0] = some y0 := hf 0 _ rfl
          have h1 : DataW.trod enc Try.prog W 0 (fun _ => true) true f' 3 [v1] = some y1 := hf 1 _ rfl
          have h2 : DataW.trod enc Try.prog W 0 (fun _ => true) true f' 4 [v2] = some y2 := hf 2 _ rfl
          have h3 : DataW.trod enc Try.prog W 0 (fun _ => true) true f' 4 [v3] = some y3 := hf 3 _ rfl
          obtain ⟨z0, rfl, a0⟩ := int4_open h0
          obtain ⟨z1, rfl, a1⟩ := int4_open h1
          obtain ⟨z2, rfl⟩ := bool1_open h2
          obtain ⟨z3, rfl⟩ := bool1_open h3
          exact ⟨(z0, z1, z2, z3), by simpa [Addr.add] using hat 0 (by omega), hat 1 (by omega), hat 2 (by omega), hat 3 (by omega), a0, a1⟩
    obtain ⟨Q, hQ⟩ := choose_lt each
    refine ⟨Q, fun h0 => ?_, hn⟩
    obtain ⟨b, off, spot⟩ := x
    have hq := (hQ 0 h0).1
    have hspot : spot = none := by simpa [Addr.add] using World.cell?_spot hq
    subst hspot
    have hb := World.block_lt_of_cell? _ _ hq
    have ea : ∀ o j : Nat, (⟨b, o, none⟩ : Addr).add j = ⟨b, o + j, none⟩ := by
      intro o j
      unfold Addr.add
      split
      · subst_vars
        rfl
      · rfl
    rw [ea] at hb
    refine ⟨b, off, rfl, hb, fun i hin => ?_⟩
    have := hQ i hin
    simp only [ea] at this
    exact this
end
end Go.Proofs.Ytandakinbcfleaa
