/-
  Calls (Op: a kind, a time, a bool) that came in: one by value, and a list of them.
-/
import Derived.Test.YtdjifjlkpimiaaaPoConf
import Derived.Deep.Slices
import Derived.ProofKit
import Derived.SizedLaws
import Derived.OpenShut
namespace Go.Proofs.Ytdjifjlkpimiaaa
open Go.RowKit
set_option maxRecDepth 100000
set_option linter.unusedVariables false

/-- a number of 64 bits -/
def In64 (z : Int) : Prop := -9223372036854775808 ≤ z ∧ z ≤ 9223372036854775807
/-- The slice at A of m calls: of call i the kind, the time, the bool. -/
def PoOps (w : World) (B : Nat) (A : Option Addr) (m : Nat) (f : Nat → Int × Int × Bool) : Prop :=
  0 < m → ∃ b off, A = some ⟨b, off, none⟩ ∧ b < B ∧ ∀ i, i < m → w.cell? ⟨b, off + i * 3, none⟩ = some (.int .i64 (f i).1) ∧ w.cell? ⟨b, off + i * 3 + 1, none⟩ = some (.int .i64 (f i).2.1) ∧
    w.cell? ⟨b, off + i * 3 + 2, none⟩ = some (.bool (f i).2.2) ∧ In64 (f i).1 ∧ In64 (f i).2.1
theorem PoOps.below {w w' : World} {B C m : Nat} {A : Option Addr} {f : Nat → Int × Int × Bool} (h : PoOps w B A m f) (hb : Below C w w') (hB : B ≤ C) : PoOps w' B A m f := fun h0 => by
  obtain ⟨b, off, e, hl, hc⟩ := h h0
  refine ⟨b, off, e, hl, fun i hi => ?_⟩
  obtain ⟨h1, h2, h3, h5⟩ := hc i hi
  exact ⟨(hb.cell (by show b < C; omega)).trans h1, (hb.cell (by show b < C; omega)).trans h2, (hb.cell (by show b < C; omega)).trans h3, h5⟩

open Go.ChangeShapes Go.WideShapes Go.Deep
section
variable {H : Type} {enc : TypeId × Value → H}
theorem poop_cells : Try.prog.cellsOf 36 = 3 := by kernel_rfl
theorem poop_bytes : Try.prog.bytesOf 36 = 24 := by kernel_rfl
theorem int4_open {W : World} {fuel : Nat} {v : Value} {y : DataW H × List MemPlace} (h : DataW.trod enc Try.prog W 0 (fun _ => true) true fuel 3 [v] = some y) : ∃ z : Int, v = .int .i64 z ∧ In64 z := by
  obtain ⟨z, hv, _, hwf⟩ := DataW.trod_int Try.underlying3 h
  simp at hv
  exact ⟨z, hv, (bounds_i64 hwf).1, (bounds_i64 hwf).2⟩
theorem int8_open {W : World} {fuel : Nat} {v : Value} {y : DataW H × List MemPlace} (h : DataW.trod enc Try.prog W 0 (fun _ => true) true fuel 2 [v] = some y) : ∃ z : Int, v = .int .i64 z ∧ In64 z := by
  obtain ⟨z, hv, _, hwf⟩ := DataW.trod_int Try.underlying2 h
  simp at hv
  exact ⟨z, hv, (bounds_i64 hwf).1, (bounds_i64 hwf).2⟩
theorem bool1_open {W : World} {fuel : Nat} {v : Value} {y : DataW H × List MemPlace} (h : DataW.trod enc Try.prog W 0 (fun _ => true) true fuel 4 [v] = some y) : ∃ b : Bool, v = .bool b := by
  obtain ⟨q, e, _⟩ := DataW.trod_bool Try.underlying4 h
  simp at e
  exact ⟨q, e⟩
theorem poops_open {W : World} {fuel : Nat} {a : Option Addr} {n c : Nat} {d : DataW H} {p : List MemPlace} (h : DataW.trod enc Try.prog W 0 (fun _ => true) true fuel 26 [.slice a n c] = some (d, p))
    (hw : ∀ x ∈ d.weights Try.prog 26, x ≤ 140737488351232) : ∃ f, PoOps W W.heap.size a n f ∧ n ≤ 5864062014634 := by
  rcases open_slice Try.underlying26 h with ⟨hcs, _⟩ | ⟨x, l, c', m, f, D, Pl, hcs, _, hl, hm, hmm, hx, hi⟩
  · simp at hcs
    obtain ⟨rfl, rfl, rfl⟩ := hcs
    exact ⟨fun _ => (0, 0, false), fun h => absurd h (Nat.lt_irrefl 0), by omega⟩
  · simp at hcs
    obtain ⟨rfl, rfl, rfl⟩ := hcs
    simp only [Prod.mk.injEq] at hx
    obtain ⟨rfl, _⟩ := hx
    simp only [if_true] at hmm
    subst hmm
    rw [poop_cells] at hi
    have hn : n ≤ 5864062014634 := by
      have hw2 := hw
      unfold DataW.weights at hw2
      rw [Try.underlying26] at hw2
      have hs := hw2 _ (List.mem_cons.2 (.inl rfl))
      simp only [List.length_map, List.length_range, poop_bytes] at hs
      omega
    have each : ∀ i, i < n → ∃ q : Int × Int × Bool, W.cell? (x.add (i * 3)) = some (.int .i64 q.1) ∧ W.cell? ((x.add (i * 3)).add 1) = some (.int .i64 q.2.1) ∧ W.cell? ((x.add (i * 3)).add 2) = some (.bool q.2.2) ∧ In64 q.1 ∧ In64 q.2.1 := by
      intro i hin
      obtain ⟨cs, hc, ht⟩ := hi i (by omega)
      obtain ⟨_, hlen, hat⟩ := World.cells?_some hc
      obtain ⟨ys, f', _, hy, _, hyl, hf⟩ := DataW.trod_struct Try.underlying36 ht
      match cs, hlen with
      | [v0, v1, v2], _ =>
        match ys, hyl with
        | [y0, y1, y2], _ =>
          have h0 : DataW.trod enc Try.prog W 0 (fun _ => true) true f' 3 [v0] = some y0 := hf 0 _ rfl
          have h1 : DataW.trod enc Try.prog W 0 (fun _ => true) true f' 2 [v1] = some y1 := hf 1 _ rfl
          have h2 : DataW.trod enc Try.prog W 0 (fun _ => true) true f' 4 [v2] = some y2 := hf 2 _ rfl
          obtain ⟨z0, rfl, a0⟩ := int4_open h0
          obtain ⟨z1, rfl, a1⟩ := int8_open h1
          obtain ⟨z2, rfl⟩ := bool1_open h2
          exact ⟨(z0, z1, z2), by simpa [Addr.add] using hat 0 (by omega), hat 1 (by omega), hat 2 (by omega), a0, a1⟩
    obtain ⟨Q, hQ⟩ := choose_lt each
    refine ⟨Q, fun h0 => ?_, hn⟩
    obtain ⟨b, off, spot⟩ := x
    have hq := (hQ 0 h0).1
    have hspot : spot = none := by simpa [Addr.add] using World.cell?_spot hq
    subst hspot
    have hb := World.block_lt_of_cell? _ _ hq
    have ea : ∀ o j : Nat, (⟨b, o, none⟩ : Addr).add j = ⟨b, o + j, none⟩ := by
      intro o j
      unfold Addr.add
      split
      · subst_vars
        rfl
      · rfl
    rw [ea] at hb
    refine ⟨b, off, rfl, hb, fun i hin => ?_⟩
    have := hQ i hin
    simp only [ea] at this
    exact this
theorem op28_open {base : Nat} {v : Value} {W : World} {d : DataW H} {p : List MemPlace} (hv : Value.okWide Try.prog W .any base 36 v)
    (h : DataW.Trod enc Try.prog W 0 (fun _ => true) true 36 v d p) (hw : ∀ x ∈ d.weights Try.prog 36, x ≤ 140737488351232) : ∃ k b m, v = .agg #[.int .i64 k, .int .i64 b, .bool m] ∧ In64 k ∧ In64 b := by
  obtain ⟨cs, rfl, hsz, hall⟩ := open_row Try.underlying36 (by kernel_rfl) hv h
  have hsz6 : cs.size = 3 := hsz.trans (by kernel_rfl)
  obtain ⟨c0, y0, n0, e0, t0, _⟩ := hall 0 _ rfl (by omega)
  obtain ⟨c1, y1, n1, e1, t1, _⟩ := hall 1 _ rfl (by omega)
  obtain ⟨c2, y2, n2, e2, t2, _⟩ := hall 2 _ rfl (by omega)
  obtain ⟨x0, q0, a0⟩ := int4_open t0
  obtain ⟨x1, q1, a1⟩ := int8_open t1
  obtain ⟨x2, q2⟩ := bool1_open t2
  subst q0 q1 q2
  refine ⟨x0, x1, x2, ?_, a0, a1⟩
  obtain ⟨l⟩ := cs
  match l, hsz6 with
  | [b0, b1, b2], _ =>
    simp at e0 e1 e2
    subst e0 e1 e2
    rfl
end
end Go.Proofs.Ytdjifjlkpimiaaa
