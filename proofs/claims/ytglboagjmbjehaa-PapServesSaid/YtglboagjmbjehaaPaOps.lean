/-
  A list of calls (Op of pap: a number and a packet) that came in: each cell of it.
-/
import Derived.Test.YtglboagjmbjehaaOpPkt
import Derived.Deep.Slices
import Derived.ProofKit
import Derived.OpenShut
namespace Go.Proofs.Ytglboagjmbjehaa
open Go.RowKit
set_option maxRecDepth 100000

/-- a call -/
structure PaOp where
  kind : Int
  code : Int
  id : Int
  D : Option Addr
  k : Nat
  d : Nat
  l : List UInt8
deriving Inhabited
/-- The slice at A of m calls. -/
def OpsP (w : World) (B : Nat) (A : Option Addr) (m : Nat) (f : Nat → PaOp) : Prop :=
  0 < m → ∃ b off, A = some ⟨b, off, none⟩ ∧ b < B ∧ ∀ i, i < m → w.cell? ⟨b, off + i * 4, none⟩ = some (.int .i64 (f i).kind) ∧ w.cell? ⟨b, off + i * 4 + 1, none⟩ = some (.int .i64 (f i).code) ∧
    w.cell? ⟨b, off + i * 4 + 2, none⟩ = some (.int .i64 (f i).id) ∧ w.cell? ⟨b, off + i * 4 + 3, none⟩ = some (.slice (f i).D (f i).k (f i).d) ∧ Rd w B (f i).D (f i).k (f i).l ∧ (f i).k ≤ (f i).d ∧ ((f i).D = none → (f i).d = 0) ∧ (f i).d ≤ 140737488351232
theorem OpsP.below {w w' : World} {B C m : Nat} {A : Option Addr} {f : Nat → PaOp} (h : OpsP w B A m f) (hb : Below C w w') (hB : B ≤ C) : OpsP w' B A m f := fun h0 => by
  obtain ⟨b, off, e, hl, hc⟩ := h h0
  refine ⟨b, off, e, hl, fun i hi => ?_⟩
  obtain ⟨h1, h2, h3, h4, h5, h6⟩ := hc i hi
  exact ⟨(hb.cell (by show b < C; omega)).trans h1, (hb.cell (by show b < C; omega)).trans h2, (hb.cell (by show b < C; omega)).trans h3, (hb.cell (by show b < C; omega)).trans h4, h5.below (hb.mono hB), h6⟩

open Go.ChangeShapes Go.WideShapes Go.Deep Go.Joins
section
variable {H : Type} {enc : TypeId × Value → H}
theorem weights_mem {P : Program} {e : TypeId} {x : DataW H} : ∀ {l : List (DataW H)}, x ∈ l → ∀ z ∈ x.weights P e, z ∈ DataW.weightsAll P e l
  | [], h => by simp at h
  | y :: r, h => fun z hz => by
    rw [DataW.weightsAll]
    rcases List.mem_cons.1 h with rfl | h
    · exact List.mem_append.2 (.inl hz)
    · exact List.mem_append.2 (.inr (weights_mem h z hz))
theorem opP_cells : Try.prog.cellsOf 40 = 4 := by kernel_rfl
theorem opP_bytes : Try.prog.bytesOf 40 = 48 := by kernel_rfl
theorem intP_open {W : World} {fuel : Nat} {v : Value} {y : DataW H × List MemPlace} (h : DataW.trod enc Try.prog W 0 (fun _ => true) true fuel 3 [v] = some y) : ∃ z : Int, v = .int .i64 z := by
  obtain ⟨z, hv, _, hwf⟩ := DataW.trod_int Try.underlying3 h
  simp at hv
  exact ⟨z, hv⟩
theorem opsP_open {W : World} {fuel : Nat} {a : Option Addr} {n c : Nat} {d : DataW H} {p : List MemPlace} (h : DataW.trod enc Try.prog W 0 (fun _ => true) true fuel 23 [.slice a n c] = some (d, p))
    (hw : ∀ x ∈ d.weights Try.prog 23, x ≤ 140737488351232) : ∃ f, OpsP W W.heap.size a n f ∧ n ≤ 2932031007744 := by
  rcases open_slice Try.underlying23 h with ⟨hcs, _⟩ | ⟨x, l, c', m, f, D, Pl, hcs, _, hl, hm, hmm, hx, hi⟩
  · simp at hcs
    obtain ⟨rfl, rfl, rfl⟩ := hcs
    exact ⟨fun _ => ⟨0, 0, 0, none, 0, 0, []⟩, fun h => absurd h (Nat.lt_irrefl 0), by omega⟩
  · simp at hcs
    obtain ⟨rfl, rfl, rfl⟩ := hcs
    simp only [Prod.mk.injEq] at hx
    obtain ⟨rfl, _⟩ := hx
    simp only [if_true] at hmm
    subst hmm
    rw [opP_cells] at hi
    have hw2 := hw
    unfold DataW.weights at hw2
    rw [Try.underlying23] at hw2
    have hn : n ≤ 2932031007744 := by
      have hs := hw2 _ (List.mem_cons.2 (.inl rfl))
      simp only [List.length_map, List.length_range, opP_bytes] at hs
      omega
    have each : ∀ i, i < n → ∃ q : PaOp, W.cell? (x.add (i * 4)) = some (.int .i64 q.kind) ∧ W.cell? ((x.add (i * 4)).add 1) = some (.int .i64 q.code) ∧ W.cell? ((x.add (i * 4)).add 2) = some (.int .i64 q.id) ∧ W.cell? ((x.add (i * 4)).add 3) = some (.slice q.D q.k q.d) ∧
        Rd W W.heap.size q.D q.k q.l ∧ q.k ≤ q.d ∧ (q.D = none → q.d = 0) ∧ q.d ≤ 140737488351232 := by
      intro i hin
      obtain ⟨cs, hc, ht⟩ := hi i (by omega)
      obtain ⟨_, hlen, hat⟩ := World.cells?_some hc
      have hwi : ∀ z ∈ (D i).weights Try.prog 40, z ≤ 140737488351232 := by
        intro z hz
        exact hw2 z (List.mem_cons.2 (.inr (List.mem_append.2 (.inl (weights_mem (List.mem_map.2 ⟨i, List.mem_range.2 hin, rfl⟩) z hz)))))
      obtain ⟨ys, f', hd, hy, _, hyl, hf⟩ := DataW.trod_struct Try.underlying40 ht
      match cs, hlen with
      | [v0, v1, v2, v3], _ =>
        match ys, hyl with
        | [y0, y1], _ =>
          have h0 : DataW.trod enc Try.prog W 0 (fun _ => true) true f' 3 [v0] = some y0 := hf 0 _ rfl
          have h1 : DataW.trod enc Try.prog W 0 (fun _ => true) true f' 38 [v1, v2, v3] = some y1 := hf 1 _ rfl
          obtain ⟨z0, rfl⟩ := intP_open h0
          obtain ⟨us, f2, _, hu, _, hul, hg⟩ := DataW.trod_struct Try.underlying38 h1
          match us, hul with
          | [u0, u1, u2], _ =>
            have g0 : DataW.trod enc Try.prog W 0 (fun _ => true) true f2 3 [v1] = some u0 := hg 0 _ rfl
            have g1 : DataW.trod enc Try.prog W 0 (fun _ => true) true f2 3 [v2] = some u1 := hg 1 _ rfl
            have g2 : DataW.trod enc Try.prog W 0 (fun _ => true) true f2 36 [v3] = some u2 := hg 2 _ rfl
            obtain ⟨z1, rfl⟩ := intP_open g0
            obtain ⟨z2, rfl⟩ := intP_open g1
            obtain ⟨a', n', c', e2⟩ := slice_form Try.underlying36 g2
            simp at e2
            subst e2
            have hD : D i = .agg [y0.1, y1.1] := congrArg Prod.fst hy
            have hE : y1.1 = .agg [u0.1, u1.1, u2.1] := congrArg Prod.fst hu
            obtain ⟨l, r1, r2, r3, r4⟩ := pkt_bytes g2 (fun z hz => hwi z (by
              rw [hD, hE]
              simp [DataW.weights, DataW.weightsEach, Try.underlying40, Try.underlying38, hz]))
            exact ⟨⟨z0, z1, z2, a', n', c', l⟩, by simpa [Addr.add] using hat 0 (by omega), hat 1 (by omega), hat 2 (by omega), hat 3 (by omega), r1, r3, r2, r4⟩
    obtain ⟨Q, hQ⟩ := choose_lt each
    refine ⟨Q, fun h0 => ?_, hn⟩
    obtain ⟨b, off, spot⟩ := x
    have hq := (hQ 0 h0).1
    have hspot : spot = none := by simpa [Addr.add] using World.cell?_spot hq
    subst hspot
    have hb := World.block_lt_of_cell? _ _ hq
    have ea : ∀ o j : Nat, (⟨b, o, none⟩ : Addr).add j = ⟨b, o + j, none⟩ := by
      intro o j
      unfold Addr.add
      split
      · subst_vars
        rfl
      · rfl
    rw [ea] at hb
    refine ⟨b, off, rfl, hb, fun i hin => ?_⟩
    have := hQ i hin
    simp only [ea] at this
    exact this
end
end Go.Proofs.Ytglboagjmbjehaa
