/-
  A list of calls (Op) that came in: each cell of it.
-/
import Derived.Test.YtdnheiefbecaeaaBase
import Derived.Test.YtdnheiefbecaeaaOpen
import Derived.Deep.Slices
import Derived.ProofKit
import Derived.SizedLaws
namespace Go.Proofs.Ytdnheiefbecaeaa
open Go.RowKit

/-- The slice at A of m calls: of call i the kind K i, the number N i, the bytes S i. -/
def OpsAt (w : World) (A : Option Addr) (m : Nat) (K N : Nat → Int) (S : Nat → List UInt8) : Prop :=
  0 < m → ∃ b off, A = some ⟨b, off, none⟩ ∧ b < w.heap.size ∧ ∀ i, i < m → w.cell? ⟨b, off + i * 3, none⟩ = some (.int .i64 (K i)) ∧ w.cell? ⟨b, off + i * 3 + 1, none⟩ = some (.int .i64 (N i)) ∧
    -9223372036854775808 ≤ N i ∧ N i ≤ 9223372036854775807 ∧
    ∃ D k c, w.cell? ⟨b, off + i * 3 + 2, none⟩ = some (.slice D k c) ∧ Rd w w.heap.size D k (S i) ∧ k ≤ c ∧ c ≤ 140737488351232 ∧ (D = none → c = 0)

open Go.ChangeShapes Go.WideShapes Go.Deep
section
variable {H : Type} {enc : TypeId × Value → H}
theorem weights_all {P : Program} {e : TypeId} {d : DataW H} {x : Nat} : ∀ {l : List (DataW H)}, d ∈ l → x ∈ d.weights P e → x ∈ DataW.weightsAll P e l
  | a :: r, hd, hx => by
    unfold DataW.weightsAll
    rcases List.mem_cons.1 hd with rfl | h
    · exact List.mem_append.2 (.inl hx)
    · exact List.mem_append.2 (.inr (weights_all h hx))
theorem op_cells : Try.prog.cellsOf 31 = 3 := by kernel_rfl
theorem op_bytes : Try.prog.bytesOf 31 = 40 := by kernel_rfl
theorem byte_bytes : Try.prog.bytesOf 5 = 1 := by kernel_rfl

/-- a slice of bytes as one cell of something that came in -/
theorem bytes_open {W : World} {fuel : Nat} {a : Option Addr} {n c : Nat} {d : DataW H} {p : List MemPlace} (h : DataW.trod enc Try.prog W 0 (fun _ => true) true fuel 27 [.slice a n c] = some (d, p))
    (hw : ∀ x ∈ d.weights Try.prog 27, x ≤ 140737488351232) : ∃ l : List UInt8, Rd W W.heap.size a n l ∧ n ≤ c ∧ c ≤ 140737488351232 ∧ (a = none → c = 0) := by
  rcases open_ints Try.underlying27 Try.underlying5 (by kernel_rfl) h with ⟨hcs, _⟩ | ⟨x, l, c', zs, hcs, _, hl, hm, hz, hx, hcell, hwz⟩
  · simp at hcs
    obtain ⟨rfl, rfl, rfl⟩ := hcs
    exact ⟨[], Rd.nil, Nat.le_refl _, by omega, fun _ => rfl⟩
  · simp at hcs
    obtain ⟨rfl, rfl, rfl⟩ := hcs
    simp only [Prod.mk.injEq] at hx
    obtain ⟨rfl, _⟩ := hx
    simp only [if_true] at hz
    have hs := hw ((zs.length) * 1) (by
      unfold DataW.weights
      rw [Try.underlying27]
      simp only [lits, List.length_map, List.length_take, List.length_drop, byte_bytes]
      refine List.mem_cons.2 (.inl ?_)
      omega)
    obtain ⟨l, hr⟩ := rd_open hl hz hcell hwz
    exact ⟨l, hr, hl, by omega, fun e => by cases e⟩

theorem int_open {W : World} {fuel : Nat} {v : Value} {y : DataW H × List MemPlace} (h : DataW.trod enc Try.prog W 0 (fun _ => true) true fuel 3 [v] = some y) : ∃ z : Int, v = .int .i64 z ∧ -9223372036854775808 ≤ z ∧ z ≤ 9223372036854775807 := by
  obtain ⟨z, hv, _, hwf⟩ := DataW.trod_int Try.underlying3 h
  simp at hv
  exact ⟨z, hv, (bounds_i64 hwf).1, (bounds_i64 hwf).2⟩

theorem ops_open {W : World} {fuel : Nat} {a : Option Addr} {n c : Nat} {d : DataW H} {p : List MemPlace} (h : DataW.trod enc Try.prog W 0 (fun _ => true) true fuel 22 [.slice a n c] = some (d, p))
    (hw : ∀ x ∈ d.weights Try.prog 22, x ≤ 140737488351232) : ∃ (K N : Nat → Int) (S : Nat → List UInt8), OpsAt W a n K N S ∧ n ≤ 140737488351232 := by
  rcases open_slice Try.underlying22 h with ⟨hcs, _⟩ | ⟨x, l, c', m, f, D, Pl, hcs, _, hl, hm, hmm, hx, hi⟩
  · simp at hcs
    obtain ⟨rfl, rfl, rfl⟩ := hcs
    exact ⟨fun _ => 0, fun _ => 0, fun _ => [], fun h => absurd h (Nat.lt_irrefl 0), by omega⟩
  · simp at hcs
    obtain ⟨rfl, rfl, rfl⟩ := hcs
    simp only [Prod.mk.injEq] at hx
    obtain ⟨rfl, _⟩ := hx
    simp only [if_true] at hmm
    subst hmm
    rw [op_cells] at hi
    have hn : n ≤ 140737488351232 := by
      have hw2 := hw
      unfold DataW.weights at hw2
      rw [Try.underlying22] at hw2
      have hs := hw2 _ (List.mem_cons.2 (.inl rfl))
      simp only [List.length_map, List.length_range, op_bytes] at hs
      omega
    have each : ∀ i, i < n → ∃ q : Int × Int × List UInt8, W.cell? (x.add (i * 3)) = some (.int .i64 q.1) ∧ W.cell? ((x.add (i * 3)).add 1) = some (.int .i64 q.2.1) ∧ -9223372036854775808 ≤ q.2.1 ∧ q.2.1 ≤ 9223372036854775807 ∧
        ∃ D k c, W.cell? ((x.add (i * 3)).add 2) = some (.slice D k c) ∧ Rd W W.heap.size D k q.2.2 ∧ k ≤ c ∧ c ≤ 140737488351232 ∧ (D = none → c = 0) := by
      intro i hin
      obtain ⟨cs, hc, ht⟩ := hi i (by omega)
      obtain ⟨_, hlen, hat⟩ := World.cells?_some hc
      obtain ⟨ys, f', _, hy, _, hyl, hf⟩ := DataW.trod_struct Try.underlying31 ht
      match cs, hlen with
      | [v0, v1, v2], _ =>
        match ys, hyl with
        | [y0, y1, y2], _ =>
          have h0 : DataW.trod enc Try.prog W 0 (fun _ => true) true f' 3 [v0] = some y0 := hf 0 _ rfl
          have h1 : DataW.trod enc Try.prog W 0 (fun _ => true) true f' 3 [v1] = some y1 := hf 1 _ rfl
          have h2 : DataW.trod enc Try.prog W 0 (fun _ => true) true f' 27 [v2] = some y2 := hf 2 _ rfl
          obtain ⟨z0, rfl, _, _⟩ := int_open h0
          obtain ⟨z1, rfl, b1, b2⟩ := int_open h1
          have hD : D i = .agg [y0.1, y1.1, y2.1] := by
            simp only [Prod.mk.injEq] at hy
            exact hy.1
          have hwy : ∀ t ∈ y2.1.weights Try.prog 27, t ≤ 140737488351232 := by
            intro t ht
            refine hw t ?_
            unfold DataW.weights
            rw [Try.underlying22]
            refine List.mem_cons.2 (.inr (List.mem_append.2 (.inl (weights_all (d := D i) ?_ ?_))))
            · exact List.mem_map.2 ⟨i, List.mem_range.2 hin, rfl⟩
            · rw [hD]
              unfold DataW.weights
              rw [Try.underlying31]
              exact DataW.weights_mem_each (ts := [3, 3, 27]) (ds := [y0.1, y1.1, y2.1]) (j := 2) rfl rfl t ht
          have hs2 : ∃ a k c, v2 = .slice a k c := by
            rcases DataW.trod_slice Try.underlying27 h2 with ⟨e, _⟩ | ⟨a, k, c, _, _, _, _, e, _⟩
            · simp at e
              exact ⟨_, _, _, e⟩
            · simp at e
              exact ⟨_, _, _, e⟩
          obtain ⟨a', k', c', rfl⟩ := hs2
          obtain ⟨l, hr, hk, hc2, hnil⟩ := bytes_open (d := y2.1) (p := y2.2) h2 hwy
          exact ⟨(z0, z1, l), by simpa [Addr.add] using hat 0 (by omega), hat 1 (by omega), b1, b2, a', k', c', hat 2 (by omega), hr, hk, hc2, hnil⟩
    obtain ⟨Q, hQ⟩ := choose_lt each
    refine ⟨fun i => (Q i).1, fun i => (Q i).2.1, fun i => (Q i).2.2, fun h0 => ?_, hn⟩
    obtain ⟨b, off, spot⟩ := x
    have hq := (hQ 0 h0).1
    have hspot : spot = none := by simpa [Addr.add] using World.cell?_spot hq
    subst hspot
    have hb := World.block_lt_of_cell? _ _ hq
    have ea : ∀ o j : Nat, (⟨b, o, none⟩ : Addr).add j = ⟨b, o + j, none⟩ := by
      intro o j
      unfold Addr.add
      split
      · subst_vars
        rfl
      · rfl
    rw [ea] at hb
    refine ⟨b, off, rfl, hb, fun i hin => ?_⟩
    have := hQ i hin
    simp only [ea] at this
    exact this
end
end Go.Proofs.Ytdnheiefbecaeaa
