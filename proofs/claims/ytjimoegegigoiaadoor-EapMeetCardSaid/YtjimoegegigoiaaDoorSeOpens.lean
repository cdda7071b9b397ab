/-
  A list of secrets that came in: each cell of it.
-/
import Derived.Test.YtjimoegegigoiaaDoorSeBase
import Derived.Test.YtjimoegegigoiaaDoorOpen
import Derived.Deep.Slices
import Derived.ProofKit
import Derived.OpenShut
import Derived.SizedLaws
import Derived.Lib.SmallJoins
namespace Go.Proofs.YtjimoegegigoiaaDoor
open Go.RowKit
set_option maxRecDepth 100000

open Go.ChangeShapes Go.WideShapes Go.Deep Go.Joins
section
variable {H : Type} {enc : TypeId × Value → H}
theorem weightsS_mem {P : Program} {e : TypeId} {x : DataW H} : ∀ {l : List (DataW H)}, x ∈ l → ∀ z ∈ x.weights P e, z ∈ DataW.weightsAll P e l
  | [], h => by simp at h
  | y :: r, h => fun z hz => by
    rw [DataW.weightsAll]
    rcases List.mem_cons.1 h with rfl | h
    · exact List.mem_append.2 (.inl hz)
    · exact List.mem_append.2 (.inr (weightsS_mem h z hz))
theorem sec_cells : Tryd.prog.cellsOf 50 = 4 := by kernel_rfl
theorem sec_bytes : Tryd.prog.bytesOf 50 = 72 := by kernel_rfl
theorem i64_bytes : Tryd.prog.bytesOf 2 = 8 := by kernel_rfl
theorem addOff (b o j : Nat) : (⟨b, o, none⟩ : Addr).add j = ⟨b, o + j, none⟩ := by
  unfold Addr.add
  split
  · subst_vars
    rfl
  · rfl
theorem addrs_open {W : World} {fuel : Nat} {a : Option Addr} {n c : Nat} {y : DataW H × List MemPlace} (h : DataW.trod enc Tryd.prog W 0 (fun _ => true) true fuel 48 [.slice a n c] = some y)
    (hw : ∀ x ∈ y.1.weights Tryd.prog 48, x ≤ 140737488351232) : ∃ l : List Int, AdRd W W.heap.size a n c l := by
  rcases open_ints Tryd.underlying48 Tryd.underlying2 (by kernel_rfl) h with ⟨hcs, _⟩ | ⟨x, l, c', zs, hcs, _, hl, hm, hz, hx, hcell, hwz⟩
  · simp at hcs
    obtain ⟨rfl, rfl, rfl⟩ := hcs
    exact ⟨[], rfl, Nat.le_refl _, fun _ => rfl, Nat.zero_le _, fun h => absurd h (Nat.lt_irrefl 0)⟩
  · simp at hcs
    obtain ⟨rfl, rfl, rfl⟩ := hcs
    subst hx
    simp only [if_true] at hz
    have hs := hw ((zs.length) * 8) (by
      unfold DataW.weights
      rw [Tryd.underlying48]
      simp only [lits, List.length_map, List.length_take, List.length_drop, i64_bytes]
      refine List.mem_cons.2 (.inl ?_)
      omega)
    refine ⟨zs.take n, by rw [List.length_take]; omega, hl, (fun e => by cases e), by omega, fun h0 => ?_⟩
    obtain ⟨b, off, spot⟩ := x
    have h1 := hcell 0 (by omega)
    have hspot : spot = none := by simpa [Addr.add] using World.cell?_spot h1
    subst hspot
    have hb := World.block_lt_of_cell? _ _ h1
    rw [addOff] at hb
    refine ⟨b, off, rfl, hb, fun j z hj => ?_⟩
    rw [List.getElem?_take] at hj
    split at hj
    · have h2 := hcell j (List.getElem?_eq_some_iff.1 hj).1
      rw [addOff] at h2
      rw [h2, List.getD_eq_getElem?_getD, hj]
      rfl
    · cases hj
theorem secs_open {W : World} {fuel : Nat} {a : Option Addr} {n c : Nat} {d : DataW H} {p : List MemPlace} (h : DataW.trod enc Tryd.prog W 0 (fun _ => true) true fuel 41 [.slice a n c] = some (d, p))
    (hw : ∀ x ∈ d.weights Tryd.prog 41, x ≤ 140737488351232) : ∃ ss, SecRd W W.heap.size a n ss ∧ n ≤ 1954687338211 := by
  rcases open_slice Tryd.underlying41 h with ⟨hcs, _⟩ | ⟨x, l, c', m, f, D, Pl, hcs, _, hl, hm, hmm, hx, hi⟩
  · simp at hcs
    obtain ⟨rfl, rfl, rfl⟩ := hcs
    exact ⟨[], ⟨rfl, Nat.zero_le _, fun h => absurd h (Nat.lt_irrefl 0)⟩, by omega⟩
  · simp at hcs
    obtain ⟨rfl, rfl, rfl⟩ := hcs
    simp only [Prod.mk.injEq] at hx
    obtain ⟨rfl, _⟩ := hx
    simp only [if_true] at hmm
    subst hmm
    rw [sec_cells] at hi
    have hw2 := hw
    unfold DataW.weights at hw2
    rw [Tryd.underlying41] at hw2
    have hn2 : n ≤ 1954687338211 := by
      have hs := hw2 _ (List.mem_cons.2 (.inl rfl))
      simp only [List.length_map, List.length_range, sec_bytes] at hs
      omega
    have hn : n ≤ 4398046510976 := by omega
    have each : ∀ i, i < n → ∃ x' : Sec, okS x' ∧ ∃ E m k, AdRd W W.heap.size E m k x'.ad ∧ ∀ j u, (secV x' E m k)[j]? = some u → W.cell? ((x.add (i * 4)).add j) = some u := by
      intro i hin
      obtain ⟨cs, hc, ht⟩ := hi i (by omega)
      obtain ⟨_, hlen, hat⟩ := World.cells?_some hc
      have hwi : ∀ z ∈ (D i).weights Tryd.prog 50, z ≤ 140737488351232 := by
        intro z hz
        exact hw2 z (List.mem_cons.2 (.inr (List.mem_append.2 (.inl (weightsS_mem (List.mem_map.2 ⟨i, List.mem_range.2 hin, rfl⟩) z hz)))))
      obtain ⟨ys, f', hd, hy, _, hyl, hf⟩ := DataW.trod_struct Tryd.underlying50 ht
      match cs, hlen with
      | [v0, v1, v2, v3], _ =>
        match ys, hyl with
        | [y0, y1, y2, y3], _ =>
          have h0 : DataW.trod enc Tryd.prog W 0 (fun _ => true) true f' 9 [v0] = some y0 := hf 0 _ rfl
          have h1 : DataW.trod enc Tryd.prog W 0 (fun _ => true) true f' 9 [v1] = some y1 := hf 1 _ rfl
          have h2 : DataW.trod enc Tryd.prog W 0 (fun _ => true) true f' 9 [v2] = some y2 := hf 2 _ rfl
          have h3 : DataW.trod enc Tryd.prog W 0 (fun _ => true) true f' 48 [v3] = some y3 := hf 3 _ rfl
          obtain ⟨s0, e0, _, z0⟩ := DataW.trod_string Tryd.underlying9 h0
          obtain ⟨s1, e1, _, z1⟩ := DataW.trod_string Tryd.underlying9 h1
          obtain ⟨s2, e2, _, z2⟩ := DataW.trod_string Tryd.underlying9 h2
          obtain ⟨a', n', c', e3⟩ := slice_form Tryd.underlying48 h3
          simp at e0 e1 e2 e3
          subst e0 e1 e2 e3
          have hD : D i = .agg [y0.1, y1.1, y2.1, y3.1] := congrArg Prod.fst hy
          obtain ⟨l, hA⟩ := addrs_open h3 (fun z hz => hwi z (by
            rw [hD]
            simp [DataW.weights, DataW.weightsEach, Tryd.underlying50, hz]))
          refine ⟨⟨s0, s1, s2, l⟩, ⟨z0, z1, z2⟩, a', n', c', hA, fun j u hu => ?_⟩
          have hj : j < 4 := (List.getElem?_eq_some_iff.1 hu).1
          have := hat j (by omega)
          rw [this]
          exact hu
    have : Nonempty Sec := ⟨⟨⟨#[]⟩, ⟨#[]⟩, ⟨#[]⟩, []⟩⟩
    obtain ⟨Q, hQ⟩ := Classical.axiomOfChoice (r := fun (i : Fin n) (x' : Sec) => okS x' ∧ ∃ E m k, AdRd W W.heap.size E m k x'.ad ∧ ∀ j u, (secV x' E m k)[j]? = some u → W.cell? ((x.add (i * 4)).add j) = some u) (fun i => each i i.2)
    refine ⟨List.ofFn Q, ⟨List.length_ofFn, hn, fun h0 => ?_⟩, hn2⟩
    obtain ⟨b, off, spot⟩ := x
    obtain ⟨_, E0, m0, k0, _, hq⟩ := hQ ⟨0, h0⟩
    have hq0 := hq 0 _ rfl
    have hspot : spot = none := by simpa [Addr.add] using World.cell?_spot hq0
    subst hspot
    have hb := World.block_lt_of_cell? _ _ hq0
    rw [addOff, addOff] at hb
    refine ⟨b, off, rfl, hb, fun i y hy => ?_⟩
    obtain ⟨hi2, e⟩ := List.getElem?_eq_some_iff.1 hy
    rw [List.length_ofFn] at hi2
    rw [List.getElem_ofFn] at e
    subst e
    obtain ⟨ho, E, m', k, hA, hc⟩ := hQ ⟨i, hi2⟩
    refine ⟨ho, E, m', k, hA, fun j u hu => ?_⟩
    have := hc j u hu
    rw [addOff, addOff] at this
    exact this
end
end Go.Proofs.YtjimoegegigoiaaDoor
