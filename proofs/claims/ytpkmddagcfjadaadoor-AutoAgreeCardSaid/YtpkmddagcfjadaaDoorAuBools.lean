/-
  A slice of truth values that came in.
-/
import Derived.Test.YtpkmddagcfjadaaDoorAuWords
import Derived.Deep.Grids
import Derived.ProofKit
import Derived.SizedLaws
import Derived.OpenShut
namespace Go.Proofs.YtpkmddagcfjadaaDoor
open Go.RowKit
set_option maxRecDepth 100000

def RdQ (w : World) (B : Nat) (A : Option Addr) (n : Nat) (f : Nat → Bool) : Prop := 0 < n → ∃ b off, A = some ⟨b, off, none⟩ ∧ b < B ∧ ∀ j, j < n → w.cell? ⟨b, off + j, none⟩ = some (.bool (f j))
theorem RdQ.below {w w' : World} {B C n : Nat} {A : Option Addr} {f : Nat → Bool} (h : RdQ w B A n f) (hb : Below C w w') (hB : B ≤ C) : RdQ w' B A n f := fun h0 => by
  obtain ⟨b, off, e, hl, hc⟩ := h h0
  exact ⟨b, off, e, hl, fun j hj => (hb.cell (by show b < C; omega)).trans (hc j hj)⟩
open Go.ChangeShapes Go.WideShapes Go.Deep
section
variable {H : Type} {enc : TypeId × Value → H}
theorem bool_bytes : Tryd.prog.bytesOf 4 = 1 := by kernel_rfl
theorem bools_open {W : World} {fuel : Nat} {a : Option Addr} {n c : Nat} {d : DataW H} {p : List MemPlace} (h : DataW.trod enc Tryd.prog W 0 (fun _ => true) true fuel 57 [.slice a n c] = some (d, p))
    (hw : ∀ x ∈ d.weights Tryd.prog 57, x ≤ 140737488351232) : ∃ f : Nat → Bool, RdQ W W.heap.size a n f ∧ n ≤ 140737488351232 := by
  rcases open_slice Tryd.underlying57 h with ⟨hcs, _⟩ | ⟨x, l, c', m, f, D, Pl, hcs, _, hl, hm, hmm, hx, hi⟩
  · simp at hcs
    obtain ⟨rfl, rfl, rfl⟩ := hcs
    exact ⟨fun _ => false, fun h => absurd h (Nat.lt_irrefl 0), by omega⟩
  · simp at hcs
    obtain ⟨rfl, rfl, rfl⟩ := hcs
    simp only [Prod.mk.injEq] at hx
    obtain ⟨rfl, _⟩ := hx
    simp only [if_true] at hmm
    subst hmm
    rw [show Tryd.prog.cellsOf 4 = 1 by kernel_rfl] at hi
    have hn : n ≤ 140737488351232 := by
      have hw2 := hw
      unfold DataW.weights at hw2
      rw [Tryd.underlying57] at hw2
      have hs := hw2 _ (List.mem_cons.2 (.inl rfl))
      simp only [List.length_map, List.length_range, bool_bytes] at hs
      omega
    have each : ∀ i, i < n → ∃ q : Bool, W.cell? (x.add (i * 1)) = some (.bool q) := by
      intro i hin
      obtain ⟨cs, hc, ht⟩ := hi i (by omega)
      obtain ⟨_, hlen, hat⟩ := World.cells?_some hc
      obtain ⟨q, rfl, _⟩ := DataW.trod_bool Tryd.underlying4 ht
      exact ⟨q, by simpa [Addr.add] using hat 0 (by omega)⟩
    obtain ⟨Q, hQ⟩ := choose_lt each
    refine ⟨Q, fun h0 => ?_, hn⟩
    obtain ⟨b, off, spot⟩ := x
    have hq := hQ 0 h0
    have hspot : spot = none := by simpa [Addr.add] using World.cell?_spot hq
    subst hspot
    have hb := World.block_lt_of_cell? _ _ hq
    have ea : ∀ o j : Nat, (⟨b, o, none⟩ : Addr).add j = ⟨b, o + j, none⟩ := by
      intro o j
      unfold Addr.add
      split
      · subst_vars
        rfl
      · rfl
    rw [ea] at hb
    refine ⟨b, off, rfl, hb, fun i hin => ?_⟩
    have := hQ i hin
    simpa only [ea, Nat.mul_one] using this
end
end Go.Proofs.YtpkmddagcfjadaaDoor
