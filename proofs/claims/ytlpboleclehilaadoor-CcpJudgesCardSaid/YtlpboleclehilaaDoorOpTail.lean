/-
  A list of options without its head.
-/
import Derived.Test.YtlpboleclehilaaDoorOpWithout
import Derived.Deep.RegionLaw
import Derived.BigQuiet
namespace Go.Proofs.YtlpboleclehilaaDoor
open Go.RowKit
set_option maxRecDepth 100000
set_option maxHeartbeats 4000000
set_option linter.unusedSimpArgs false
set_option linter.unusedVariables false

theorem oslice_elem : Tryd.prog.elem 28 = 61 := by kernel_rfl
theorem option_sizeOf (w : World) : (Go.sizeOf 61).run Tryd.prog w = .ok 2 w := by kernel_rfl
theorem o_tail (b off n c : Nat) (h1 : 1 ≤ n) (h2 : n ≤ c) : ∃ o', (c - 1 = 0 ∧ o' = off ∨ o' = off + 2) ∧ ∀ W, (Instr.slice 28 (.slice (some ⟨b, off, none⟩) n c) (some (.int .i64 1)) none none).run Tryd.prog W = .ok (.slice (some ⟨b, o', none⟩) (n - 1) (c - 1)) W := by
  refine ⟨if c = 1 then off else off + 2, ?_, fun W => ?_⟩
  · split
    · left; omega
    · right; rfl
  · rw [run_slice_l W 28 _ _ _ (by rw [oslice_elem]; exact Tryd.underlying28) .i64 _ (by omega) (by omega), oslice_elem, option_sizeOf]
    simp only [Result.andThen_ok, sliced]
    congr 2
    split
    · rename_i h
      rw [if_pos (show c = 1 from h)]
    · rename_i h
      rw [if_neg (show ¬ c = 1 from h)]
      simp [Addr.add]
theorem OptRd.tail' {w : World} {B n b off o' c : Nat} {x : Opt} {s : List Opt} (h : OptRd w B (some ⟨b, off, none⟩) (n + 1) (x :: s)) (hc : n + 1 ≤ c) (ho : c - 1 = 0 ∧ o' = off ∨ o' = off + 2) : OptRd w B (some ⟨b, o', none⟩) n s := by
  rcases ho with ⟨h1, _⟩ | rfl
  · have hn : n = 0 := by omega
    subst hn
    have : s = [] := List.eq_nil_of_length_eq_zero (by simpa using h.1)
    subst this
    exact OptRd.nil
  · exact h.tail
theorem eat_take (s t : List Opt) (k : Nat) (h : k < t.length) : (t.take (k + 1)).foldl eat s = eat ((t.take k).foldl eat s) t[k] := by
  rw [List.take_succ_eq_append_getElem h, List.foldl_append]
  rfl
/-- where a subset stands: what is left of the first list -/
def SubJ (w wr : World) (v : Value) (s : List Opt) : Prop := ∃ A n c, v = .slice A n c ∧ OptRd wr w.heap.size A n s ∧ n ≤ c ∧ n ≤ 4398046511104 ∧ Below w.heap.size w wr
theorem below_undrew {w w' : World} (h : Below w.drew.heap.size w.drew w') : Below w.heap.size w w' := ⟨h.os, h.tape, h.output, h.size, fun i hi => h.block i hi⟩
theorem SubJ.drewN {w wr : World} {v : Value} {s : List Opt} (h : SubJ w wr v s) (k : Nat) : SubJ w (wr.drewN k) v s := by
  obtain ⟨A, n, c, h1, h2, h3, h4, h5⟩ := h
  exact ⟨A, n, c, h1, h2, h3, h4, below_drewN h5 k⟩
end Go.Proofs.YtlpboleclehilaaDoor
