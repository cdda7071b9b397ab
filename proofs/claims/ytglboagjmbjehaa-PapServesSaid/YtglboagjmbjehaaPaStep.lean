/-
  pap: what a block is behind a call that makes memory.
-/
import Derived.Test.YtglboagjmbjehaaPaSrv
namespace Go.Proofs.Ytglboagjmbjehaa
open Go.RowKit Go.Shelf
set_option maxRecDepth 100000
set_option linter.unusedSimpArgs false
set_option linter.unusedVariables false

theorem past {W W' : World} {o : Obj} {g t : Nat} {cs : List Value} (h : Blk W g t cs) (hb : Below (W.alloc o).heap.size (W.alloc o) W') : Blk W' g t cs :=
  (hb.block _ (by have := Blk.lt h; rw [World.size_alloc]; omega)).trans ((Below.heap_alloc _ _ _ (Blk.lt h)).trans h)
theorem past_new {W W' : World} {t : Nat} {cs : List Value} (hb : Below (W.alloc (.cells cs.toArray t)).heap.size (W.alloc (.cells cs.toArray t)) W') : Blk W' W.heap.size t cs :=
  (hb.block _ (by rw [World.size_alloc]; omega)).trans (heap_alloc_new W _)
theorem at_alloc {W : World} {g t : Nat} {cs : List Value} (h : Blk W g t cs) (o : Obj) : Blk (W.alloc o) g t cs := (Below.heap_alloc _ _ _ (Blk.lt h)).trans h
theorem past_same {W W' : World} {g t : Nat} {cs : List Value} (h : Blk W g t cs) (hb : Below W.heap.size W W') : Blk W' g t cs := (hb.block _ (Blk.lt h)).trans h
theorem step_al {w0 W W' : World} {o : Obj} (h : Below w0.heap.size w0 W) (b : Below (W.alloc o).heap.size (W.alloc o) W') : Below w0.heap.size w0 W' := (h.alloc h.size o).trans (b.mono (by have := h.size; rw [World.size_alloc]; omega))
theorem step_to {w0 W W' : World} (h : Below w0.heap.size w0 W) (b : Below W.heap.size W W') : Below w0.heap.size w0 W' := h.trans (b.mono h.size)
end Go.Proofs.Ytglboagjmbjehaa
