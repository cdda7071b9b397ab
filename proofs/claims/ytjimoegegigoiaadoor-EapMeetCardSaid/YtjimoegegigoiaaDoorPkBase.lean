/-
  Packets: identifiers, a packet of the call's own (for eap; the same names stand in XChRRead and XPaReq: never two of them).
-/
import Derived.Test.YtjimoegegigoiaaDoorMdAppStr
import Derived.Test.YtjimoegegigoiaaDoorMdConv
import Derived.Test.YtjimoegegigoiaaDoorSeBase
import Derived.Test.YtjimoegegigoiaaDoorRest
import Derived.Test.YtjimoegegigoiaaDoorNewReader
import Derived.Outline
import Derived.Test.YtjimoegegigoiaaDoorSliceFrom
import Derived.BigQuiet
namespace Go.Proofs.YtjimoegegigoiaaDoor
open Go.RowKit Go.Shelf
set_option maxRecDepth 100000
set_option maxHeartbeats 800000
set_option linter.unusedSimpArgs false
set_option linter.unusedVariables false

def idB (id : Int) : Bool := decide (0 ≤ id) && decide (id ≤ 255)
theorem gset' (w : World) (g i : Nat) (u : Value) : w.grownBy (w.setCell ⟨g, i, none⟩ u) (some g) :=
  ⟨rfl, rfl, rfl, by simp [World.setCell], fun k _ hne => Below.heap_setCell w ⟨g, i, none⟩ u k (fun e => hne (by rw [e]))⟩
theorem gtrans' {a b c : World} {g : Nat} (h : a.grownBy b (some g)) (k : b.grownBy c (some g)) : a.grownBy c (some g) :=
  ⟨k.os.trans h.os, k.tape.trans h.tape, k.output.trans h.output, Nat.le_trans h.size k.size, fun i hi hne => (k.block i (Nat.lt_of_lt_of_le hi h.size) hne).trans (h.block i hi hne)⟩
theorem gset3 (w : World) (g : Nat) (a b c : Value) : w.grownBy (((w.setCell ⟨g, 0, none⟩ a).setCell ⟨g, 1, none⟩ b).setCell ⟨g, 2, none⟩ c) (some g) :=
  gtrans' (gtrans' (gset' _ _ _ _) (gset' _ _ _ _)) (gset' _ _ _ _)
theorem blk3 {W : World} {g t : Nat} {a b c x y z : Value} (h : Blk W g t [a, b, c]) : Blk (((W.setCell ⟨g, 0, none⟩ x).setCell ⟨g, 1, none⟩ y).setCell ⟨g, 2, none⟩ z) g t [x, y, z] := ((h.set_ 0 x).set_ 1 y).set_ 2 z
theorem below_only {W W' : World} {g : Nat} (h : Below W.heap.size W W') : W.grownBy W' (some g) := ⟨h.os, h.tape, h.output, h.size, fun i hi _ => h.block i hi⟩
theorem below_row {w W W' : World} {g : Nat} (h : Below w.heap.size w W) (k : W.grownBy W' (some g)) (hg : w.heap.size ≤ g) : Below w.heap.size w W' :=
  ⟨k.os.trans h.os, k.tape.trans h.tape, k.output.trans h.output, Nat.le_trans h.size k.size, fun i hi => (k.block i (Nat.lt_of_lt_of_le hi h.size) (by intro e; injection e with e; omega)).trans (h.block i hi)⟩
theorem blk_off {W W' : World} {g i t : Nat} {cs : List Value} (h : Blk W i t cs) (k : W.grownBy W' (some g)) (hne : i ≠ g) : Blk W' i t cs :=
  (k.block i (Blk.lt h) (by intro e; injection e with e; omega)).trans h
theorem past_same {W W' : World} {g t : Nat} {cs : List Value} (h : Blk W g t cs) (hb : Below W.heap.size W W') : Blk W' g t cs := (hb.block _ (Blk.lt h)).trans h
theorem step_to {w0 W W' : World} (h : Below w0.heap.size w0 W) (b : Below W.heap.size W W') : Below w0.heap.size w0 W' := h.trans (b.mono h.size)
/-- a packet, and what went wrong -/
def PktR (w : World) (code id : Int) (l : List UInt8) (err : Int) (e : Ending) (w' : World) : Prop :=
  Below w.heap.size w w' ∧ ∃ D k d, e = .returned (.tuple #[.agg #[.int .i64 code, .int .i64 id, .slice D k d], .int .i64 err]) ∧ Own w' w.heap.size (.slice D k d) l
def PktZ (w : World) (code id : Int) (l : List UInt8) (err : Int) (e : Ending) (w' : World) : Prop :=
  PktR w (if err = 0 then code else 0) (if err = 0 then id else 0) (if err = 0 then l else []) err e w'
theorem pktZ_no {w w' : World} {code id err : Int} {l : List UInt8} (he : err ≠ 0) (hB : Below w.heap.size w w') : PktZ w code id l err (.returned (.tuple #[.agg #[.int .i64 0, .int .i64 0, .slice none 0 0], .int .i64 err])) w' := by
  unfold PktZ
  rw [if_neg he, if_neg he, if_neg he]
  exact ⟨hB, none, 0, 0, rfl, Own.nil _ _⟩
end Go.Proofs.YtjimoegegigoiaaDoor
