/-
  A packet by value: its opening.
-/
import Derived.Test.YtjimoegegigoiaaDoorOpen
import Derived.Test.YtjimoegegigoiaaDoorOpPb
import Derived.Test.YtjimoegegigoiaaDoorBase
import Derived.SizedLaws
import Derived.Lib.SmallJoins
namespace Go.Proofs.YtjimoegegigoiaaDoor
open Go.ChangeShapes Go.WideShapes Go.ChangeAt Go.RowKit Go.Joins
set_option maxRecDepth 100000
set_option linter.unusedSimpArgs false
set_option linter.unusedVariables false

theorem pkt_open {H : Type} {enc : TypeId × Value → H} {W : World} {base : Nat} {v : Value} {d : DataW H} {p : List MemPlace} (hv : Value.okWide Tryd.prog W .any base 24 v)
    (h : DataW.Trod enc Tryd.prog W 0 (fun _ => true) true 24 v d p) (hw : ∀ x ∈ d.weights Tryd.prog 24, x ≤ 140737488351232) :
    ∃ (C I : Int) (a : Option Addr) (n c : Nat) (l : List UInt8), v = .agg #[.int .i64 C, .int .i64 I, .slice a n c] ∧ Rd W W.heap.size a n l ∧ (a = none → c = 0) ∧ n ≤ c ∧ c ≤ 140737488351232 := by
  obtain ⟨c0, c1, c2, y0, y1, y2, m, rfl, rfl, rfl, h0, h1, h2⟩ := open_agg3 Tryd.underlying24 (by kernel_rfl) (by kernel_rfl) hv h
  obtain ⟨C, e0, rfl, _⟩ := DataW.trod_int Tryd.underlying3 h0
  obtain ⟨I, e1, rfl, _⟩ := DataW.trod_int Tryd.underlying3 h1
  obtain ⟨a, n, c, e2⟩ := slice_form Tryd.underlying22 h2
  simp at e0 e1 e2
  subst e0 e1 e2
  obtain ⟨l, hl⟩ := pkt_bytes h2 (fun x hx => hw x (by simp [DataW.weights, DataW.weightsEach, Tryd.underlying24, hx]))
  exact ⟨C, I, a, n, c, l, rfl, hl⟩
end Go.Proofs.YtjimoegegigoiaaDoor
