/-
  A way of sending by value: its opening.
-/
import Derived.Test.YtmdlpbgelgeiaaaDoorOpen
import Derived.Test.YtmdlpbgelgeiaaaDoorOpPb
import Derived.Test.YtmdlpbgelgeiaaaDoorBase
import Derived.SizedLaws
import Derived.Lib.SmallJoins
namespace Go.Proofs.YtmdlpbgelgeiaaaDoor
open Go.ChangeShapes Go.WideShapes Go.ChangeAt Go.RowKit Go.Joins
set_option maxRecDepth 100000
set_option linter.unusedSimpArgs false
set_option linter.unusedVariables false

theorem rsend_open {H : Type} {enc : TypeId × Value → H} {W : World} {base : Nat} {v : Value} {d : DataW H} {p : List MemPlace} (hv : Value.okWide Tryd.prog W .any base 26 v)
    (h : DataW.Trod enc Tryd.prog W 0 (fun _ => true) true 26 v d p) (hw : ∀ x ∈ d.weights Tryd.prog 26, x ≤ 140737488351232) :
    ∃ (a : Int) (p q : Bool), v = .agg #[.int .i64 a, .bool p, .bool q] := by
  obtain ⟨c0, c1, c2, y0, y1, y2, m, rfl, rfl, rfl, h0, h1, h2⟩ := open_agg3 Tryd.underlying26 (by kernel_rfl) (by kernel_rfl) hv h
  obtain ⟨P, e0, _, _⟩ := DataW.trod_int Tryd.underlying2 h0
  obtain ⟨a, e1, _⟩ := DataW.trod_bool Tryd.underlying4 h1
  obtain ⟨b, e2, _⟩ := DataW.trod_bool Tryd.underlying4 h2
  simp at e0 e1 e2
  subst e0 e1 e2
  exact ⟨P, a, b, rfl⟩
end Go.Proofs.YtmdlpbgelgeiaaaDoor
