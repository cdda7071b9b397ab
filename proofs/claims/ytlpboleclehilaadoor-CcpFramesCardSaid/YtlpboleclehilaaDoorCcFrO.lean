/-
  A frame by value: its opening.
-/
import Derived.Test.YtlpboleclehilaaDoorOpen
import Derived.Test.YtlpboleclehilaaDoorOpPb
import Derived.Test.YtlpboleclehilaaDoorBase
import Derived.SizedLaws
import Derived.Lib.SmallJoins
namespace Go.Proofs.YtlpboleclehilaaDoor
open Go.ChangeShapes Go.WideShapes Go.ChangeAt Go.RowKit Go.Joins
set_option maxRecDepth 100000
set_option linter.unusedSimpArgs false
set_option linter.unusedVariables false

theorem frame_open {H : Type} {enc : TypeId × Value → H} {W : World} {base : Nat} {v : Value} {d : DataW H} {p : List MemPlace} (hv : Value.okWide Tryd.prog W .any base 53 v)
    (h : DataW.Trod enc Tryd.prog W 0 (fun _ => true) true 53 v d p) (hw : ∀ x ∈ d.weights Tryd.prog 53, x ≤ 140737488351232) :
    ∃ (P : Int) (a : Option Addr) (n c : Nat) (l : List UInt8), v = .agg #[.int .i64 P, .slice a n c] ∧ Rd W W.heap.size a n l ∧ (a = none → c = 0) ∧ n ≤ c ∧ c ≤ 140737488351232 := by
  obtain ⟨c0, c1, y0, y1, m, rfl, rfl, rfl, h0, h1⟩ := open_agg2 Tryd.underlying53 (by kernel_rfl) (by kernel_rfl) hv h
  obtain ⟨P, e0, rfl, _⟩ := DataW.trod_int Tryd.underlying3 h0
  obtain ⟨a, n, c, e1⟩ := slice_form Tryd.underlying51 h1
  simp at e0 e1
  subst e0 e1
  obtain ⟨l, hl⟩ := pkt_bytes h1 (fun x hx => hw x (by simp [DataW.weights, DataW.weightsEach, Tryd.underlying53, hx]))
  exact ⟨P, a, n, c, l, rfl, hl⟩
end Go.Proofs.YtlpboleclehilaaDoor
