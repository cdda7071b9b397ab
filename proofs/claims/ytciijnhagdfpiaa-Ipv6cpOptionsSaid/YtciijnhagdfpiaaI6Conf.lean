/-
  A configuration by value, as ipv6cp reads it: the identifier and how many Naks; opened.
-/
import Derived.Test.YtciijnhagdfpiaaOpRow
import Derived.Test.YtciijnhagdfpiaaI6Giv
import Derived.ProofKit
namespace Go.Proofs.Ytciijnhagdfpiaa
open Go.ChangeShapes Go.WideShapes Go.ChangeAt Go.RowKit Go.Joins Go.Deep
set_option maxRecDepth 100000
set_option linter.unusedSimpArgs false
set_option linter.unusedVariables false

def ConfI (cv : Array Value) (id mf : Int) : Prop := cv.size = 33 ∧ cv[15]? = some (.int .u64 id) ∧ cv[21]? = some (.int .i64 mf)
theorem confi_open {H : Type} {enc : TypeId × Value → H} {W : World} {base : Nat} {v : Value} {d : DataW H} {p : List MemPlace} (hv : Value.okWide Try.prog W .any base 26 v)
    (h : DataW.Trod enc Try.prog W 0 (fun _ => true) true 26 v d p) (hw : ∀ x ∈ d.weights Try.prog 26, x ≤ 140737488351232) : ∃ cv id mf, v = .agg cv ∧ ConfI cv id mf ∧ In64 id ∧ (-9223372036854775808 ≤ mf ∧ mf ≤ 9223372036854775807) := by
  obtain ⟨cs, rfl, hsz, hall⟩ := open_row Try.underlying26 (by kernel_rfl) hv h
  have hsz6 : cs.size = 33 := hsz.trans (by kernel_rfl)
  obtain ⟨c15, y15, n15, e15, t15, _⟩ := hall 15 _ rfl (by omega)
  obtain ⟨c21, y21, n21, e21, t21, _⟩ := hall 21 _ rfl (by omega)
  obtain ⟨x15, q15, _, w15⟩ := DataW.trod_int Try.underlying22 t15
  obtain ⟨x21, q21, _, w21⟩ := DataW.trod_int Try.underlying3 t21
  simp at q15 q21
  subst q15 q21
  have b15 := bounds_u64 w15
  exact ⟨cs, x15, x21, rfl, ⟨hsz6, e15, e21⟩, ⟨b15.1, by omega⟩, bounds_i64 w21⟩
end Go.Proofs.Ytciijnhagdfpiaa
