/-
  A configuration by value, as policy reads it; opened.
-/
import Derived.Test.YtdjifjlkpimiaaaOneRow
import Derived.Test.YtdjifjlkpimiaaaPoMath
import Derived.ProofKit
namespace Go.Proofs.Ytdjifjlkpimiaaa
open Go.ChangeShapes Go.WideShapes Go.ChangeAt Go.RowKit Go.Joins Go.Deep
set_option maxRecDepth 100000
set_option linter.unusedSimpArgs false
set_option linter.unusedVariables false

def ConfP (cv : Array Value) (il se ho mf : Int) (pe dm : Bool) : Prop := cv.size = 33 ∧ cv[25]? = some (.int .i64 il) ∧ cv[26]? = some (.int .i64 se) ∧ cv[27]? = some (.int .i64 ho) ∧ cv[28]? = some (.bool pe) ∧ cv[29]? = some (.bool dm) ∧ cv[30]? = some (.int .i64 mf)
theorem confp_open {H : Type} {enc : TypeId × Value → H} {W : World} {base : Nat} {v : Value} {d : DataW H} {p : List MemPlace} (hv : Value.okWide Try.prog W .any base 25 v)
    (h : DataW.Trod enc Try.prog W 0 (fun _ => true) true 25 v d p) (hw : ∀ x ∈ d.weights Try.prog 25, x ≤ 140737488351232) : ∃ cv il se ho mf pe dm, v = .agg cv ∧ ConfP cv il se ho mf pe dm := by
  obtain ⟨cs, rfl, hsz, hall⟩ := open_row Try.underlying25 (by kernel_rfl) hv h
  have hsz6 : cs.size = 33 := hsz.trans (by kernel_rfl)
  obtain ⟨c25, y25, n25, e25, t25, _⟩ := hall 25 _ rfl (by omega)
  obtain ⟨c26, y26, n26, e26, t26, _⟩ := hall 26 _ rfl (by omega)
  obtain ⟨c27, y27, n27, e27, t27, _⟩ := hall 27 _ rfl (by omega)
  obtain ⟨c28, y28, n28, e28, t28, _⟩ := hall 28 _ rfl (by omega)
  obtain ⟨c29, y29, n29, e29, t29, _⟩ := hall 29 _ rfl (by omega)
  obtain ⟨c30, y30, n30, e30, t30, _⟩ := hall 30 _ rfl (by omega)
  obtain ⟨x25, q25, _, w25⟩ := DataW.trod_int Try.underlying2 t25
  obtain ⟨x26, q26, _, w26⟩ := DataW.trod_int Try.underlying2 t26
  obtain ⟨x27, q27, _, w27⟩ := DataW.trod_int Try.underlying2 t27
  obtain ⟨x28, q28, _⟩ := DataW.trod_bool Try.underlying4 t28
  obtain ⟨x29, q29, _⟩ := DataW.trod_bool Try.underlying4 t29
  obtain ⟨x30, q30, _, w30⟩ := DataW.trod_int Try.underlying3 t30
  simp at q25 q26 q27 q28 q29 q30
  subst q25 q26 q27 q28 q29 q30
  exact ⟨cs, x25, x26, x27, x30, x28, x29, rfl, hsz6, e25, e26, e27, e28, e29, e30⟩
end Go.Proofs.Ytdjifjlkpimiaaa
