/-
  A configuration by value, as ccp reads it: what it asks of deflate and of bsd, how many Naks; opened; a configuration of zeros.
  ccp's Opts by value: opened.
-/
import Derived.Test.YtlpboleclehilaaDoorOpRow
import Derived.Test.YtlpboleclehilaaDoorCcRound
import Derived.ProofKit
import Derived.Test.YtlpboleclehilaaDoorOpen
import Derived.Test.YtlpboleclehilaaDoorOpPb
import Derived.Test.YtlpboleclehilaaDoorBase
import Derived.SizedLaws
import Derived.Lib.SmallJoins
namespace Go.Proofs.YtlpboleclehilaaDoor
open Go.ChangeShapes Go.WideShapes Go.ChangeAt Go.RowKit Go.Joins Go.Deep
set_option maxRecDepth 100000
set_option linter.unusedSimpArgs false
set_option linter.unusedVariables false

def confZ : Array Value := #[.string ⟨#[]⟩, .string ⟨#[]⟩, .int .i64 0, .slice none 0 0, .int .i64 0, .int .i64 0, .bool false, .bool false, .bool false, .int .i64 0, .int .i64 0, .int .i64 0, .int .i64 0, .bool false, .bool false, .int .u64 0, .int .i64 0, .int .i64 0, .int .i64 0, .int .i64 0, .int .i64 0, .int .i64 0, .int .i64 0, .int .i64 0, .int .i64 0, .int .i64 0, .int .i64 0, .int .i64 0, .bool false, .bool false, .int .i64 0, .string ⟨#[]⟩, .string ⟨#[]⟩]
theorem confc_open {H : Type} {enc : TypeId × Value → H} {W : World} {base : Nat} {v : Value} {d : DataW H} {p : List MemPlace} (hv : Value.okWide Tryd.prog W .any base 25 v)
    (h : DataW.Trod enc Tryd.prog W 0 (fun _ => true) true 25 v d p) (hw : ∀ x ∈ d.weights Tryd.prog 25, x ≤ 140737488351232) : ∃ cv D B mf, v = .agg cv ∧ ConfC cv D B mf := by
  obtain ⟨cs, rfl, hsz, hall⟩ := open_row Tryd.underlying25 (by kernel_rfl) hv h
  have hsz6 : cs.size = 33 := hsz.trans (by kernel_rfl)
  obtain ⟨c16, y16, n16, e16, t16, _⟩ := hall 16 _ rfl (by omega)
  obtain ⟨c17, y17, n17, e17, t17, _⟩ := hall 17 _ rfl (by omega)
  obtain ⟨c21, y21, n21, e21, t21, _⟩ := hall 21 _ rfl (by omega)
  obtain ⟨x16, q16, _, w16⟩ := DataW.trod_int Tryd.underlying3 t16
  obtain ⟨x17, q17, _, w17⟩ := DataW.trod_int Tryd.underlying3 t17
  obtain ⟨x21, q21, _, w21⟩ := DataW.trod_int Tryd.underlying3 t21
  simp at q16 q17 q21
  subst q16 q17 q21
  exact ⟨cs, x16, x17, x21, rfl, ⟨hsz6, e16, e17, e21⟩⟩
end Go.Proofs.YtlpboleclehilaaDoor
namespace Go.Proofs.YtlpboleclehilaaDoor
open Go.ChangeShapes Go.WideShapes Go.ChangeAt Go.RowKit Go.Joins
set_option maxRecDepth 100000
set_option linter.unusedSimpArgs false
set_option linter.unusedVariables false

theorem copts_open {H : Type} {enc : TypeId × Value → H} {W : World} {base : Nat} {v : Value} {d : DataW H} {p : List MemPlace} (hv : Value.okWide Tryd.prog W .any base 27 v)
    (h : DataW.Trod enc Tryd.prog W 0 (fun _ => true) true 27 v d p) (hw : ∀ x ∈ d.weights Tryd.prog 27, x ≤ 140737488351232) :
    ∃ (D B : Int), v = .agg #[.int .i64 D, .int .i64 B] := by
  obtain ⟨c0, c1, y0, y1, m, rfl, rfl, rfl, h0, h1⟩ := open_agg2 Tryd.underlying27 (by kernel_rfl) (by kernel_rfl) hv h
  obtain ⟨D, e0, rfl, _⟩ := DataW.trod_int Tryd.underlying3 h0
  obtain ⟨B, e1, rfl, _⟩ := DataW.trod_int Tryd.underlying3 h1
  simp at e0 e1
  subst e0 e1
  exact ⟨D, B, rfl⟩
end Go.Proofs.YtlpboleclehilaaDoor
