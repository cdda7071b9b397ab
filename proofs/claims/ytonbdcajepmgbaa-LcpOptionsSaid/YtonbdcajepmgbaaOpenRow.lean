/-
  A struct of one-cell fields, however many, by value: opened; what a direction has; a configuration.
-/
import Derived.Test.YtonbdcajepmgbaaOpen
import Derived.Test.YtonbdcajepmgbaaLcBearing
import Derived.Test.YtonbdcajepmgbaaOpOpens
import Derived.SizedLaws
import Derived.Lib.SmallJoins
import Derived.Deep.Fields
import Derived.OpenShut
namespace Go.Proofs.Ytonbdcajepmgbaa
open Go.ChangeShapes Go.WideShapes Go.ChangeAt Go.RowKit Go.Joins Go.Deep
set_option maxRecDepth 100000
set_option linter.unusedSimpArgs false
set_option linter.unusedVariables false

theorem open_row {H : Type} {enc : TypeId × Value → H} {P : Program} {w : World} {b b0 : Nat} {spare : Nat → Bool} {held : Bool} {r : Reach} {t : TypeId} {fs : Array Field} {v : Value} {d : DataW H} {p : List MemPlace}
    (hs : P.underlying t = some (.struct fs)) (hone : oneCellFields P fs = true) (hv : Value.okWide P w r b0 t v) (h : DataW.Trod enc P w b spare held t v d p) :
    ∃ cs : Array Value, v = .agg cs ∧ cs.size = P.cellsOf t ∧ ∀ (i : Nat) (f : Field), fs[i]? = some f → i < cs.size → ∃ c y n, cs[i]? = some c ∧ DataW.trod enc P w b spare held n f.type [c] = some y ∧ ∀ x ∈ y.1.weights P f.type, x ∈ d.weights P t := by
  obtain ⟨cs, rfl, hsz⟩ := okWide_struct hs hv
  obtain ⟨fuel, hf⟩ := h
  obtain ⟨xs, n, _, hx, hl, hlen, hi⟩ := DataW.trod_struct hs hf
  refine ⟨cs, rfl, hsz, fun i f hfi hic => ?_⟩
  have hlt : i < fs.size := (Array.getElem?_eq_some_iff.1 hfi).1
  obtain ⟨o, k⟩ := hone_of hone i f hfi
  have h1 := hi i f hfi
  have hxi : xs[i]? = some xs[i] := List.getElem?_eq_getElem (by omega)
  have hci : cs.toList[i]? = some cs[i] := by rw [List.getElem?_eq_getElem (by simpa using hic)]; simp
  have hd : ((Value.agg cs).cells.toList.drop f.offset).take (P.cellsOf f.type) = [cs[i]] := by
    rw [o, k]
    show (cs.toList.drop i).take 1 = _
    rw [List.drop_eq_getElem_cons (by simpa using hic)]
    simp
  rw [hd, hxi] at h1
  refine ⟨cs[i], xs[i], n, Array.getElem?_eq_getElem hic, h1, fun x hx' => ?_⟩
  simp only [Prod.mk.injEq] at hx
  rw [hx.1]
  simp only [DataW.weights, hs]
  exact DataW.weights_mem_each (j := i) (t := f.type) (d := xs[i].1) (by rw [List.getElem?_map, Array.getElem?_toList, hfi]; rfl) (by rw [List.getElem?_map, hxi]; rfl) x hx'
theorem lopts_open {H : Type} {enc : TypeId × Value → H} {W : World} {base : Nat} {v : Value} {d : DataW H} {p : List MemPlace} (hv : Value.okWide Try.prog W .any base 74 v)
    (h : DataW.Trod enc Try.prog W 0 (fun _ => true) true 74 v d p) (hw : ∀ x ∈ d.weights Try.prog 74, x ≤ 140737488351232) : ∃ o : LOpts, v = o.val ∧ o.wf := by
  obtain ⟨cs, rfl, hsz, hall⟩ := open_row Try.underlying74 (by kernel_rfl) hv h
  have hsz6 : cs.size = 6 := hsz.trans (by kernel_rfl)
  obtain ⟨c0, y0, n0, e0, t0, _⟩ := hall 0 _ rfl (by omega)
  obtain ⟨c1, y1, n1, e1, t1, _⟩ := hall 1 _ rfl (by omega)
  obtain ⟨c2, y2, n2, e2, t2, _⟩ := hall 2 _ rfl (by omega)
  obtain ⟨c3, y3, n3, e3, t3, _⟩ := hall 3 _ rfl (by omega)
  obtain ⟨c4, y4, n4, e4, t4, _⟩ := hall 4 _ rfl (by omega)
  obtain ⟨c5, y5, n5, e5, t5, _⟩ := hall 5 _ rfl (by omega)
  obtain ⟨x0, q0, _, w0⟩ := DataW.trod_int Try.underlying3 t0
  obtain ⟨x1, q1, _, w1⟩ := DataW.trod_int Try.underlying2 t1
  obtain ⟨x2, q2, _, w2⟩ := DataW.trod_int Try.underlying3 t2
  obtain ⟨x3, q3, _, w3⟩ := DataW.trod_int Try.underlying72 t3
  obtain ⟨x4, q4, _⟩ := DataW.trod_bool Try.underlying4 t4
  obtain ⟨x5, q5, _⟩ := DataW.trod_bool Try.underlying4 t5
  simp only [List.cons.injEq, and_true] at q0 q1 q2 q3 q4 q5
  subst q0 q1 q2 q3 q4 q5
  refine ⟨⟨x0, x1, x2, x3, x4, x5⟩, ?_, bounds_i64 w0, bounds_i64 w1, bounds_i64 w2, (bounds_u32 w3).1, Int.lt_add_one_of_le (bounds_u32 w3).2⟩
  obtain ⟨l⟩ := cs
  match l, hsz6 with
  | [a0, a1, a2, a3, a4, a5], _ =>
    simp at e0 e1 e2 e3 e4 e5
    subst e0 e1 e2 e3 e4 e5
    rfl
theorem ints_rd {H : Type} {enc : TypeId × Value → H} {W : World} {fuel : Nat} {a : Option Addr} {n c : Nat} {y : DataW H × List MemPlace} (h : DataW.trod enc Try.prog W 0 (fun _ => true) true fuel 41 [.slice a n c] = some y)
    (hw : ∀ x ∈ y.1.weights Try.prog 41, x ≤ 140737488351232) : ∃ l : List Int, RdI W W.heap.size a n l ∧ n ≤ 17592186043904 := by
  obtain ⟨l, h1, _, h2, h3⟩ := ints_open (d := y.1) (p := y.2) h hw
  exact ⟨l, h1, by omega⟩
/-- a configuration that came in -/
def ConfIn (W : World) (cv : Array Value) (cc : CV) (req mru acm : Int) : Prop := ConfAt W W.heap.size cv cc ∧ cv[2]? = some (.int .i64 req) ∧ cv[4]? = some (.int .i64 mru) ∧ cv[5]? = some (.int .i64 acm) ∧
  (-9223372036854775808 ≤ req ∧ req ≤ 9223372036854775807) ∧ (-9223372036854775808 ≤ mru ∧ mru ≤ 9223372036854775807) ∧ (-9223372036854775808 ≤ acm ∧ acm ≤ 9223372036854775807)
theorem conf_open {H : Type} {enc : TypeId × Value → H} {W : World} {base : Nat} {v : Value} {d : DataW H} {p : List MemPlace} (hv : Value.okWide Try.prog W .any base 102 v)
    (h : DataW.Trod enc Try.prog W 0 (fun _ => true) true 102 v d p) (hw : ∀ x ∈ d.weights Try.prog 102, x ≤ 140737488351232) : ∃ cv cc req mru acm, v = .agg cv ∧ ConfIn W cv cc req mru acm := by
  obtain ⟨cs, rfl, hsz, hall⟩ := open_row Try.underlying102 (by kernel_rfl) hv h
  have hsz6 : cs.size = 33 := hsz.trans (by kernel_rfl)
  obtain ⟨c2, y2, n2, e2, t2, _⟩ := hall 2 _ rfl (by omega)
  obtain ⟨c3, y3, n3, e3, t3, g3⟩ := hall 3 _ rfl (by omega)
  obtain ⟨c4, y4, n4, e4, t4, _⟩ := hall 4 _ rfl (by omega)
  obtain ⟨c5, y5, n5, e5, t5, _⟩ := hall 5 _ rfl (by omega)
  obtain ⟨c6, y6, n6, e6, t6, _⟩ := hall 6 _ rfl (by omega)
  obtain ⟨c7, y7, n7, e7, t7, _⟩ := hall 7 _ rfl (by omega)
  obtain ⟨c8, y8, n8, e8, t8, _⟩ := hall 8 _ rfl (by omega)
  obtain ⟨c21, y21, n21, e21, t21, _⟩ := hall 21 _ rfl (by omega)
  obtain ⟨x2, q2, _, w2⟩ := DataW.trod_int Try.underlying3 t2
  obtain ⟨x4, q4, _, w4⟩ := DataW.trod_int Try.underlying3 t4
  obtain ⟨x5, q5, _, w5⟩ := DataW.trod_int Try.underlying2 t5
  obtain ⟨x6, q6, _⟩ := DataW.trod_bool Try.underlying4 t6
  obtain ⟨x7, q7, _⟩ := DataW.trod_bool Try.underlying4 t7
  obtain ⟨x8, q8, _⟩ := DataW.trod_bool Try.underlying4 t8
  obtain ⟨x21, q21, _, w21⟩ := DataW.trod_int Try.underlying3 t21
  obtain ⟨a, n, c, q3⟩ := slice_form Try.underlying41 t3
  simp only [List.cons.injEq, and_true] at q2 q3 q4 q5 q6 q7 q8 q21
  subst q2 q3 q4 q5 q6 q7 q8 q21
  obtain ⟨l, hl, hn⟩ := ints_rd t3 fun x hx => hw x (g3 x hx)
  exact ⟨cs, ⟨l, x6, x7, x8, x21⟩, x2, x4, x5, rfl, ⟨hsz6, ⟨a, n, c, e3, hl, by omega⟩, e6, e7, e8, e21⟩, e2, e4, e5, bounds_i64 w2, bounds_i64 w4, bounds_i64 w5⟩
end Go.Proofs.Ytonbdcajepmgbaa
