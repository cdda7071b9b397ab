/-
  A struct of one-cell fields, however many, by value: opened.
-/
import Derived.Test.YtdjifjlkpimiaaaOpen
import Derived.SizedLaws
import Derived.Lib.SmallJoins
import Derived.Deep.Fields
import Derived.OpenShut
namespace Go.Proofs.Ytdjifjlkpimiaaa
open Go.ChangeShapes Go.WideShapes Go.ChangeAt Go.RowKit Go.Joins Go.Deep
set_option maxRecDepth 100000
set_option linter.unusedSimpArgs false
set_option linter.unusedVariables false

theorem open_row {H : Type} {enc : TypeId × Value → H} {P : Program} {w : World} {b b0 : Nat} {spare : Nat → Bool} {held : Bool} {r : Reach} {t : TypeId} {fs : Array Field} {v : Value} {d : DataW H} {p : List MemPlace}
    (hs : P.underlying t = some (.struct fs)) (hone : oneCellFields P fs = true) (hv : Value.okWide P w r b0 t v) (h : DataW.Trod enc P w b spare held t v d p) :
    ∃ cs : Array Value, v = .agg cs ∧ cs.size = P.cellsOf t ∧ ∀ (i : Nat) (f : Field), fs[i]? = some f → i < cs.size → ∃ c y n, cs[i]? = some c ∧ DataW.trod enc P w b spare held n f.type [c] = some y ∧ ∀ x ∈ y.1.weights P f.type, x ∈ d.weights P t := by
  obtain ⟨cs, rfl, hsz⟩ := okWide_struct hs hv
  obtain ⟨fuel, hf⟩ := h
  obtain ⟨xs, n, _, hx, hl, hlen, hi⟩ := DataW.trod_struct hs hf
  refine ⟨cs, rfl, hsz, fun i f hfi hic => ?_⟩
  have hlt : i < fs.size := (Array.getElem?_eq_some_iff.1 hfi).1
  obtain ⟨o, k⟩ := hone_of hone i f hfi
  have h1 := hi i f hfi
  have hxi : xs[i]? = some xs[i] := List.getElem?_eq_getElem (by omega)
  have hci : cs.toList[i]? = some cs[i] := by rw [List.getElem?_eq_getElem (by simpa using hic)]; simp
  have hd : ((Value.agg cs).cells.toList.drop f.offset).take (P.cellsOf f.type) = [cs[i]] := by
    rw [o, k]
    show (cs.toList.drop i).take 1 = _
    rw [List.drop_eq_getElem_cons (by simpa using hic)]
    simp
  rw [hd, hxi] at h1
  refine ⟨cs[i], xs[i], n, Array.getElem?_eq_getElem hic, h1, fun x hx' => ?_⟩
  simp only [Prod.mk.injEq] at hx
  rw [hx.1]
  simp only [DataW.weights, hs]
  exact DataW.weights_mem_each (j := i) (t := f.type) (d := xs[i].1) (by rw [List.getElem?_map, Array.getElem?_toList, hfi]; rfl) (by rw [List.getElem?_map, hxi]; rfl) x hx'
end Go.Proofs.Ytdjifjlkpimiaaa
