/-
  What the listed variable of opt gives the walks.
-/
import Derived.Test.YtonbdcajepmgbaaDoorRows
import Derived.Test.YtonbdcajepmgbaaDoorOpKind
import Derived.Lib.LaidTab
import Derived.Stop.LaidErr
import Derived.MakeChecks
import Derived.LaidMore
namespace Go.Proofs.YtonbdcajepmgbaaDoor
open Go.RowKit
set_option maxRecDepth 100000

/-- an array of strings that reads as names holds them, cell for cell -/
theorem cells_of_names {H : Type} {enc : TypeId × Value → H} {P : Program} {w : World} {base : Nat} {sp : Nat → Bool} {held : Bool} {fuel : Nat} {t e : TypeId} {n : Nat} {cs : List Value} {ns : List (List UInt8)} {p : List MemPlace}
    (ht : P.underlying t = some (.array n e)) (he : P.underlying e = some .string) (hce : P.cellsOf e = 1)
    (h : DataW.trod enc P w base sp held fuel t cs = some (.agg (ns.map fun s => .lit (.string s)), p)) (i : Nat) (hi : i < n) : cs[i]? = some (.string ⟨(ns.getD i []).toArray⟩) := by
  cases fuel with
  | zero => simp [DataW.trod] at h
  | succ fuel =>
    simp only [DataW.trod, ht, hce, Nat.mul_one] at h
    split at h
    · obtain ⟨xs, hm, hx⟩ := Option.map_eq_some_iff.1 h
      have hxs : xs.map (·.1) = ns.map fun s => (DataW.lit (.string s) : DataW H) := by
        have := congrArg Prod.fst hx
        simpa using this
      obtain ⟨b, hb, hf⟩ := Lib.mapM_at hm i i (by simp [hi])
      obtain ⟨s, hc, rfl, _⟩ := DataW.trod_string he hf
      have h1 : cs[i]? = some (.string s) := by
        have := congrArg (·[0]?) hc
        simpa [List.getElem?_take, List.getElem?_drop] using this
      have h2 : (xs.map (·.1))[i]? = some (DataW.lit (.string s.data.toList) : DataW H) := by simp [hb]
      rw [hxs] at h2
      simp only [List.getElem?_map, Option.map_eq_some_iff, DataW.lit.injEq, Lit.string.injEq] at h2
      obtain ⟨z, hz, hzs⟩ := h2
      rw [h1, List.getD_eq_getElem?_getD, hz]
      subst hzs
      simp
    · cases h
theorem names_of {W : World} {rest : List (String × DataW Unit)} (h : laidMet Tryd.prog (("tether/opt.names", Rows.laid_tether_opt_names) :: rest) W) : TabK W := by
  have g1 : Tryd.prog.globalNamed "tether/opt.names" = some 0 := by kernel_rfl
  obtain ⟨ps, ⟨g', t', cs, fuel, p, q, hg', ht', hvar, hd, _, _⟩, _⟩ := h
  obtain rfl := Option.some.inj (g1.symm.trans hg')
  obtain rfl := Option.some.inj ((show (Tryd.prog.globals[0]?).map (·.type) = some 53 by kernel_rfl).symm.trans ht')
  rw [show (Rows.laid_tether_opt_names : DataW Unit) = .agg (opNames.map fun s => .lit (.string s)) by kernel_rfl] at hd
  intro i hi
  have hcell := World.var?_cell g1 hvar i
  rw [hcell, show cs[i]? = cs.toList[i]? by simp]
  exact cells_of_names Tryd.underlying53 Tryd.underlying9 (by kernel_rfl) hd i hi
theorem of_laidK {W : World} (h : laidMetH Tryd.prog [("tether/opt.names", Rows.laid_tether_opt_names)] W) : TabK W := by
  rw [MakeChecks.laidMetH_plain _ _ _ (by kernel_rfl)] at h
  exact names_of h
end Go.Proofs.YtonbdcajepmgbaaDoor
