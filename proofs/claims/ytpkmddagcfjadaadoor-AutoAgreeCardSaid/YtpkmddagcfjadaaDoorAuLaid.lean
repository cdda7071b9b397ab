/-
  What the listed variables of auto give the walks.
-/
import Derived.Test.YtpkmddagcfjadaaDoorRows
import Derived.Test.YtpkmddagcfjadaaDoorAuAwake
import Derived.Lib.LaidTab
import Derived.Stop.LaidErr
import Derived.MakeChecks
import Derived.LaidMore
namespace Go.Proofs.YtpkmddagcfjadaaDoor
open Go.RowKit
set_option maxRecDepth 100000

/-- an array of arrays of integers that reads as rows holds them, cell for cell -/
theorem cells_of_rows {H : Type} {enc : TypeId × Value → H} {P : Program} {w : World} {base : Nat} {sp : Nat → Bool} {held : Bool} {fuel : Nat} {t r e : TypeId} {m n : Nat} {k : IntKind} {cs : List Value} {zss : List (List Int)} {p : List MemPlace}
    (ht : P.underlying t = some (.array m r)) (hr : P.underlying r = some (.array n e)) (he : P.underlying e = some (.int k)) (hce : P.cellsOf e = 1) (hcr : P.cellsOf r = n)
    (h : DataW.trod enc P w base sp held fuel t cs = some (.agg (zss.map (Lib.tabData k)), p)) (i : Nat) (hi : i < m) : (cs.drop (i * n)).take n = (zss.getD i []).map fun z => Value.int k z := by
  cases fuel with
  | zero => simp [DataW.trod] at h
  | succ fuel =>
    simp only [DataW.trod, ht, hcr] at h
    split at h
    · obtain ⟨xs, hm, hx⟩ := Option.map_eq_some_iff.1 h
      have hxs : xs.map (·.1) = zss.map (Lib.tabData (H := H) k) := by
        have := congrArg Prod.fst hx
        simpa using this
      obtain ⟨b, hb, hf⟩ := Lib.mapM_at hm i i (by simp [hi])
      have h2 : (xs.map (·.1))[i]? = some b.1 := by simp [hb]
      rw [hxs] at h2
      simp only [List.getElem?_map, Option.map_eq_some_iff] at h2
      obtain ⟨zs, hz, hzb⟩ := h2
      rw [List.getD_eq_getElem?_getD, hz]
      obtain ⟨b1, b2⟩ := b
      simp only at hzb
      subst hzb
      exact Lib.cells_of_tab hr he hce hcr hf
    · cases h
/-- an array of strings that reads as names holds them, cell for cell -/
theorem cells_of_names {H : Type} {enc : TypeId × Value → H} {P : Program} {w : World} {base : Nat} {sp : Nat → Bool} {held : Bool} {fuel : Nat} {t e : TypeId} {n : Nat} {cs : List Value} {ns : List (List UInt8)} {p : List MemPlace}
    (ht : P.underlying t = some (.array n e)) (he : P.underlying e = some .string) (hce : P.cellsOf e = 1)
    (h : DataW.trod enc P w base sp held fuel t cs = some (.agg (ns.map fun s => .lit (.string s)), p)) (i : Nat) (hi : i < n) : cs[i]? = some (.string ⟨(ns.getD i []).toArray⟩) := by
  cases fuel with
  | zero => simp [DataW.trod] at h
  | succ fuel =>
    simp only [DataW.trod, ht, hce, Nat.mul_one] at h
    split at h
    · obtain ⟨xs, hm, hx⟩ := Option.map_eq_some_iff.1 h
      have hxs : xs.map (·.1) = ns.map fun s => (DataW.lit (.string s) : DataW H) := by
        have := congrArg Prod.fst hx
        simpa using this
      obtain ⟨b, hb, hf⟩ := Lib.mapM_at hm i i (by simp [hi])
      obtain ⟨s, hc, rfl, _⟩ := DataW.trod_string he hf
      have h1 : cs[i]? = some (.string s) := by
        have := congrArg (·[0]?) hc
        simpa [List.getElem?_take, List.getElem?_drop] using this
      have h2 : (xs.map (·.1))[i]? = some (DataW.lit (.string s.data.toList) : DataW H) := by simp [hb]
      rw [hxs] at h2
      simp only [List.getElem?_map, Option.map_eq_some_iff, DataW.lit.injEq, Lit.string.injEq] at h2
      obtain ⟨z, hz, hzs⟩ := h2
      rw [h1, List.getD_eq_getElem?_getD, hz]
      subst hzs
      simp
    · cases h
def auTT : List (List Int) := (List.range 16).map fun e => (List.range 10).map fun s => ((auT.getD (e * 10 + s) 0 : Nat) : Int)
theorem tab_of {W : World} {rest : List (String × DataW Unit)} (h : laidMet Tryd.prog (("tether/auto.table", Rows.laid_tether_auto_table) :: rest) W) : TabA W := by
  have g1 : Tryd.prog.globalNamed "tether/auto.table" = some 0 := by kernel_rfl
  obtain ⟨ps, ⟨g', t', cs, fuel, p, q, hg', ht', hvar, hd, _, _⟩, _⟩ := h
  obtain rfl := Option.some.inj (g1.symm.trans hg')
  obtain rfl := Option.some.inj ((show (Tryd.prog.globals[0]?).map (·.type) = some 63 by kernel_rfl).symm.trans ht')
  rw [show (Rows.laid_tether_auto_table : DataW Unit) = .agg (auTT.map (Lib.tabData .u16)) by kernel_rfl] at hd
  intro i hi
  have hcell := World.var?_cell g1 hvar i
  rw [hcell]
  have h4 := cells_of_rows (k := .u16) (zss := auTT) Tryd.underlying63 Tryd.underlying62 Tryd.underlying61 (by kernel_rfl) (by kernel_rfl) hd (i / 10) (by omega)
  have h5 := congrArg (·[i % 10]?) h4
  simp only [List.getElem?_take_of_lt (Nat.mod_lt i (show 0 < 10 by omega)), List.getElem?_drop] at h5
  rw [show i / 10 * 10 + i % 10 = i by omega] at h5
  rw [show cs[i]? = cs.toList[i]? by simp, h5]
  have h6 : auTT.getD (i / 10) [] = (List.range 10).map fun s => ((auT.getD (i / 10 * 10 + s) 0 : Nat) : Int) := by
    unfold auTT
    simp [List.getD_eq_getElem?_getD, show i / 10 < 16 by omega]
  rw [h6]
  simp [show i % 10 < 10 by omega, show i / 10 * 10 + i % 10 = i by omega]
theorem states_of {W : World} {rest : List (String × DataW Unit)} (h : laidMet Tryd.prog (("tether/auto.stateNames", Rows.laid_tether_auto_stateNames) :: rest) W) : TabN W := by
  have g1 : Tryd.prog.globalNamed "tether/auto.stateNames" = some 1 := by kernel_rfl
  obtain ⟨ps, ⟨g', t', cs, fuel, p, q, hg', ht', hvar, hd, _, _⟩, _⟩ := h
  obtain rfl := Option.some.inj (g1.symm.trans hg')
  obtain rfl := Option.some.inj ((show (Tryd.prog.globals[1]?).map (·.type) = some 68 by kernel_rfl).symm.trans ht')
  rw [show (Rows.laid_tether_auto_stateNames : DataW Unit) = .agg (auStates.map fun s => .lit (.string s)) by kernel_rfl] at hd
  intro i hi
  have hcell := World.var?_cell g1 hvar i
  rw [hcell, show cs[i]? = cs.toList[i]? by simp]
  exact cells_of_names Tryd.underlying68 Tryd.underlying9 (by kernel_rfl) hd i hi
theorem of_laidA {W : World} (h : laidMetH Tryd.prog [("tether/auto.stateNames", Rows.laid_tether_auto_stateNames), ("tether/auto.table", Rows.laid_tether_auto_table)] W) : TabA W ∧ TabN W := by
  rw [MakeChecks.laidMetH_plain _ _ _ (by kernel_rfl)] at h
  exact ⟨tab_of (laidMet.tail h), states_of h⟩
end Go.Proofs.YtpkmddagcfjadaaDoor
