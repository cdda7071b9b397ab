/-
  What the listed tables of md5 give the walks.
-/
import Derived.Test.YtjimoegegigoiaaDoorRows
import Derived.Test.YtjimoegegigoiaaDoorMdTurn
import Derived.Lib.LaidTab
import Derived.Stop.LaidErr
import Derived.MakeChecks
import Derived.LaidMore
namespace Go.Proofs.YtjimoegegigoiaaDoor
set_option maxRecDepth 100000

/-- an array of arrays of integers that reads as rows holds them, cell for cell -/
theorem cells_of_rows {H : Type} {enc : TypeId × Value → H} {P : Program} {w : World} {base : Nat} {sp : Nat → Bool} {held : Bool} {fuel : Nat} {t r e : TypeId} {m n : Nat} {k : IntKind} {cs : List Value} {zss : List (List Int)} {p : List MemPlace}
    (ht : P.underlying t = some (.array m r)) (hr : P.underlying r = some (.array n e)) (he : P.underlying e = some (.int k)) (hce : P.cellsOf e = 1) (hcr : P.cellsOf r = n)
    (h : DataW.trod enc P w base sp held fuel t cs = some (.agg (zss.map (Lib.tabData k)), p)) (i : Nat) (hi : i < m) : (cs.drop (i * n)).take n = (zss.getD i []).map fun z => Value.int k z := by
  cases fuel with
  | zero => simp [DataW.trod] at h
  | succ fuel =>
    simp only [DataW.trod, ht, hcr] at h
    split at h
    · obtain ⟨xs, hm, hx⟩ := Option.map_eq_some_iff.1 h
      have hxs : xs.map (·.1) = zss.map (Lib.tabData (H := H) k) := by
        have := congrArg Prod.fst hx
        simpa using this
      obtain ⟨b, hb, hf⟩ := Lib.mapM_at hm i i (by simp [hi])
      have h2 : (xs.map (·.1))[i]? = some b.1 := by simp [hb]
      rw [hxs] at h2
      simp only [List.getElem?_map, Option.map_eq_some_iff] at h2
      obtain ⟨zs, hz, hzb⟩ := h2
      rw [List.getD_eq_getElem?_getD, hz]
      obtain ⟨b1, b2⟩ := b
      simp only at hzb
      subst hzb
      exact Lib.cells_of_tab hr he hce hcr hf
    · cases h
theorem of_laidM {W : World} (h : laidMetH Tryd.prog [("tether/md5.addends", Rows.laid_tether_md5_addends), ("tether/md5.turns", Rows.laid_tether_md5_turns)] W) : TabK W ∧ TabS W := by
  rw [MakeChecks.laidMetH_plain _ _ _ (by kernel_rfl)] at h
  have g1 : Tryd.prog.globalNamed "tether/md5.addends" = some 0 := by kernel_rfl
  have g2 : Tryd.prog.globalNamed "tether/md5.turns" = some 1 := by kernel_rfl
  have t1 : Lib.TabIs Tryd.prog W "tether/md5.addends" .u32 mdK := Lib.tabIs_of_head g1 (t := 167) (by kernel_rfl) Tryd.underlying167 Tryd.underlying134 (by kernel_rfl) (by kernel_rfl) h
  refine ⟨fun i hi => t1.cell g1 i hi, ?_⟩
  obtain ⟨ps, ⟨g', t', cs, fuel, p, q, hg', ht', hvar, hd, _, _⟩, _⟩ := laidMet.tail h
  obtain rfl := Option.some.inj (g2.symm.trans hg')
  obtain rfl := Option.some.inj ((show (Tryd.prog.globals[1]?).map (·.type) = some 170 by kernel_rfl).symm.trans ht')
  have hc := fun i hi => cells_of_rows (k := .i64) (zss := [[7, 12, 17, 22], [5, 9, 14, 20], [4, 11, 16, 23], [6, 10, 15, 21]]) Tryd.underlying170 Tryd.underlying169 Tryd.underlying3 (by kernel_rfl) (by kernel_rfl) hd i hi
  intro i hi
  have hcell := World.var?_cell g2 hvar i
  rw [hcell]
  have h4 := hc (i / 4) (by omega)
  have h5 := congrArg (·[i % 4]?) h4
  simp only [List.getElem?_take_of_lt (Nat.mod_lt i (show 0 < 4 by omega)), List.getElem?_drop] at h5
  rw [show i / 4 * 4 + i % 4 = i by omega] at h5
  rw [show cs[i]? = cs.toList[i]? by simp, h5]
  match i, hi with
  | 0, _ => rfl
  | 1, _ => rfl
  | 2, _ => rfl
  | 3, _ => rfl
  | 4, _ => rfl
  | 5, _ => rfl
  | 6, _ => rfl
  | 7, _ => rfl
  | 8, _ => rfl
  | 9, _ => rfl
  | 10, _ => rfl
  | 11, _ => rfl
  | 12, _ => rfl
  | 13, _ => rfl
  | 14, _ => rfl
  | 15, _ => rfl
  | i + 16, h => exact absurd h (by omega)
end Go.Proofs.YtjimoegegigoiaaDoor
