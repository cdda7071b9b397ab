/-
  What the listed table of digits gives the walks.
-/
import Derived.Test.YtdnheiefbecaeaaDoorRows
import Derived.Test.YtdnheiefbecaeaaDoorHexRun
import Derived.Lib.LaidTab
import Derived.Stop.LaidErr
import Derived.MakeChecks
import Derived.LaidMore
namespace Go.Proofs.YtdnheiefbecaeaaDoor
def LD : List Int := [48, 49, 50, 51, 52, 53, 54, 55, 56, 57, 97, 98, 99, 100, 101, 102]
theorem LD_int : ∀ i : Nat, i < 16 → LD.getD i 0 = ((dig i).toNat : Int) := by decide
theorem of_laidD {W : World} (h : laidMetH Tryd.prog [("tether/octet.digits", Rows.laid_tether_octet_digits)] W) : TabD W := by
  rw [MakeChecks.laidMetH_plain _ _ _ (by kernel_rfl)] at h
  have g1 : Tryd.prog.globalNamed "tether/octet.digits" = some 0 := by kernel_rfl
  have t1 : Lib.TabIs Tryd.prog W "tether/octet.digits" .u8 LD := Lib.tabIs_of_head g1 (t := 89) (by kernel_rfl) Tryd.underlying89 Tryd.underlying5 (by kernel_rfl) (by kernel_rfl) h
  exact fun i hi => by rw [t1.cell g1 i hi, LD_int i hi]
end Go.Proofs.YtdnheiefbecaeaaDoor
