/-
  Bytes within what came in: their opening.
-/
import Derived.Test.YtlpboleclehilaaDoorOpen
import Derived.Test.YtlpboleclehilaaDoorBase
import Derived.SizedLaws
import Derived.Lib.SmallJoins
namespace Go.Proofs.YtlpboleclehilaaDoor
open Go.ChangeShapes Go.WideShapes Go.ChangeAt Go.RowKit Go.Joins
set_option maxRecDepth 100000
set_option linter.unusedSimpArgs false
set_option linter.unusedVariables false

theorem pkt_bytes {H : Type} {enc : TypeId × Value → H} {W : World} {fuel : Nat} {a : Option Addr} {n c : Nat} {y : DataW H × List MemPlace}
    (hf : DataW.trod enc Tryd.prog W 0 (fun _ => true) true fuel 51 [.slice a n c] = some y) (hw : ∀ x ∈ y.1.weights Tryd.prog 51, x ≤ 140737488351232) :
    ∃ l : List UInt8, Rd W W.heap.size a n l ∧ (a = none → c = 0) ∧ n ≤ c ∧ c ≤ 140737488351232 := by
  rcases open_ints Tryd.underlying51 Tryd.underlying5 (by kernel_rfl) hf with ⟨hcs, _⟩ | ⟨x, l, c, zs, hcs, _, hl, hm, hz, hx, hcell, hwz⟩
  · simp at hcs
    obtain ⟨rfl, rfl, rfl⟩ := hcs
    exact ⟨[], Rd.nil, fun _ => rfl, Nat.le_refl _, by omega⟩
  · simp at hcs
    obtain ⟨rfl, rfl, rfl⟩ := hcs
    subst hx
    simp only [if_true] at hz
    have hs := hw _ (by simp only [DataW.weights, Tryd.underlying51]; exact List.mem_cons_self)
    rw [show Tryd.prog.bytesOf 5 = 1 by kernel_rfl] at hs
    simp only [lits, List.length_map, List.length_take, List.length_drop] at hs
    obtain ⟨l, hr⟩ := rd_open hl hz hcell hwz
    exact ⟨l, hr, (fun e => by cases e), hl, by omega⟩
end Go.Proofs.YtlpboleclehilaaDoor
