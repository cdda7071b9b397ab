/-
  octet.Reader's Rest.
-/
import Derived.Test.YtjimoegegigoiaaDoorTakes
namespace Go.Proofs.YtjimoegegigoiaaDoor
open Go.RowKit
set_option maxRecDepth 100000
set_option linter.unusedSimpArgs false
set_option linter.unusedVariables false

theorem rest_any (B g : Nat) (r : List UInt8) (e : Int) (w : World) (h : OctAt w B g r e) :
    Calls Tryd.prog 170 #[.pointer (some ⟨g, 0, none⟩)] w fun e' w' =>
      ∃ v, e' = .returned v ∧ Own w' w.heap.size v (tkOut r e r.length) ∧ OctAt w' B g (tkRest r e r.length) (tkErr r e r.length) ∧ w.grownBy w' (some g) := by
  have P := Lib.hid (left_any B g r e w h)
  have Q := Lib.hid (take_any B g (r.length : Int) r e w h)
  clear h
  go_enter Tryd.func170, Tryd.ntmps170
  go_wp2_with fail
  refine (P.out).mono ?_
  rintro e' w1 ⟨rfl, rfl⟩
  go_wp2_with fail
  refine (Q.out).mono ?_
  rintro e' w1 ⟨v, rfl, ho, hO, hG⟩
  have O := Lib.hid ho
  have OO := Lib.hid hO
  have G := Lib.hid hG
  clear ho hO hG
  go_wp2
  go_ret
  exact ⟨_, rfl, O.out, OO.out, G.out⟩
end Go.Proofs.YtjimoegegigoiaaDoor
