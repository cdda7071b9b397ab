/-
  tetherlaw02.FcsNil is true, whatever it is asked, and writes nothing that was there.
-/
import Derived.Test.YtamcoppfjmggcabDoorAwake
import Derived.Test.YtamcoppfjmggcabDoorCheck
namespace Go.Proofs.YtamcoppfjmggcabDoor
open Go.RowKit
set_option maxRecDepth 100000
set_option maxHeartbeats 800000
set_option linter.unusedSimpArgs false
set_option linter.unusedVariables false

theorem awake_behind (w : World) (h16 : Tab16 w) (h32 : Tab32 w) :
    ∀ W, Below w.heap.size w W → Calls Tryd.prog 6 #[] W fun e w' => e = .returned (.bool true) ∧ Below w.heap.size w w' := by
  intro W hB
  refine (awake_yes W (h16.kept hB) (h32.kept hB)).mono ?_
  rintro e w' ⟨rfl, hB'⟩
  exact ⟨rfl, hB.trans (hB'.mono hB.size)⟩

theorem fcsnil_walk (A : Option Addr) (n c : Nat) (z : Int) (w : World) (h16 : Tab16 w) (h32 : Tab32 w) :
    Calls Tryd.prog 5 #[.int .i64 z, .slice A n c] w fun e w' => e = .returned (.bool true) ∧ Below w.heap.size w w' := by
  have AW := Lib.hid (awake_behind w h16 h32)
  clear h16 h32
  by_cases h1 : z = 16 ∨ z = 32
  · have N := Lib.hid (new_yes z w h1)
    rcases h1 with rfl | rfl
    all_goals
      go_enter Tryd.func5, Tryd.ntmps5
      go_wp2_with fail
      refine (N.out).mono ?_
      rintro e w1 ⟨rfl, hc, hB⟩
      have L := Lib.hid (len_any _ _ _ _ _ hc)
      have BB := Lib.hid hB
      clear hc hB
      go_wp2_with fail
      refine (L.out).mono ?_
      rintro e w2 ⟨rfl, rfl⟩
      go_wp2_with fail
      refine (AW.out _ BB.out).mono ?_
      rintro e w3 ⟨rfl, hB⟩
      have B3 := Lib.hid hB
      clear hB
      go_wp2
      go_ret
      exact ⟨rfl, B3.out⟩
  · have z1 : (z == 16) = false := by simp; omega
    have z2 : (z == 32) = false := by simp; omega
    have N := Lib.hid (new_no z w (by omega) (by omega))
    clear h1
    go_enter Tryd.func5, Tryd.ntmps5
    go_wp2_with fail
    refine (N.out).mono ?_
    rintro e w1 ⟨rfl, rfl⟩
    go_wp2_with fail
    refine (reset_nil _).mono ?_
    rintro e w1 ⟨rfl, rfl⟩
    go_wp2_with (first
      | (go_at_call 6; refine (AW.out _ (Below.refl _ _)).mono ?_; rintro e w3 ⟨rfl, hB⟩; have B3 := Lib.hid hB; clear hB)
      | go_in)
    go_ret
    exact ⟨rfl, B3.out⟩
end Go.Proofs.YtamcoppfjmggcabDoor
