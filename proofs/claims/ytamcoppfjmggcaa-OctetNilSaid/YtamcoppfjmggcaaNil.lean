/-
  tetherlaw01.OctetNil is true: a reader and a ring that are not there.
-/
import Derived.Test.YtamcoppfjmggcaaClone
import Derived.Test.YtamcoppfjmggcaaKnown
import Derived.Deep.Light
namespace Go.Proofs.Ytamcoppfjmggcaa
open Go.RowKit
set_option maxRecDepth 100000
set_option linter.unusedSimpArgs false
set_option linter.unusedVariables false

theorem take_nil (x : Int) (w : World) :
    Calls Try.prog 20 #[.pointer none, .int .i64 x] w fun e w' => e = .returned (.slice (some ⟨w.heap.size, 0, none⟩) 0 0) ∧ Below w.heap.size w w' := by
  have C := Lib.hid (clone_any none 0 0 0 [] w Rd.nil (Nat.zero_le _) (by omega))
  go_enter Try.func20, Try.ntmps20
  go_wp2_with (first
    | (go_at_call 39; refine (C.out).mono ?_; rintro e w' ⟨rfl, _, hB⟩)
    | go_in)
  go_ret
  exact ⟨rfl, by assumption⟩

theorem num_nil (x : Int) (w : World) :
    Calls Try.prog 18 #[.pointer none, .int .i64 x] w fun e w' => e = .returned (.int .u64 0) ∧ w = w' := by
  go_enter Try.func18, Try.ntmps18
  go_wp2_with (first | (go_at_call 36; refine (size_right _ _).mono ?_; rintro e w' ⟨rfl, rfl⟩) | go_in)
  go_ret
  exact ⟨rfl, rfl⟩

theorem rest_nil (w : World) :
    Calls Try.prog 22 #[.pointer none] w fun e w' => e = .returned (.slice (some ⟨w.heap.size, 0, none⟩) 0 0) ∧ Below w.heap.size w w' := by
  have C := Lib.hid (take_nil 0 w)
  go_enter Try.func22, Try.ntmps22
  go_wp2_with (first
    | (go_at_call 20; refine (C.out).mono ?_; rintro e w' ⟨rfl, hB⟩)
    | go_in)
  go_ret
  exact ⟨rfl, by assumption⟩

theorem nil_walk (A : Option Addr) (n c : Nat) (x : Int) (w : World) :
    Calls Try.prog 7 #[.slice A n c, .int .i64 x] w fun e w' => e = .returned (.bool true) ∧ Below w.heap.size w w' := by
  go_enter Try.func7, Try.ntmps7
  go_wp2_with fail
  refine (num_nil _ _).mono ?_
  rintro e w1 ⟨rfl, rfl⟩
  go_wp2_with fail
  refine (take_nil _ _).mono ?_
  rintro e w1 ⟨rfl, hB1⟩
  have B1 := Lib.hid hB1
  clear hB1
  go_wp2_with fail
  refine (rest_nil _).mono ?_
  rintro e w2 ⟨rfl, hB2⟩
  have B2 := Lib.hid (B1.out.trans (hB2.mono B1.out.size))
  clear hB2
  go_wp2_with (first
    | (go_at_call 16; refine (known_yes _).mono ?_; rintro e w3 ⟨rfl, hB3⟩; have B3 := Lib.hid (B2.out.trans (hB3.mono B2.out.size)); clear hB3)
    | go_in)
  go_ret
  exact ⟨rfl, B3.out⟩
end Go.Proofs.Ytamcoppfjmggcaa
