/-
  tetherref09.SamePacket at two packets that are the same.
-/
import Derived.Test.YtnklamclcliddaaDoorSame
import Derived.Lib.Hide
import Derived.Deep.Light
namespace Go.Proofs.YtnklamclcliddaaDoor
open Go.RowKit
set_option maxRecDepth 100000
set_option maxHeartbeats 4000000
set_option linter.unusedSimpArgs false
set_option linter.unusedVariables false

theorem samePacket_yes (D F : Option Addr) (n c d B : Nat) (l : List UInt8) (C I : Int) (w : World) (hr : Rd w B D n l) (hq : Rd w B F n l) (hB : B ≤ w.heap.size) (hm : n ≤ 140737488355328) :
    Calls Tryd.prog 11 #[.agg #[.int .i64 C, .int .i64 I, .slice D n c], .agg #[.int .i64 C, .int .i64 I, .slice F n d]] w fun e w' => e = .returned (.bool true) ∧ Below w.heap.size w w' := by
  have hb2 : Below w.heap.size w ((w.alloc (.cells #[.int .i64 C, .int .i64 I, .slice D n c] 24)).alloc (.cells #[.int .i64 C, .int .i64 I, .slice F n d] 24)) := ((Below.refl _ _).alloc (Nat.le_refl _) _).alloc (by simp) _
  have SM := Lib.hid (same_yes D F n c d l _ B (hr.below (hb2.mono hB)) (hq.below (hb2.mono hB)) (by unfold maxLen; omega))
  have HB := Lib.hid hb2
  have heq : ∀ z : Int, (z == z) = true := by simp
  clear hb2 hr hq
  go_enter Tryd.func11, Tryd.ntmps11
  go_wp2_with (go_at_call 16; ((with_reducible refine SM.out.mono ?_); rintro e w' ⟨rfl, k, rfl⟩))
  go_ret
  exact ⟨rfl, below_drewN HB.out _⟩
end Go.Proofs.YtnklamclcliddaaDoor
