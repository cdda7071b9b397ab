/-
  tetherref09.Unpack; SamePacket.
-/
import Derived.Test.YtakenibeaodnkaaOpUnpackW
import Derived.Test.YtakenibeaodnkaaSame
import Derived.StillTailTactics
import Derived.Deep.RegionLaw
namespace Go.Proofs.Ytakenibeaodnkaa
open Go.RowKit
set_option maxRecDepth 100000
set_option maxHeartbeats 4000000
set_option linter.unusedSimpArgs false
set_option linter.unusedVariables false

theorem samePacket_yes (D F : Option Addr) (n c d B : Nat) (l : List UInt8) (C I : Int) (w : World) (hr : Rd w B D n l) (hq : Rd w B F n l) (hB : B ≤ w.heap.size) (hm : n ≤ 140737488355328) :
    Calls Try.prog 14 #[.agg #[.int .i64 C, .int .i64 I, .slice D n c], .agg #[.int .i64 C, .int .i64 I, .slice F n d]] w fun e w' => e = .returned (.bool true) ∧ Below w.heap.size w w' := by
  have hb2 : Below w.heap.size w ((w.alloc (.cells #[.int .i64 C, .int .i64 I, .slice D n c] 24)).alloc (.cells #[.int .i64 C, .int .i64 I, .slice F n d] 24)) := ((Below.refl _ _).alloc (Nat.le_refl _) _).alloc (by simp) _
  have SM := Lib.hid (same_yes D F n c d l _ B (hr.below (hb2.mono hB)) (hq.below (hb2.mono hB)) (by unfold maxLen; omega))
  have HB := Lib.hid hb2
  have heq : ∀ z : Int, (z == z) = true := by simp
  clear hb2 hr hq
  go_enter Try.func14, Try.ntmps14
  go_wp2_with (go_at_call 9; ((with_reducible refine SM.out.mono ?_); rintro e w' ⟨rfl, k, rfl⟩))
  go_ret
  exact ⟨rfl, below_drewN HB.out _⟩
theorem runpack_few (A : Option Addr) (n c B : Nat) (l : List UInt8) (w : World) (hr : Rd w B A n l) (h4 : l.length < 4) :
    Calls Try.prog 13 #[.slice A n c] w fun e w' => e = .returned (.tuple #[.agg #[.int .i64 0, .int .i64 0, .slice none 0 0], .int .i64 8]) ∧ Below w.heap.size w w' := by
  have hz : ∀ W, (zeroValue 24).run Try.prog W = .ok (.agg #[.int .i64 0, .int .i64 0, .slice none 0 0]) W := fun W => by kernel_rfl
  have hl := hr.1
  have hn4 : n < 4 := by omega
  clear hr hl h4
  go_enter Try.func13, Try.ntmps13
  go_wp2
  refine bodyPost_ret (v := .tuple #[.agg #[.int .i64 0, .int .i64 0, .slice none 0 0], .int .i64 8]) (by simp [results, Try.results13, go_sem]) rfl ⟨rfl, ?_⟩
  exact (Below.refl _ _).alloc (Nat.le_refl _) _
end Go.Proofs.Ytakenibeaodnkaa
