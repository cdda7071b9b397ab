/-
  The law's awake: the walk.
-/
import Derived.Test.YtdlnmhobhafobaaTmAw
namespace Go.Proofs.Ytdlnmhobhafobaa
open Go.RowKit Go.Shelf
set_option maxRecDepth 100000
set_option maxHeartbeats 4000000
set_option linter.unusedSimpArgs false
set_option linter.unusedVariables false

theorem awake_any (w : World) : Calls Try.prog 18 #[] w fun e w' => e = .returned (.bool true) ∧ Below w.heap.size w w' := by
  have HN := Lib.hid (aw_new w)
  go_enter Try.func18, Try.ntmps18
  go_wp2_with (first
    | (go_at_call 10; refine HN.out.mono ?_; rintro e w1 ⟨rfl, h0⟩; have A0 := Lib.hid h0; clear h0 HN)
    | (go_at_call 53; refine (aw_put A0.out 1 50 [(1, 50)] (by decide) (by decide) (by decide) (by decide) (by decide) (by decide) (by decide)).mono ?_; rintro e w2 ⟨rfl, v1, h1, _⟩; have A1 := Lib.hid h1; clear h1 A0)
    | (go_at_call 53; refine (aw_put A1.out 2 40 [(2, 40), (1, 50)] (by decide) (by decide) (by decide) (by decide) (by decide) (by decide) (by decide)).mono ?_; rintro e w3 ⟨rfl, v2, h1, _⟩; have A2 := Lib.hid h1; clear h1 A1)
    | (go_at_call 53; refine (aw_put A2.out 3 50 [(2, 40), (1, 50), (3, 50)] (by decide) (by decide) (by decide) (by decide) (by decide) (by decide) (by decide)).mono ?_; rintro e w4 ⟨rfl, v3, h1, _⟩; have A3 := Lib.hid h1; clear h1 A2)
    | (go_at_call 59; refine (aw_due A3.out 45 [(1, 50), (3, 50)] 2 [] (by decide) (by decide) (by decide)).mono ?_; rintro e w5 ⟨r1, c1, v4, rfl, h1, _, k1⟩; have A4 := Lib.hid h1; have K4 := Lib.hid k1; clear h1 k1 A3)
    | (go_at_call 53; refine (aw_again A4.out 1 50 (1, 50) [(3, 50), (1, 50)] (by decide) (by decide) (by decide) (by decide) (by decide) (by decide) (by decide)).mono ?_; rintro e w6 ⟨rfl, v5, h1, f1⟩; have A5 := Lib.hid h1; have K5 := Lib.hid (K4.out.next f1); clear h1 f1 A4 K4)
    | (go_at_call 59; refine (aw_due A5.out 50 [] 3 [1] (by decide) (by decide) (by decide)).mono ?_; rintro e w7 ⟨r2, c2, v6, rfl, h1, f1, k1⟩; have x1 := (K5.out.next f1).cell 0 2 rfl; have x2 := k1.cell 0 3 rfl; have x3 := k1.cell 1 1 rfl; have A6 := Lib.hid h1; clear h1 f1 k1 A5 K5))
  go_ret
  exact ⟨rfl, A6.out.bel⟩
end Go.Proofs.Ytdlnmhobhafobaa
