/-
  tetherlaw12.awake is true: the walk.
-/
import Derived.Test.YtglboagjmbjehaaPaAw
import Derived.Deep.RegionHeld3
namespace Go.Proofs.Ytglboagjmbjehaa
open Go.RowKit Go.Shelf
set_option maxRecDepth 100000
set_option maxHeartbeats 4000000
set_option linter.unusedSimpArgs false
set_option linter.unusedVariables false

theorem awake_yes (w : World) : Calls Try.prog 9 #[] w fun e w' => e = .returned (.bool true) ∧ Below w.heap.size w w' := by
  have RQ : Hid (∀ W, Calls Try.prog 35 #[.int .i64 7, .string ⟨#[97, 108, 105, 99, 101]⟩, .string ⟨#[120]⟩] W (PktR W 1 7 exL 0)) := by
    show ∀ W : World, Calls _ _ _ _ _
    intro W
    have h := request_yes 7 alice ⟨#[120]⟩ W (by decide) (by decide) (by decide) (by decide)
    rw [ex_jn] at h
    exact h
  go_enter Try.func9, Try.ntmps9
  go_upto_region 6 with (first
    | (go_at_call 35; ((with_reducible refine (RQ.out _).mono ?_); rintro e w1 ⟨b1, D, k, d, rfl, o1⟩; have S1 := Lib.hid (ex_server w w1 D k d b1 o1); clear b1 o1))
    | (go_at_call 6; ((with_reducible refine S1.out.mono ?_); rintro e w3 ⟨g, rfl, hp, ht⟩; have x0 := hp.cell 0; have x1 := hp.cell 1; have x2 := hp.cell 2; have T1 := Lib.hid ht; clear ht hp))
    | (go_at_call 13; ((with_reducible refine T1.out.mono ?_); rintro e w4 ⟨D4, k4, d4, rfl, y2, h5⟩; have H5 := Lib.hid h5; clear h5)))
  obtain ⟨W5, hW5⟩ : ∃ W, w4.alloc (.cells #[.int .i64 2, .int .i64 7, .slice D4 k4 d4] 38) = W := ⟨_, rfl⟩
  have hb5 : Below w4.heap.size w4 W5 := by rw [← hW5]; exact (Below.refl _ _).alloc (Nat.le_refl _) _
  have hn5 : Blk W5 w4.heap.size 38 [.int .i64 2, .int .i64 7, .slice D4 k4 d4] := by rw [← hW5]; exact heap_alloc_new w4 _
  have p2 : W5.cell? ⟨w1.heap.size, 2, none⟩ = some (.slice D k d) := by
    have hl := World.block_lt_of_cell? w4 _ y2
    exact (hb5.cell hl).trans y2
  have q0 := hn5.cell 0
  have q1 := hn5.cell 1
  have q2 := hn5.cell 2
  obtain ⟨c1, c2, c3, c4⟩ := H5.out W5 hb5
  have WH := Lib.hid c3
  have FN := Lib.hid c4
  rw [hW5]
  clear c3 c4 H5 hb5 hn5 hW5 y2 x0 x1 x2 S1 T1 RQ
  go_wp2_with (first
    | (rw [c1])
    | (rw [c2])
    | (go_at_call 18; ((with_reducible refine WH.out.mono ?_); rintro e w' ⟨rfl, rfl⟩)))
  go_ret
  exact ⟨rfl, FN.out⟩
end Go.Proofs.Ytglboagjmbjehaa
