/-
  tetherlaw01.known is true.
-/
import Derived.Test.YtdnheiefbecaeaaPut
import Derived.Test.YtdnheiefbecaeaaGet
namespace Go.Proofs.Ytdnheiefbecaeaa
open Go.RowKit
set_option maxRecDepth 100000
set_option linter.unusedSimpArgs false
set_option linter.unusedVariables false

theorem known_yes (w : World) : Calls Try.prog 5 #[] w fun e w' => e = .returned (.bool true) ∧ Below w.heap.size w w' := by
  have P1 : Calls Try.prog 19 #[.slice none 0 0, .int .u64 4660, .int .i64 2] w fun e w' =>
      e = .returned (.tuple #[.slice (some ⟨w.heap.size, 0, none⟩) 2 2, .int .i64 0]) ∧ w'.cell? ⟨w.heap.size, 0, none⟩ = some (.int .u8 18) ∧ Below w.heap.size w w' ∧ w.heap.size < w'.heap.size := by
    refine (put_ok none 0 0 2 4660 [] w Rd.nil (by omega) (by omega) (by omega) (by omega) (by decide) (by omega)).mono ?_
    rintro e w' ⟨rfl, hb, hB⟩
    refine ⟨rfl, ?_, hB, hb.lt⟩
    rw [hb.cell]
    rfl
  have P2 := fun W => put_much none 0 0 256 1 W ⟨by omega, by omega⟩ (by omega) (by omega) (by decide)
  have P3 : ∀ W : World, Calls Try.prog 20 #[.slice (some ⟨W.heap.size, 0, none⟩) 3 3, .int .i64 1, .int .i64 2] (W.alloc (.cells #[.int .u8 18, .int .u8 52, .int .u8 86] 5)) fun e w' =>
      e = .returned (.tuple #[.int .u64 13398, .int .i64 0]) ∧ W.alloc (.cells #[.int .u8 18, .int .u8 52, .int .u8 86] 5) = w' := by
    intro W
    have hb := blk_new W 5 [.int .u8 18, .int .u8 52, .int .u8 86]
    have hr : Rd (W.alloc (.cells #[.int .u8 18, .int .u8 52, .int .u8 86] 5)) (W.heap.size + 1) (some ⟨W.heap.size, 0, none⟩) 3 [18, 52, 86] := by
      refine ⟨rfl, fun _ => ⟨W.heap.size, 0, rfl, by omega, fun j hj => ?_⟩⟩
      have h := hb.cell j
      rw [Nat.zero_add]
      rcases (show j = 0 ∨ j = 1 ∨ j = 2 by omega) with rfl | rfl | rfl <;> exact h
    exact get_ok (some ⟨W.heap.size, 0, none⟩) 3 3 1 2 [18, 52, 86] _ _ hr (by omega) (by omega) (by omega) (by omega) (by omega)
  have Q1 := Lib.hid P1
  have Q2 := Lib.hid P2
  have Q3 := Lib.hid P3
  clear P1 P2 P3
  go_enter Try.func5, Try.ntmps5
  go_wp2_with fail
  refine (Q1.out).mono ?_
  rintro e w1 ⟨rfl, hc, hB, hlt⟩
  have BB := Lib.hid hB
  clear hB
  go_wp2_with fail
  refine (Q2.out _).mono ?_
  rintro e w2 ⟨rfl, rfl⟩
  go_wp2_with fail
  refine (Q3.out _).mono ?_
  rintro e w2 ⟨rfl, rfl⟩
  go_wp2
  go_ret
  exact ⟨rfl, BB.out.alloc BB.out.size _⟩
end Go.Proofs.Ytdnheiefbecaeaa
