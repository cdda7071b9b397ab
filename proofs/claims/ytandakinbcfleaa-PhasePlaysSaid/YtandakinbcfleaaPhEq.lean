/-
  phase: arrays held against one another.
-/
import Derived.Test.YtandakinbcfleaaPhTrack
namespace Go.Proofs.Ytandakinbcfleaa
open Go.RowKit
set_option maxRecDepth 100000
set_option maxHeartbeats 4000000
set_option linter.unusedSimpArgs false
set_option linter.unusedVariables false

theorem ends_eq (a b c d : Bool) (W : World) : (Op.equalIn 10000 60 (.agg #[.bool a, .bool b]) (.agg #[.bool c, .bool d])).run Try.prog W = .ok (a == c && b == d) W := by
  cases a <;> cases b <;> cases c <;> cases d <;> kernel_rfl
theorem part5_0 (a0 a1 a2 a3 a4 : Int) (W : World) : (part 2 #[.int .i64 a0, .int .i64 a1, .int .i64 a2, .int .i64 a3, .int .i64 a4] 0).run Try.prog W = .ok (.int .i64 a0) W := by kernel_rfl
theorem part5_1 (a0 a1 a2 a3 a4 : Int) (W : World) : (part 2 #[.int .i64 a0, .int .i64 a1, .int .i64 a2, .int .i64 a3, .int .i64 a4] 1).run Try.prog W = .ok (.int .i64 a1) W := by kernel_rfl
theorem part5_2 (a0 a1 a2 a3 a4 : Int) (W : World) : (part 2 #[.int .i64 a0, .int .i64 a1, .int .i64 a2, .int .i64 a3, .int .i64 a4] 2).run Try.prog W = .ok (.int .i64 a2) W := by kernel_rfl
theorem part5_3 (a0 a1 a2 a3 a4 : Int) (W : World) : (part 2 #[.int .i64 a0, .int .i64 a1, .int .i64 a2, .int .i64 a3, .int .i64 a4] 3).run Try.prog W = .ok (.int .i64 a3) W := by kernel_rfl
theorem part5_4 (a0 a1 a2 a3 a4 : Int) (W : World) : (part 2 #[.int .i64 a0, .int .i64 a1, .int .i64 a2, .int .i64 a3, .int .i64 a4] 4).run Try.prog W = .ok (.int .i64 a4) W := by kernel_rfl
theorem infoL : ∃ i, Try.prog.info? 2 = some i := by
  have h : (Try.prog.info? 2).isSome = true := by kernel_rfl
  exact Option.isSome_iff_exists.1 h
theorem cellsL : Try.prog.cellsOf 2 = 1 := by kernel_rfl
theorem times_eq (a0 a1 a2 a3 a4 b0 b1 b2 b3 b4 : Int) (W : World) : (Op.equalIn 10000 34 (.agg #[.int .i64 a0, .int .i64 a1, .int .i64 a2, .int .i64 a3, .int .i64 a4]) (.agg #[.int .i64 b0, .int .i64 b1, .int .i64 b2, .int .i64 b3, .int .i64 b4])).run Try.prog W = .ok (a0 == b0 && (a1 == b1 && (a2 == b2 && (a3 == b3 && a4 == b4)))) W := by
  obtain ⟨i, hi⟩ := infoL
  rw [show (10000 : Nat) = 9998 + 1 + 1 from rfl, run_equalIn_array W (9998 + 1) _ _ Try.underlying34 hi, cellsL]
  have he : ∀ (x y : Int), (Op.equalIn 9999 2 (.int .i64 x) (.int .i64 y)).run Try.prog W = .ok (x == y) W := fun x y => run_equalIn_int W 9998 2 .i64 .i64 x y Try.underlying2
  simp only [show List.range 5 = [0, 1, 2, 3, 4] from rfl, Op.eqItems]
  cases h0 : (a0 == b0) <;> cases h1 : (a1 == b1) <;> cases h2 : (a2 == b2) <;> cases h3 : (a3 == b3) <;> cases h4 : (a4 == b4) <;> simp [Sem.run_bind, part5_0, part5_1, part5_2, part5_3, part5_4, he, Result.andThen_ok, *]
end Go.Proofs.Ytandakinbcfleaa
