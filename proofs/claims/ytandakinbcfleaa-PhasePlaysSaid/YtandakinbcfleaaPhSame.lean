/-
  (*phase.Track).Same.
-/
import Derived.Test.YtandakinbcfleaaPhDo
namespace Go.Proofs.Ytandakinbcfleaa
open Go.RowKit
set_option maxRecDepth 100000
set_option maxHeartbeats 4000000
set_option linter.unusedSimpArgs false
set_option linter.unusedVariables false

def eqM (x y : PhS) : Bool := x.mt == y.mt && x.mm == y.mm
def eqP (x y : PhS) : Bool := x.pt == y.pt && x.pm == y.pm
def eqT5 (x y : PhS) : Bool := x.t0 == y.t0 && (x.t1 == y.t1 && (x.t2 == y.t2 && (x.t3 == y.t3 && x.t4 == y.t4)))
def sameX (x y : PhS) : Bool := x.s == y.s && (eqM x y && (eqP x y && eqT5 x y))
theorem phSame_nil (v : Value) (hv : v = .pointer none ∨ ∃ a, v = .pointer (some a)) (w : World) : Calls Try.prog 20 #[.pointer none, v] w fun r w' => r = .returned (.bool false) ∧ ∃ n, w' = w.drewN n := by
  rcases hv with rfl | ⟨a, rfl⟩
  all_goals
    go_enter Try.func20, Try.ntmps20
    go_wp2
    go_quiet (fail)
    go_wp2
    go_ret
    exact ⟨rfl, _, rfl⟩
theorem phSame_none (g : Nat) (w : World) : Calls Try.prog 20 #[.pointer (some ⟨g, 0, none⟩), .pointer none] w fun r w' => r = .returned (.bool false) ∧ ∃ n, w' = w.drewN n := by
  go_enter Try.func20, Try.ntmps20
  go_wp2
  go_quiet (fail)
  go_wp2
  go_ret
  exact ⟨rfl, _, rfl⟩
theorem phSame_any (g h : Nat) (x y : PhS) (w : World) (hx : TrB w g x) (hy : TrB w h y) : Calls Try.prog 20 #[.pointer (some ⟨g, 0, none⟩), .pointer (some ⟨h, 0, none⟩)] w fun r w' => r = .returned (.bool (sameX x y)) ∧ ∃ n, w' = w.drewN n := by
  have E1 : ∀ W, (Op.equalIn 10000 60 (.agg #[.bool x.mt, .bool x.mm]) (.agg #[.bool y.mt, .bool y.mm])).run Try.prog W = .ok (eqM x y) W := fun W => ends_eq _ _ _ _ W
  have E2 : ∀ W, (Op.equalIn 10000 60 (.agg #[.bool x.pt, .bool x.pm]) (.agg #[.bool y.pt, .bool y.pm])).run Try.prog W = .ok (eqP x y) W := fun W => ends_eq _ _ _ _ W
  have E3 : ∀ W, (Op.equalIn 10000 34 (.agg #[.int .i64 x.t0, .int .i64 x.t1, .int .i64 x.t2, .int .i64 x.t3, .int .i64 x.t4]) (.agg #[.int .i64 y.t0, .int .i64 y.t1, .int .i64 y.t2, .int .i64 y.t3, .int .i64 y.t4])).run Try.prog W = .ok (eqT5 x y) W := fun W => times_eq _ _ _ _ _ _ _ _ _ _ W
  unfold sameX
  obtain ⟨b1, h1⟩ : ∃ b, eqM x y = b := ⟨_, rfl⟩
  obtain ⟨b2, h2⟩ : ∃ b, eqP x y = b := ⟨_, rfl⟩
  obtain ⟨b3, h3⟩ : ∃ b, eqT5 x y = b := ⟨_, rfl⟩
  rw [h1] at E1 ⊢
  rw [h2] at E2 ⊢
  rw [h3] at E3 ⊢
  clear h1 h2 h3
  obtain ⟨s, mt, mm, pt, pm, t0, t1, t2, t3, t4⟩ := x
  obtain ⟨s', mt', mm', pt', pm', t0', t1', t2', t3', t4'⟩ := y
  have c0 : w.cell? ⟨g, 0, none⟩ = some (.int .i64 s) := hx.cell 0
  have c1 : w.cell? ⟨g, 1, none⟩ = some (.bool mt) := hx.cell 1
  have c2 : w.cell? ⟨g, 2, none⟩ = some (.bool mm) := hx.cell 2
  have c3 : w.cell? ⟨g, 3, none⟩ = some (.bool pt) := hx.cell 3
  have c4 : w.cell? ⟨g, 4, none⟩ = some (.bool pm) := hx.cell 4
  have c5 : w.cell? ⟨g, 5, none⟩ = some (.int .i64 t0) := hx.cell 5
  have c6 : w.cell? ⟨g, 6, none⟩ = some (.int .i64 t1) := hx.cell 6
  have c7 : w.cell? ⟨g, 7, none⟩ = some (.int .i64 t2) := hx.cell 7
  have c8 : w.cell? ⟨g, 8, none⟩ = some (.int .i64 t3) := hx.cell 8
  have c9 : w.cell? ⟨g, 9, none⟩ = some (.int .i64 t4) := hx.cell 9
  have d0 : w.cell? ⟨h, 0, none⟩ = some (.int .i64 s') := hy.cell 0
  have d1 : w.cell? ⟨h, 1, none⟩ = some (.bool mt') := hy.cell 1
  have d2 : w.cell? ⟨h, 2, none⟩ = some (.bool mm') := hy.cell 2
  have d3 : w.cell? ⟨h, 3, none⟩ = some (.bool pt') := hy.cell 3
  have d4 : w.cell? ⟨h, 4, none⟩ = some (.bool pm') := hy.cell 4
  have d5 : w.cell? ⟨h, 5, none⟩ = some (.int .i64 t0') := hy.cell 5
  have d6 : w.cell? ⟨h, 6, none⟩ = some (.int .i64 t1') := hy.cell 6
  have d7 : w.cell? ⟨h, 7, none⟩ = some (.int .i64 t2') := hy.cell 7
  have d8 : w.cell? ⟨h, 8, none⟩ = some (.int .i64 t3') := hy.cell 8
  have d9 : w.cell? ⟨h, 9, none⟩ = some (.int .i64 t4') := hy.cell 9
  clear hx hy
  simp only at E1 E2 E3 ⊢
  rcases hs : (s == s') with _ | _
  · go_enter Try.func20, Try.ntmps20
    go_wp2
    go_quiet (fail)
    go_wp2
    go_ret
    exact ⟨rfl, _, rfl⟩
  · cases b1 <;> cases b2 <;> cases b3
    all_goals
      go_enter Try.func20, Try.ntmps20
      go_wp2
      go_quiet (fail)
      go_wp2
      go_ret
      exact ⟨rfl, _, rfl⟩
end Go.Proofs.Ytandakinbcfleaa
