/-
  numbers that a reader answers, one behind the other.
-/
import Derived.Test.YtonbdcajepmgbaaDoorNewReader
import Derived.Outline
import Derived.Deep.Cut
namespace Go.Proofs.YtonbdcajepmgbaaDoor
open Go.RowKit
set_option maxRecDepth 100000
set_option maxHeartbeats 4000000
set_option linter.unusedSimpArgs false
set_option linter.unusedVariables false

theorem nm_ok {r : List UInt8} {n : Nat} (hn : 1 ≤ n) (hn8 : n ≤ 8) (h : n ≤ r.length) : nmErr r 0 n = 0 ∧ nmVal r 0 n = num r n ∧ nmRest r 0 n = r.drop n := by
  have e : nmErr r 0 n = 0 := by
    unfold nmErr
    rw [if_neg (by omega), if_neg (by omega), if_neg (by omega)]
  refine ⟨e, ?_, ?_⟩
  · unfold nmVal
    rw [if_pos e, Int.toNat_natCast]
  · unfold nmRest
    rw [if_pos e, Int.toNat_natCast]
theorem nm_short {r : List UInt8} {n : Nat} (hn : 1 ≤ n) (hn8 : n ≤ 8) (h : r.length < n) : nmErr r 0 n = 8 ∧ nmVal r 0 n = 0 ∧ nmRest r 0 n = [] := by
  have e : nmErr r 0 n = 8 := by
    unfold nmErr
    rw [if_neg (by omega), if_neg (by omega), if_pos (by omega)]
  refine ⟨e, ?_, ?_⟩
  · unfold nmVal
    rw [if_neg (by rw [e]; omega)]
  · unfold nmRest
    rw [if_neg (by rw [e]; omega)]
theorem nm_err {r : List UInt8} {n : Int} : nmErr r 8 n = 8 ∧ nmVal r 8 n = 0 ∧ nmRest r 8 n = [] := by
  have e : nmErr r 8 n = 8 := by
    unfold nmErr
    rw [if_pos (by omega)]
  refine ⟨e, ?_, ?_⟩
  · unfold nmVal
    rw [if_neg (by rw [e]; omega)]
  · unfold nmRest
    rw [if_neg (by rw [e]; omega)]
/-- three numbers behind one another -/
theorem three (l : List UInt8) : (l.length < 4 ∧ nmErr (nmRest (nmRest l 0 1) (nmErr l 0 1) 1) (nmErr (nmRest l 0 1) (nmErr l 0 1) 1) 2 = 8) ∨
    (4 ≤ l.length ∧ nmErr l 0 1 = 0 ∧ nmRest l 0 1 = l.drop 1 ∧ nmVal l 0 1 = num l 1 ∧ nmErr (l.drop 1) 0 1 = 0 ∧ nmRest (l.drop 1) 0 1 = l.drop 2 ∧ nmVal (l.drop 1) 0 1 = num (l.drop 1) 1 ∧
      nmErr (l.drop 2) 0 2 = 0 ∧ nmRest (l.drop 2) 0 2 = l.drop 4 ∧ nmVal (l.drop 2) 0 2 = num (l.drop 2) 2) := by
  by_cases h4 : l.length < 4
  · refine .inl ⟨h4, ?_⟩
    by_cases h1 : 1 ≤ l.length
    · obtain ⟨a1, _, a3⟩ := nm_ok (n := 1) (by omega) (by omega) h1
      have b1 : nmErr l 0 1 = 0 := a1
      have b3 : nmRest l 0 1 = l.drop 1 := a3
      rw [b1, b3]
      by_cases h2 : 2 ≤ l.length
      · obtain ⟨c1, _, c3⟩ := nm_ok (r := l.drop 1) (n := 1) (by omega) (by omega) (by rw [List.length_drop]; omega)
        have d1 : nmErr (l.drop 1) 0 1 = 0 := c1
        have d3 : nmRest (l.drop 1) 0 1 = (l.drop 1).drop 1 := c3
        rw [d1, d3]
        exact (nm_short (r := (l.drop 1).drop 1) (n := 2) (by omega) (by omega) (by rw [List.length_drop, List.length_drop]; omega)).1
      · obtain ⟨c1, _, c3⟩ := nm_short (r := l.drop 1) (n := 1) (by omega) (by omega) (by rw [List.length_drop]; omega)
        have d1 : nmErr (l.drop 1) 0 1 = 8 := c1
        rw [d1]
        exact nm_err.1
    · obtain ⟨a1, _, a3⟩ := nm_short (r := l) (n := 1) (by omega) (by omega) (by omega)
      have b1 : nmErr l 0 1 = 8 := a1
      rw [b1, nm_err.1]
      exact nm_err.1
  · obtain ⟨a1, a2, a3⟩ := nm_ok (r := l) (n := 1) (by omega) (by omega) (by omega)
    obtain ⟨b1, b2, b3⟩ := nm_ok (r := l.drop 1) (n := 1) (by omega) (by omega) (by rw [List.length_drop]; omega)
    obtain ⟨c1, c2, c3⟩ := nm_ok (r := l.drop 2) (n := 2) (by omega) (by omega) (by rw [List.length_drop]; omega)
    rw [List.drop_drop] at b3 c3
    exact .inr ⟨by omega, a1, a3, a2, b1, b3, b2, c1, c3, c2⟩
theorem num_256 (l : List UInt8) : 0 ≤ num l 1 ∧ num l 1 ≤ 255 := by
  have h1 := num_lo l 1
  have h2 := num_hi l 1
  omega
end Go.Proofs.YtonbdcajepmgbaaDoor
