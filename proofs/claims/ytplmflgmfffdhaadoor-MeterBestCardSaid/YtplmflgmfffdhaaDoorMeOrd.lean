/-
  The order of floats: by keys.
-/
import Derived.Test.YtplmflgmfffdhaaDoorMeF
import Derived.Test.YtplmflgmfffdhaaDoorMeK
namespace Go.Proofs.YtplmflgmfffdhaaDoor
open Go.RowKit
set_option linter.unusedSimpArgs false
set_option linter.unusedVariables false

theorem cmp_lt {x y : Int} (h : x < y) : compare x y = .lt := by rw [cmpI, if_pos h]
theorem cmp_gt {x y : Int} (h : y < x) : compare x y = .gt := by rw [cmpI, if_neg (by omega), if_neg (by omega)]
theorem cmp_self (x : Int) : compare x x = .eq := by rw [cmpI, if_neg (by omega), if_pos rfl]
theorem isN_rung (a : Nat) : isN a = decide (infR < rung a) := by
  unfold isN cmpF
  show (Ieee.double.order a a != some .eq) = _
  by_cases h : infR < rung a
  · rw [cmp_nan_l h, decide_eq_true h]
    rfl
  · rw [cmp_key (by omega) (by omega), decide_eq_false h, cmpI, if_neg (by omega), if_pos rfl]
    rfl
theorem num_rung {a : Nat} (h : isN a = false) : rung a ≤ infR := by
  rw [isN_rung] at h
  have := of_decide_eq_false h
  omega
theorem nan_rung {a : Nat} (h : isN a = true) : infR < rung a := by
  rw [isN_rung] at h
  exact of_decide_eq_true h
/-- what Compare answers -/
def cmpV (a b : Nat) : Int := if isN a && isN b then 0 else if isN a then -1 else if isN b then 1 else if cmpF a b == some .lt then -1 else if cmpF a b == some .gt then 1 else 0
/-- the document's order -/
def ordV (a b : Nat) : Int :=
  if isN a && isN b then 0 else if isN a then -1 else if isN b then 1 else if cmpF a b == some .lt then -1 else if cmpF a b == some .gt then 1 else if sgn a && !sgn b then -1 else if sgn b && !sgn a then 1 else 0
def keyF (a : Nat) : Int := if isN a then -(2 * (valR infR : Int)) - 5 else 2 * sv a + (if sgn a then 0 else 1)
theorem sv_le {a : Nat} (h : rung a ≤ infR) : -(valR infR : Int) ≤ sv a ∧ sv a ≤ (valR infR : Int) := by
  have : valR (rung a) ≤ valR infR := by
    rcases Nat.lt_or_ge (rung a) infR with h1 | h1
    · have := valR_mono h1; omega
    · rw [show rung a = infR by omega]; omega
  unfold sv
  split <;> omega
theorem ord_key (a b : Nat) : ordV a b = if keyF a < keyF b then -1 else if keyF b < keyF a then 1 else 0 := by
  unfold ordV keyF
  cases ha : isN a <;> cases hb : isN b
  · have r1 := num_rung ha
    have r2 := num_rung hb
    have hc : cmpF a b = some (compare (sv a) (sv b)) := cmp_key r1 r2
    rw [hc]
    generalize sv a = x
    generalize sv b = y
    rcases Int.lt_trichotomy x y with h | h | h
    · rw [cmp_lt h]
      cases sgn a <;> cases sgn b <;> simp <;> omega
    · subst h
      rw [cmp_self]
      cases sgn a <;> cases sgn b <;> simp <;> (try (repeat' split)) <;> omega
    · rw [cmp_gt h]
      cases sgn a <;> cases sgn b <;> simp <;> omega
  · have := sv_le (num_rung ha)
    simp
    cases sgn a <;> simp <;> omega
  · have := sv_le (num_rung hb)
    simp
    cases sgn b <;> simp <;> omega
  · simp
/-- a zero -/
def zB (a : Nat) : Bool := cmpF a 0 == some .eq
theorem sv_zero {a : Nat} (h : sv a = 0) : rung a = 0 := by
  have h2 : valR (rung a) = valR 0 := by
    rw [valR_zero]
    unfold sv at h
    split at h <;> omega
  exact valR_inj h2
theorem zero_rung {a : Nat} (h : zB a = true) : rung a = 0 := by
  unfold zB at h
  have h0 : cmpF a 0 = some .eq := by simpa using h
  by_cases hn : infR < rung a
  · have : cmpF a 0 = none := cmp_nan_l hn
    rw [this] at h0
    cases h0
  · have h1 : cmpF a 0 = some (compare (sv a) (sv 0)) := cmp_key (by omega) (by decide)
    rw [h1, cmpI, show sv 0 = 0 from by decide] at h0
    refine sv_zero ?_
    by_cases h2 : sv a < 0
    · rw [if_pos h2] at h0; cases h0
    · rw [if_neg h2] at h0
      by_cases h3 : sv a = 0
      · exact h3
      · rw [if_neg h3] at h0; cases h0
theorem zero_word {a : Nat} (hw : a < 18446744073709551616) (h : zB a = true) : a = 0 ∨ a = 9223372036854775808 := by
  have := zero_rung h
  unfold rung at this
  omega
theorem rung_zero {a : Nat} (h : rung a = 0) : zB a = true := by
  unfold zB
  have h1 : cmpF a 0 = some (compare (sv a) (sv 0)) := cmp_key (by rw [h]; decide) (by decide)
  have h2 : sv a = 0 := by unfold sv; rw [h, valR_zero]; split <;> rfl
  rw [h1, h2]
  decide
theorem cmp_ord {a b : Nat} (h : (zB a && zB b) = false) : cmpV a b = ordV a b := by
  unfold cmpV ordV
  cases ha : isN a <;> cases hb : isN b
  · have r1 := num_rung ha
    have r2 := num_rung hb
    have hc : cmpF a b = some (compare (sv a) (sv b)) := cmp_key r1 r2
    rw [hc]
    rcases Int.lt_trichotomy (sv a) (sv b) with h1 | h1 | h1
    · rw [cmp_lt h1]
      simp
    · rw [show compare (sv a) (sv b) = .eq by rw [h1, cmp_self]]
      have hs : sgn a = sgn b := by
        cases sa : sgn a <;> cases sb : sgn b
        · rfl
        · exfalso
          unfold sv at h1
          rw [sa, sb] at h1
          simp only [Bool.false_eq_true, if_false, if_true] at h1
          have e1 : valR (rung a) = valR 0 := by rw [valR_zero]; omega
          have e2 : valR (rung b) = valR 0 := by rw [valR_zero]; omega
          rw [rung_zero (valR_inj e1), rung_zero (valR_inj e2)] at h
          exact absurd h (by decide)
        · exfalso
          unfold sv at h1
          rw [sa, sb] at h1
          simp only [Bool.false_eq_true, if_false, if_true] at h1
          have e1 : valR (rung a) = valR 0 := by rw [valR_zero]; omega
          have e2 : valR (rung b) = valR 0 := by rw [valR_zero]; omega
          rw [rung_zero (valR_inj e1), rung_zero (valR_inj e2)] at h
          exact absurd h (by decide)
        · rfl
      rw [hs]
      cases sgn b <;> simp
    · rw [cmp_gt h1]
      simp
  · simp
  · simp
  · simp
theorem word_eq {a b : Nat} (ha : a < 18446744073709551616) (hb : b < 18446744073709551616) (hs : sgn a = sgn b) (hr : rung a = rung b) : a = b := by
  unfold sgn rung at *
  have h1 : a / 9223372036854775808 % 2 = b / 9223372036854775808 % 2 := by
    have e1 : a / 9223372036854775808 % 2 < 2 := Nat.mod_lt _ (by omega)
    have e2 : b / 9223372036854775808 % 2 < 2 := Nat.mod_lt _ (by omega)
    by_cases c1 : a / 9223372036854775808 % 2 = 1
    · rw [c1] at hs
      have : (b / 9223372036854775808 % 2 == 1) = true := by rw [← hs]; rfl
      have := eq_of_beq this
      omega
    · have c3 : (a / 9223372036854775808 % 2 == 1) = false := by simpa using c1
      rw [c3] at hs
      have : ¬ (b / 9223372036854775808 % 2 = 1) := by
        intro e
        rw [e] at hs
        cases hs
      omega
  omega
/-- alike in the order: both no numbers, or the same word -/
theorem ord_zero {a b : Nat} (ha : a < 18446744073709551616) (hb : b < 18446744073709551616) : keyF a = keyF b ↔ (a = b ∨ (isN a = true ∧ isN b = true)) := by
  constructor
  · intro h
    unfold keyF at h
    cases na : isN a <;> cases nb : isN b
    · rw [na, nb] at h
      simp only [Bool.false_eq_true, if_false] at h
      refine .inl (word_eq ha hb ?_ ?_)
      · cases sa : sgn a <;> cases sb : sgn b <;> rw [sa, sb] at h <;> simp at h <;> first | rfl | omega
      · have hsv : sv a = sv b := by
          cases sa : sgn a <;> cases sb : sgn b <;> rw [sa, sb] at h <;> simp at h <;> omega
        have hs : sgn a = sgn b := by cases sa : sgn a <;> cases sb : sgn b <;> rw [sa, sb] at h <;> simp at h <;> first | rfl | omega
        unfold sv at hsv
        rw [hs] at hsv
        refine valR_inj ?_
        split at hsv <;> omega
    · rw [na, nb] at h
      have := sv_le (num_rung na)
      simp only [Bool.false_eq_true, if_false, if_true] at h
      split at h <;> omega
    · rw [na, nb] at h
      have := sv_le (num_rung nb)
      simp only [Bool.false_eq_true, if_false, if_true] at h
      split at h <;> omega
    · exact .inr ⟨rfl, rfl⟩
  · rintro (rfl | ⟨na, nb⟩)
    · rfl
    · unfold keyF
      rw [na, nb]
      rfl
end Go.Proofs.YtplmflgmfffdhaaDoor
