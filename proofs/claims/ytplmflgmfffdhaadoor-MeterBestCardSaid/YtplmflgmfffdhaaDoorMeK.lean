/-
  Floats as numbers: the order of words is that of their keys.
-/
import Ieee.Arith
namespace Go.Proofs.YtplmflgmfffdhaaDoor
open Ieee
set_option linter.unusedVariables false

/-- what a rung stands for, in units of the least place -/
def valR (r : Nat) : Nat := if r < 4503599627370496 then r else (4503599627370496 + r % 4503599627370496) * 2 ^ (r / 4503599627370496 - 1)
theorem valR_step (r : Nat) : valR r < valR (r + 1) := by
  obtain ⟨B, hB⟩ : ∃ B, (4503599627370496 : Nat) = B := ⟨_, rfl⟩
  have hp : 0 < B := by omega
  unfold valR
  rw [hB]
  by_cases h1 : r + 1 < B
  · rw [if_pos h1, if_pos (by omega)]
    omega
  · rw [if_neg h1]
    by_cases h0 : r < B
    · rw [if_pos h0]
      obtain rfl : B = r + 1 := by omega
      rw [Nat.mod_self, Nat.div_self (by omega)]
      simp
    · rw [if_neg h0]
      have hd := Nat.div_add_mod r B
      have hm := Nat.mod_lt r hp
      have hq : 1 ≤ r / B := (Nat.one_le_div_iff hp).2 (by omega)
      obtain ⟨q, hqe⟩ : ∃ q, r / B = q + 1 := ⟨r / B - 1, by omega⟩
      by_cases hl : r % B + 1 < B
      · have e1 : (r + 1) / B = r / B := by
          rw [Nat.div_eq_of_lt_le (k := r / B)]
          · rw [Nat.mul_comm]; omega
          · rw [Nat.succ_mul, Nat.mul_comm]; omega
        have e2 : (r + 1) % B = r % B + 1 := by
          have := Nat.div_add_mod (r + 1) B
          rw [e1] at this
          omega
        rw [e1, e2]
        exact Nat.mul_lt_mul_of_pos_right (by omega) (Nat.pow_pos (by omega))
      · have e1 : (r + 1) / B = r / B + 1 := by
          rw [Nat.div_eq_of_lt_le (k := r / B + 1)]
          · rw [Nat.succ_mul, Nat.mul_comm]; omega
          · rw [Nat.succ_mul, Nat.succ_mul, Nat.mul_comm]; omega
        have e2 : (r + 1) % B = 0 := by
          have := Nat.div_add_mod (r + 1) B
          rw [e1, Nat.mul_add] at this
          omega
        rw [e1, e2, hqe]
        show _ < (B + 0) * 2 ^ (q + 1 + 1 - 1)
        rw [show q + 1 + 1 - 1 = q + 1 by omega, show q + 1 - 1 = q by omega, Nat.pow_succ]
        have hpw : 0 < 2 ^ q := Nat.pow_pos (by omega)
        rw [show (B + 0) * (2 ^ q * 2) = (2 * B) * 2 ^ q by rw [Nat.add_zero, Nat.mul_comm (2 ^ q) 2, ← Nat.mul_assoc, Nat.mul_comm B 2]]
        exact Nat.mul_lt_mul_of_pos_right (by omega) hpw
theorem valR_mono {r s : Nat} (h : r < s) : valR r < valR s := by
  induction s with
  | zero => omega
  | succ s ih =>
    by_cases e : r = s
    · subst e
      exact valR_step r
    · exact Nat.lt_trans (ih (by omega)) (valR_step s)
theorem valR_inj {r s : Nat} (h : valR r = valR s) : r = s := by
  rcases Nat.lt_trichotomy r s with h1 | h1 | h1
  · have := valR_mono h1; omega
  · exact h1
  · have := valR_mono h1; omega
theorem valR_zero : valR 0 = 0 := by decide

def sgn (a : Nat) : Bool := a / 9223372036854775808 % 2 == 1
def rung (a : Nat) : Nat := a % 9223372036854775808
def infR : Nat := 9218868437227405312
/-- the number that a word stands for -/
def sv (a : Nat) : Int := if sgn a then -(valR (rung a) : Int) else (valR (rung a) : Int)
theorem read_nan {a : Nat} (h : infR < rung a) : ∃ g f, double.read a = .nan g f := by
  unfold infR rung at h
  unfold Format.read
  have e1 : double.signWeight = 9223372036854775808 := by decide
  have e2 : double.binade = 4503599627370496 := by decide
  have e3 : double.infRung = 9218868437227405312 := by decide
  simp only [e1, e2, e3]
  rw [if_neg (by omega), if_neg (by omega), if_neg (by omega)]
  exact ⟨_, _, rfl⟩
theorem read_inf {a : Nat} (h : rung a = infR) : double.read a = .infinity (sgn a) := by
  unfold infR rung at h
  unfold Format.read
  have e1 : double.signWeight = 9223372036854775808 := by decide
  have e2 : double.binade = 4503599627370496 := by decide
  have e3 : double.infRung = 9218868437227405312 := by decide
  simp only [e1, e2, e3]
  rw [if_neg (by omega), if_neg (by omega), if_pos (by omega)]
  rfl
/-- a number's datum: its value is that of its rung -/
theorem read_num {a : Nat} (h : rung a < infR) : ∃ (m : Nat) (k : Nat), double.read a = .number (sgn a) m (-1074 + (k : Int)) ∧ m * 2 ^ k = valR (rung a) := by
  unfold infR at h
  have hr : rung a = a % 9223372036854775808 := rfl
  unfold Format.read
  have e1 : double.signWeight = 9223372036854775808 := by decide
  have e2 : double.binade = 4503599627370496 := by decide
  have e3 : double.infRung = 9218868437227405312 := by decide
  have e4 : double.leastPlace = -1074 := by decide
  simp only [e1, e2, e3, e4]
  rw [← hr]
  unfold valR
  by_cases h0 : rung a < 4503599627370496
  · rw [if_pos h0, if_pos h0]
    exact ⟨rung a, 0, rfl, by simp⟩
  · rw [if_neg h0, if_neg h0, if_pos h]
    exact ⟨_, rung a / 4503599627370496 - 1, rfl, rfl⟩
theorem signed_mul (s : Bool) (m k c : Nat) : signed s m (k + c) = signed s m k * (2 ^ c : Nat) := by
  unfold signed
  rw [Nat.shiftLeft_eq, Nat.shiftLeft_eq, Nat.pow_add, ← Nat.mul_assoc]
  cases s
  · simp
  · simp [Int.neg_mul]
theorem cmpI (x y : Int) : compare x y = if x < y then .lt else if x = y then .eq else .gt := rfl
theorem cmp_mul (x y : Int) (c : Nat) (hc : 0 < c) : compare (x * (c : Int)) (y * (c : Int)) = compare x y := by
  have hc' : (0 : Int) < c := by omega
  rw [cmpI, cmpI]
  rcases Int.lt_trichotomy x y with h | h | h
  · have := Int.mul_lt_mul_of_pos_right h hc'
    rw [if_pos h, if_pos this]
  · subst h; simp
  · have := Int.mul_lt_mul_of_pos_right h hc'
    rw [if_neg (by omega), if_neg (by omega), if_neg (by omega), if_neg (by omega)]
/-- finite words: by their values -/
theorem sv_signed {a : Nat} {m k : Nat} (h : m * 2 ^ k = valR (rung a)) : sv a = signed (sgn a) m k := by
  unfold sv signed
  rw [Nat.shiftLeft_eq, h]
theorem cmp_num {a b : Nat} (ha : rung a < infR) (hb : rung b < infR) : double.order a b = some (compare (sv a) (sv b)) := by
  obtain ⟨m, k, e1, v1⟩ := read_num ha
  obtain ⟨n, j, e2, v2⟩ := read_num hb
  unfold Format.order
  rw [e1, e2]
  show some (compare (signed (sgn a) m ((-1074 + (k : Int)) - min (-1074 + (k : Int)) (-1074 + (j : Int))).toNat) (signed (sgn b) n ((-1074 + (j : Int)) - min (-1074 + (k : Int)) (-1074 + (j : Int))).toNat)) = _
  rw [sv_signed v1, sv_signed v2]
  rcases Nat.le_total k j with h | h
  · rw [show ((-1074 + (k : Int)) - min (-1074 + (k : Int)) (-1074 + (j : Int))).toNat = 0 by omega, show ((-1074 + (j : Int)) - min (-1074 + (k : Int)) (-1074 + (j : Int))).toNat = j - k by omega]
    have h1 := signed_mul (sgn a) m 0 k
    have h2 := signed_mul (sgn b) n (j - k) k
    rw [Nat.zero_add] at h1
    rw [show j - k + k = j by omega] at h2
    rw [h1, h2, cmp_mul _ _ _ (Nat.pow_pos (by omega))]
  · rw [show ((-1074 + (k : Int)) - min (-1074 + (k : Int)) (-1074 + (j : Int))).toNat = k - j by omega, show ((-1074 + (j : Int)) - min (-1074 + (k : Int)) (-1074 + (j : Int))).toNat = 0 by omega]
    have h1 := signed_mul (sgn a) m (k - j) j
    have h2 := signed_mul (sgn b) n 0 j
    rw [Nat.zero_add] at h2
    rw [show k - j + j = k by omega] at h1
    rw [h1, h2, cmp_mul _ _ _ (Nat.pow_pos (by omega))]
theorem sv_bounds {a : Nat} (h : rung a < infR) : -(valR infR : Int) < sv a ∧ sv a < (valR infR : Int) := by
  have := valR_mono h
  unfold sv
  split <;> omega
theorem sv_inf {a : Nat} (h : rung a = infR) : sv a = if sgn a then -(valR infR : Int) else (valR infR : Int) := by
  unfold sv
  rw [h]
/-- words that are numbers: by their values -/
theorem cmp_key {a b : Nat} (ha : rung a ≤ infR) (hb : rung b ≤ infR) : double.order a b = some (compare (sv a) (sv b)) := by
  rcases Nat.lt_or_ge (rung a) infR with h1 | h1
  · rcases Nat.lt_or_ge (rung b) infR with h2 | h2
    · exact cmp_num h1 h2
    · have e2 := sv_inf (a := b) (by omega)
      obtain ⟨m, k, e1, -⟩ := read_num h1
      have hbd := sv_bounds h1
      unfold Format.order
      rw [e1, read_inf (a := b) (by omega), e2]
      show some (if sgn b then Ordering.gt else Ordering.lt) = _
      cases sgn b
      · simp only [Bool.false_eq_true, if_false]
        rw [cmpI, if_pos hbd.2]
      · simp only [if_true]
        rw [cmpI, if_neg (by omega), if_neg (by omega)]
  · have e1 := sv_inf (a := a) (by omega)
    rcases Nat.lt_or_ge (rung b) infR with h2 | h2
    · obtain ⟨m, k, e2, -⟩ := read_num h2
      have hbd := sv_bounds h2
      unfold Format.order
      rw [e2, read_inf (a := a) (by omega), e1]
      show some (if sgn a then Ordering.lt else Ordering.gt) = _
      cases sgn a
      · simp only [Bool.false_eq_true, if_false]
        rw [cmpI, if_neg (by omega), if_neg (by omega)]
      · simp only [if_true]
        rw [cmpI, if_pos hbd.1]
    · have e2 := sv_inf (a := b) (by omega)
      have hp : 0 < valR infR := by have := valR_mono (show 0 < infR by decide); omega
      unfold Format.order
      rw [read_inf (a := a) (by omega), read_inf (a := b) (by omega), e1, e2]
      show some (compare (sgn b).toNat (sgn a).toNat) = _
      cases sgn a <;> cases sgn b <;> simp only [Bool.false_eq_true, if_false, if_true]
      · rw [cmpI, if_neg (by omega), if_pos rfl]; rfl
      · rw [cmpI, if_neg (by omega), if_neg (by omega)]; rfl
      · rw [cmpI, if_pos (by omega)]; rfl
      · rw [cmpI, if_neg (by omega), if_pos rfl]; rfl
theorem cmp_nan_l {a b : Nat} (h : infR < rung a) : double.order a b = none := by
  obtain ⟨g, f, e⟩ := read_nan h
  unfold Format.order
  rw [e]
  rfl
theorem cmp_nan_r {a b : Nat} (h : infR < rung b) : double.order a b = none := by
  obtain ⟨g, f, e⟩ := read_nan h
  unfold Format.order
  rw [e]
  cases double.read a <;> rfl
end Go.Proofs.YtplmflgmfffdhaaDoor
