/-
  ccp: a frame's bytes, and the frame that has bytes, in numbers.
-/
import Derived.Test.YtlpboleclehilaaDoorOpList
namespace Go.Proofs.YtlpboleclehilaaDoor
open Go.RowKit
set_option maxRecDepth 100000
set_option maxHeartbeats 2000000
set_option linter.unusedSimpArgs false
set_option linter.unusedVariables false

/-- is it a protocol's number? -/
def prB (n : Int) : Bool := decide (0 < n) && decide (n ≤ 65535) && (n % 2 == 1) && (n / 256 % 2 == 0)
def byN (z : Int) : UInt8 := UInt8.ofNat (z % 256).toNat
/-- a number's bytes -/
def numL (p : Int) : List UInt8 := if p < 256 then [byN p] else [byN (p / 256), byN p]
def btE (p : Int) (n : Nat) : Int := if prB p = false then 30 else if 16384 < n then 4 else 0
def btL (p : Int) (l : List UInt8) : List UInt8 := if btE p l.length = 0 then numL p ++ l else []
def hdN : List UInt8 → Nat
  | [] => 1
  | a :: _ => if a.toNat % 2 = 1 then 1 else 2
def frP : List UInt8 → Int
  | [] => 0
  | a :: t => if a.toNat % 2 = 1 then a.toNat else match t with
    | [] => 0
    | b :: _ => a.toNat * 256 + b.toNat
def frE (l : List UInt8) : Int := if l.length < hdN l then 8 else if prB (frP l) = false then 30 else if 16384 < l.length - hdN l then 4 else 0
def frQ (l : List UInt8) : Int := if frE l = 0 then frP l else 0
def frL (l : List UInt8) : List UInt8 := if frE l = 0 then l.drop (hdN l) else []
theorem byN_nat (z : Int) : (byN z).toNat = (z % 256).toNat := by
  unfold byN
  have : (z % 256).toNat < 256 := by omega
  simp [UInt8.toNat_ofNat', Nat.mod_eq_of_lt this]
theorem and_257 (n : Nat) : n &&& 257 = 256 * (n / 256 % 2) + n % 2 := by
  apply Nat.eq_of_testBit_eq
  intro i
  have h : (256 * (n / 256 % 2) + n % 2) = 2 ^ 8 * (n / 256 % 2) + n % 2 := by omega
  rw [h, Nat.testBit_two_pow_mul_add _ (by omega), Nat.testBit_and]
  rcases Nat.lt_or_ge i 8 with h1 | h1
  · rw [if_pos h1]
    have : i = 0 ∨ i = 1 ∨ i = 2 ∨ i = 3 ∨ i = 4 ∨ i = 5 ∨ i = 6 ∨ i = 7 := by omega
    rcases this with rfl | rfl | rfl | rfl | rfl | rfl | rfl | rfl <;> simp [Nat.testBit_eq_decide_div_mod_eq] <;> omega
  · rw [if_neg (by omega)]
    rcases Nat.eq_or_lt_of_le h1 with rfl | h2
    · simp [Nat.testBit_eq_decide_div_mod_eq]
    · have e1 : (257 : Nat).testBit i = false := Nat.testBit_lt_two_pow (Nat.lt_of_lt_of_le (by decide : 257 < 2 ^ 9) (Nat.pow_le_pow_right (by decide) h2))
      have e2 : (n / 256 % 2).testBit (i - 8) = false := Nat.testBit_lt_two_pow (Nat.lt_of_lt_of_le (show n / 256 % 2 < 2 ^ 1 by omega) (Nat.pow_le_pow_right (by decide) (by omega)))
      rw [e1, e2]; simp
theorem numL_len (p : Int) : (numL p).length = if p < 256 then 1 else 2 := by unfold numL; split <;> rfl
theorem numL_two (p : Int) : (numL p).length ≤ 2 ∧ 1 ≤ (numL p).length := by unfold numL; split <;> simp
/-- what is made of a frame is that frame again -/
theorem fr_back {p : Int} {l : List UInt8} (h : btE p l.length = 0) : frE (numL p ++ l) = 0 ∧ frP (numL p ++ l) = p ∧ (numL p ++ l).drop (hdN (numL p ++ l)) = l := by
  unfold btE at h
  split at h
  · cases h
  rename_i hp
  split at h
  · cases h
  rename_i hn
  have hp : prB p = true := by simpa using hp
  have hq := hp
  unfold prB at hq
  simp only [Bool.and_eq_true, decide_eq_true_eq, beq_iff_eq] at hq
  obtain ⟨⟨⟨h1, h2⟩, h3⟩, h4⟩ := hq
  unfold numL
  by_cases hb : p < 256
  · rw [if_pos hb]
    have ha : (byN p).toNat = p.toNat := by rw [byN_nat]; omega
    have hd : hdN ([byN p] ++ l) = 1 := by
      show (if (byN p).toNat % 2 = 1 then 1 else 2) = 1
      rw [if_pos (by rw [ha]; omega)]
    have hf : frP ([byN p] ++ l) = p := by
      show (if (byN p).toNat % 2 = 1 then ((byN p).toNat : Int) else _) = p
      rw [if_pos (by rw [ha]; omega), ha]
      omega
    refine ⟨?_, hf, by rw [hd]; rfl⟩
    unfold frE
    rw [hf, hd, hp, if_neg (by simp), if_neg (by simp), if_neg (by simp; omega)]
  · rw [if_neg hb]
    have ha : (byN (p / 256)).toNat = (p / 256).toNat := by rw [byN_nat]; omega
    have hc : (byN p).toNat = (p % 256).toNat := byN_nat p
    have hd : hdN ([byN (p / 256), byN p] ++ l) = 2 := by
      show (if (byN (p / 256)).toNat % 2 = 1 then 1 else 2) = 2
      rw [if_neg (by rw [ha]; omega)]
    have hf : frP ([byN (p / 256), byN p] ++ l) = p := by
      show (if (byN (p / 256)).toNat % 2 = 1 then ((byN (p / 256)).toNat : Int) else ((byN (p / 256)).toNat : Int) * 256 + ((byN p).toNat : Int)) = p
      rw [if_neg (by rw [ha]; omega), ha, hc]
      omega
    refine ⟨?_, hf, by rw [hd]; rfl⟩
    unfold frE
    rw [hf, hd, hp, if_neg (by simp), if_neg (by simp), if_neg (by simp; omega)]
end Go.Proofs.YtlpboleclehilaaDoor
