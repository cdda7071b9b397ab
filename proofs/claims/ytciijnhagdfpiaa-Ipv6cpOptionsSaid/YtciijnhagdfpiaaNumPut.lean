/-
  Numbers as bytes, there and back.
-/
import Derived.Test.YtciijnhagdfpiaaMath
namespace Go.Proofs.Ytciijnhagdfpiaa
open Go.RowKit
set_option maxRecDepth 100000
set_option linter.unusedSimpArgs false
set_option linter.unusedVariables false

theorem num_snoc (L : List UInt8) (c : UInt8) : num (L ++ [c]) (L.length + 1) = num L L.length * 256 + (c.toNat : Int) := by
  show num (L ++ [c]) L.length * 256 + byteAt (L ++ [c]) L.length = _
  rw [num_congr (L ++ [c]) L L.length (fun j hj => by
    unfold byteAt
    rw [List.getD_eq_getElem?_getD, List.getD_eq_getElem?_getD, List.getElem?_append_left hj])]
  congr 1
  rw [byteAt_eq _ _ (by simp)]
  simp
theorem num_putB : ∀ (k m : Nat), m < 256 ^ k → num (putB m k) k = (m : Int)
  | 0, m, h => by
    obtain rfl : m = 0 := by simpa using h
    rfl
  | k + 1, m, h => by
    have ih := num_putB k (m / 256) (by rw [Nat.pow_succ] at h; omega)
    have e := num_snoc (putB (m / 256) k) (UInt8.ofNat (m % 256))
    rw [putB_length, ih] at e
    rw [putB, e, UInt8.toNat_ofNat']
    omega
theorem putB_num : ∀ (L : List UInt8), putB (num L L.length).toNat L.length = L := by
  intro L
  generalize hk : L.length = k
  induction k generalizing L with
  | zero => rw [List.eq_nil_of_length_eq_zero hk]; rfl
  | succ k ih =>
    obtain ⟨M, c, rfl⟩ : ∃ M c, L = M ++ [c] := ⟨L.dropLast, L.getLast (by intro e; rw [e] at hk; cases hk), (List.dropLast_concat_getLast _).symm⟩
    have hM : M.length = k := by simpa using hk
    have e := num_snoc M c
    rw [hM] at e
    have h0 := num_lo M k
    have hc := c.toNat_lt
    have e1 : (num (M ++ [c]) (k + 1)).toNat / 256 = (num M k).toNat := by omega
    have e2 : (num (M ++ [c]) (k + 1)).toNat % 256 = c.toNat := by omega
    rw [putB, e1, e2, ih M hM]
    simp
theorem byte_shr (x : Int) (q : Nat) (h : 0 ≤ x) : x / 2 ^ (8 * q) % 256 = ((UInt8.ofNat (x.toNat / 256 ^ q % 256)).toNat : Int) := by
  obtain ⟨m, rfl⟩ := Int.eq_ofNat_of_zero_le h
  rw [Int.toNat_natCast, UInt8.toNat_ofNat']
  have e : (2 : Int) ^ (8 * q) = ((256 ^ q : Nat) : Int) := by
    rw [Int.pow_mul]
    simp
  rw [e]
  have : ((m / 256 ^ q : Nat) : Int) = (m : Int) / ((256 ^ q : Nat) : Int) := by simp
  omega
theorem putB_next (m s q : Nat) (h : q < s) : putB (m / 256 ^ (q + 1)) (s - (q + 1)) ++ [UInt8.ofNat (m / 256 ^ q % 256)] = putB (m / 256 ^ q) (s - q) := by
  have e : s - q = (s - (q + 1)) + 1 := by omega
  rw [e, putB, Nat.pow_succ, Nat.div_div_eq_div_mul]
theorem num_below (l : List UInt8) (k : Nat) (h : k < 8) : num l k < 72057594037927936 := by
  have h1 := num_hi l k
  rcases (show k = 0 ∨ k = 1 ∨ k = 2 ∨ k = 3 ∨ k = 4 ∨ k = 5 ∨ k = 6 ∨ k = 7 by omega) with rfl | rfl | rfl | rfl | rfl | rfl | rfl | rfl <;> omega
end Go.Proofs.Ytciijnhagdfpiaa
