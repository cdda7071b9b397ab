/-
  Plain: how bytes are filled up, step by step.
-/
import Derived.Test.YtjimoegegigoiaaDoorMdSpec
namespace Go.Proofs.YtjimoegegigoiaaDoor
open Go.RowKit
set_option linter.unusedSimpArgs false
set_option linter.unusedVariables false

def padN (n : Nat) : Nat := (119 - n % 64) % 64
theorem padN_lt (n : Nat) : padN n < 64 := Nat.mod_lt _ (by omega)
theorem pad_more (n j : Nat) (hj : j < padN n) : (n + 1 + j) % 64 ≠ 56 := by unfold padN at hj; omega
theorem pad_done (n : Nat) : (n + 1 + padN n) % 64 = 56 := by unfold padN; omega
def padAt (l : List UInt8) (j : Nat) : List UInt8 := l ++ [128] ++ List.replicate j 0
theorem padAt_zero (l : List UInt8) : padAt l 0 = l ++ [128] := by simp [padAt]
theorem padAt_next (l : List UInt8) (j : Nat) : padAt l (j + 1) = padAt l j ++ [0] := by
  unfold padAt
  rw [List.replicate_succ', List.append_assoc _ (List.replicate j 0)]
theorem padAt_length (l : List UInt8) (j : Nat) : (padAt l j).length = l.length + 1 + j := by
  simp [padAt]
  omega
def sizeByte (n k : Nat) : UInt8 := UInt8.ofNat ((8 * n / 2 ^ (8 * k)) % 256)
theorem sizeByte_nat (n k : Nat) : (sizeByte n k).toNat = 8 * n / 2 ^ (8 * k) % 256 := by
  unfold sizeByte
  rw [UInt8.toNat_ofNat']
  omega
theorem sizeByte_int (n k : Nat) : ((sizeByte n k).toNat : Int) = (8 * (n : Int)) / 2 ^ (8 * k) % 256 := by
  rw [sizeByte_nat, Int.natCast_emod, Int.natCast_ediv, Int.natCast_mul, Int.natCast_pow]
  rfl
def sizeAtL (l : List UInt8) (k : Nat) : List UInt8 := padAt l (padN l.length) ++ (List.range k).map (sizeByte l.length)
theorem sizeAt_zero (l : List UInt8) : sizeAtL l 0 = padAt l (padN l.length) := by simp [sizeAtL]
theorem sizeAt_next (l : List UInt8) (k : Nat) : sizeAtL l (k + 1) = sizeAtL l k ++ [sizeByte l.length k] := by
  unfold sizeAtL
  rw [List.range_succ, List.map_append, List.append_assoc]
  rfl
theorem sizeAt_length (l : List UInt8) (k : Nat) : (sizeAtL l k).length = l.length + 1 + padN l.length + k := by
  unfold sizeAtL
  rw [List.length_append, padAt_length, List.length_map, List.length_range]
theorem mdPad_eq (l : List UInt8) : mdPad l = sizeAtL l 8 := rfl
theorem mdPad_length (l : List UInt8) : (mdPad l).length = l.length + 9 + padN l.length := by rw [mdPad_eq, sizeAt_length]; omega
theorem mdPad_whole (l : List UInt8) : (mdPad l).length % 64 = 0 := by
  have h := pad_done l.length
  rw [mdPad_length]
  omega
theorem mdPad_div (l : List UInt8) : 64 * ((mdPad l).length / 64) = (mdPad l).length := by
  have h := mdPad_whole l
  omega
theorem mdOver_ok (l : List UInt8) : ∀ n, (mdOver l n).ok
  | 0 => by unfold mdOver mdBegin W4.ok; dsimp only; omega
  | n + 1 => mdAdd_ok _ _
end Go.Proofs.YtjimoegegigoiaaDoor
