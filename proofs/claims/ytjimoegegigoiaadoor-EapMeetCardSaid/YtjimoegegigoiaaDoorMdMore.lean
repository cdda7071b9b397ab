/-
  Plain: the words over blocks from any words on; a digest is finished from the words behind the whole blocks.
-/
import Derived.Test.YtjimoegegigoiaaDoorMdPad
namespace Go.Proofs.YtjimoegegigoiaaDoor
open Go.RowKit
set_option linter.unusedSimpArgs false
set_option linter.unusedVariables false

/-- the words behind n whole blocks of l, from v on -/
def mdFrom (v : W4) (l : List UInt8) : Nat → W4
  | 0 => v
  | n + 1 => mdBlock (mdWord (l.drop (64 * n))) (mdFrom v l n)
theorem mdOver_from (l : List UInt8) : ∀ n, mdOver l n = mdFrom mdBegin l n
  | 0 => rfl
  | n + 1 => by
    show mdBlock _ (mdOver l n) = mdBlock _ (mdFrom mdBegin l n)
    rw [mdOver_from l n]
theorem mdFrom_ok {v : W4} (l : List UInt8) (h : v.ok) : ∀ n, (mdFrom v l n).ok
  | 0 => h
  | n + 1 => mdAdd_ok _ _
theorem mdStep_congr {x y : Nat → Int} (h : ∀ i, i < 16 → x i = y i) (i : Nat) (w : W4) : mdStep x i w = mdStep y i w := by
  unfold mdStep mdT
  rw [h _ (Nat.mod_lt _ (by omega))]
theorem mdSteps_congr {x y : Nat → Int} (h : ∀ i, i < 16 → x i = y i) (w : W4) : ∀ n, mdSteps x n w = mdSteps y n w
  | 0 => rfl
  | n + 1 => by
    show mdStep x n _ = mdStep y n _
    rw [mdSteps_congr h w n, mdStep_congr h]
theorem mdBlock_congr {x y : Nat → Int} (h : ∀ i, i < 16 → x i = y i) (w : W4) : mdBlock x w = mdBlock y w := by
  unfold mdBlock
  rw [mdSteps_congr h]
theorem byteAt_drop (l : List UInt8) (a i : Nat) : byteAt (l.drop a) i = byteAt l (a + i) := by
  unfold byteAt
  rw [List.getD_eq_getElem?_getD, List.getD_eq_getElem?_getD, List.getElem?_drop]
theorem mdWord_congr {l m : List UInt8} (h : ∀ i, i < 64 → byteAt l i = byteAt m i) (j : Nat) (hj : j < 16) : mdWord l j = mdWord m j := by
  unfold mdWord
  rw [h (4 * j) (by omega), h (4 * j + 1) (by omega), h (4 * j + 2) (by omega), h (4 * j + 3) (by omega)]
theorem mdFrom_congr (v : W4) {l m : List UInt8} : ∀ k, (∀ i, i < 64 * k → byteAt l i = byteAt m i) → mdFrom v l k = mdFrom v m k
  | 0, _ => rfl
  | k + 1, h => by
    show mdBlock _ (mdFrom v l k) = mdBlock _ (mdFrom v m k)
    rw [mdFrom_congr v k (fun i hi => h i (by omega))]
    refine mdBlock_congr (mdWord_congr fun i hi => ?_) _
    rw [byteAt_drop, byteAt_drop]
    exact h _ (by omega)
theorem mdFrom_add (v : W4) (l : List UInt8) (j : Nat) : ∀ k, mdFrom v l (j + k) = mdFrom (mdFrom v l j) (l.drop (64 * j)) k
  | 0 => rfl
  | k + 1 => by
    show mdBlock _ (mdFrom v l (j + k)) = mdBlock _ (mdFrom _ (l.drop (64 * j)) k)
    rw [mdFrom_add v l j k, List.drop_drop, show 64 * j + 64 * k = 64 * (j + k) by omega]
    rfl
theorem byteAt_app (l m : List UInt8) (i : Nat) (h : i < l.length) : byteAt (l ++ m) i = byteAt l i := by
  unfold byteAt
  rw [List.getD_eq_getElem?_getD, List.getD_eq_getElem?_getD, List.getElem?_append_left h]
/-- rest filled up, k bytes of the size n of all -/
def lastAt (rest : List UInt8) (n k : Nat) : List UInt8 := padAt rest (padN rest.length) ++ (List.range k).map (sizeByte n)
theorem lastAt_zero (l : List UInt8) (n : Nat) : lastAt l n 0 = padAt l (padN l.length) := by simp [lastAt]
theorem lastAt_next (l : List UInt8) (n k : Nat) : lastAt l n (k + 1) = lastAt l n k ++ [sizeByte n k] := by
  unfold lastAt
  rw [List.range_succ, List.map_append, ← List.append_assoc]
  rfl
theorem lastAt_length (l : List UInt8) (n k : Nat) : (lastAt l n k).length = l.length + 1 + padN l.length + k := by
  unfold lastAt
  rw [List.length_append, padAt_length, List.length_map, List.length_range]
theorem lastAt_whole (l : List UInt8) (n : Nat) : (lastAt l n 8).length % 64 = 0 := by
  rw [lastAt_length]
  unfold padN
  omega
theorem mdPad_cut (l : List UInt8) : (mdPad l).drop (64 * (l.length / 64)) = lastAt (l.drop (64 * (l.length / 64))) l.length 8 := by
  have e : padN (l.drop (64 * (l.length / 64))).length = padN l.length := by
    rw [List.length_drop]
    unfold padN
    have : (l.length - 64 * (l.length / 64)) % 64 = l.length % 64 := by omega
    rw [this]
  unfold lastAt
  rw [e, mdPad_eq]
  unfold sizeAtL padAt
  rw [List.append_assoc, List.append_assoc, List.drop_append_of_le_length (by omega), List.append_assoc, List.append_assoc]
/-- what a digest ends with: the last words, from the words v behind the whole blocks -/
def mdEnd (v : W4) (rest : List UInt8) (n : Nat) : W4 := mdFrom v (lastAt rest n 8) ((lastAt rest n 8).length / 64)
theorem mdEnd_ok {v : W4} (h : v.ok) (rest : List UInt8) (n : Nat) : (mdEnd v rest n).ok := mdFrom_ok _ h _
theorem mdOver_end (l : List UInt8) : mdOver (mdPad l) ((mdPad l).length / 64) = mdEnd (mdOver l (l.length / 64)) (l.drop (64 * (l.length / 64))) l.length := by
  have hl := mdPad_length l
  have hd := mdPad_cut l
  have hlen : (lastAt (l.drop (64 * (l.length / 64))) l.length 8).length = (mdPad l).length - 64 * (l.length / 64) := by rw [← hd, List.length_drop]
  have hw := mdPad_whole l
  unfold mdEnd
  rw [hlen, ← hd, show (mdPad l).length / 64 = l.length / 64 + ((mdPad l).length - 64 * (l.length / 64)) / 64 by omega, mdOver_from, mdFrom_add, mdOver_from]
  congr 1
  refine mdFrom_congr _ _ fun i hi => ?_
  rw [mdPad_eq]
  unfold sizeAtL padAt
  rw [List.append_assoc, List.append_assoc]
  exact byteAt_app _ _ _ (by omega)
end Go.Proofs.YtjimoegegigoiaaDoor
