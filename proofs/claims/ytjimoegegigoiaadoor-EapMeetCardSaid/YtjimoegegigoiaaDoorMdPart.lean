/-
  Plain: a block's sixteen words, byte by byte.
-/
import Derived.Test.YtjimoegegigoiaaDoorMdMore
namespace Go.Proofs.YtjimoegegigoiaaDoor
open Go.RowKit
set_option linter.unusedSimpArgs false
set_option linter.unusedVariables false

/-- what the first i bytes give to the word at place j -/
def pw (l : List UInt8) (i j : Nat) : Int :=
  (if 4 * j < i then byteAt l (4 * j) else 0) + 256 * (if 4 * j + 1 < i then byteAt l (4 * j + 1) else 0) + 65536 * (if 4 * j + 2 < i then byteAt l (4 * j + 2) else 0) + 16777216 * (if 4 * j + 3 < i then byteAt l (4 * j + 3) else 0)
theorem pw_zero (l : List UInt8) (j : Nat) : pw l 0 j = 0 := by simp [pw]
theorem pw_all (l : List UInt8) (j : Nat) (hj : j < 16) : pw l 64 j = mdWord l j := by
  unfold pw mdWord
  rw [if_pos (by omega), if_pos (by omega), if_pos (by omega), if_pos (by omega)]
theorem pw_other (l : List UInt8) (i j : Nat) (hj : j ≠ i / 4) : pw l (i + 1) j = pw l i j := by
  unfold pw
  have e : ∀ r, r < 4 → ((4 * j + r < i + 1) ↔ (4 * j + r < i)) := by
    intro r hr
    omega
  have e0 := e 0 (by omega)
  have e1 := e 1 (by omega)
  have e2 := e 2 (by omega)
  have e3 := e 3 (by omega)
  rw [Nat.add_zero] at e0
  simp only [e0, e1, e2, e3]
theorem pw_bounds (l : List UInt8) (i j : Nat) : 0 ≤ pw l i j ∧ pw l i j ≤ 4294967295 := by
  have a0 := byteAt_lo l (4 * j)
  have a1 := byteAt_lo l (4 * j + 1)
  have a2 := byteAt_lo l (4 * j + 2)
  have a3 := byteAt_lo l (4 * j + 3)
  have b0 := byteAt_hi l (4 * j)
  have b1 := byteAt_hi l (4 * j + 1)
  have b2 := byteAt_hi l (4 * j + 2)
  have b3 := byteAt_hi l (4 * j + 3)
  unfold pw
  constructor <;> (split <;> split <;> split <;> split <;> omega)
theorem or_join32 (A q : Int) (k : Nat) (h0 : 0 ≤ A) (hA : A < 2 ^ k) (hq0 : 0 ≤ q) (hs : A + q * 2 ^ k < 4294967296) : bits .or .u32 A (q * 2 ^ k % 4294967296) = A + q * 2 ^ k := by
  obtain ⟨a, rfl⟩ := Int.eq_ofNat_of_zero_le h0
  obtain ⟨b, rfl⟩ := Int.eq_ofNat_of_zero_le hq0
  have e : ((b : Int) * 2 ^ k) = ((b * 2 ^ k : Nat) : Int) := by push_cast; rfl
  rw [e] at hs ⊢
  have hA' : a < 2 ^ k := by
    have : ((a : Nat) : Int) < ((2 ^ k : Nat) : Int) := by push_cast; exact hA
    omega
  have e2 : ((b * 2 ^ k : Nat) : Int) % 4294967296 = ((b * 2 ^ k : Nat) : Int) := Int.emod_eq_of_lt (by omega) (by omega)
  rw [e2, u32_or_nat _ _ (by omega) (by omega), Nat.or_comm, nat_join k (b * 2 ^ k) a (Nat.mul_mod_left _ _) hA']
  omega
theorem pw_or (l : List UInt8) (i : Nat) : bits .or .u32 (pw l i (i / 4)) (byteAt l i * 2 ^ (8 * (i % 4)) % 4294967296) = pw l (i + 1) (i / 4) := by
  obtain ⟨j, hj⟩ : ∃ j, j = i / 4 := ⟨_, rfl⟩
  rw [← hj]
  have a0 := byteAt_lo l (4 * j)
  have a1 := byteAt_lo l (4 * j + 1)
  have a2 := byteAt_lo l (4 * j + 2)
  have a3 := byteAt_lo l (4 * j + 3)
  have b0 := byteAt_hi l (4 * j)
  have b1 := byteAt_hi l (4 * j + 1)
  have b2 := byteAt_hi l (4 * j + 2)
  have b3 := byteAt_hi l (4 * j + 3)
  rcases (show i = 4 * j ∨ i = 4 * j + 1 ∨ i = 4 * j + 2 ∨ i = 4 * j + 3 by omega) with h | h | h | h
  · have e1 : pw l i j = 0 := by unfold pw; rw [if_neg (by omega), if_neg (by omega), if_neg (by omega), if_neg (by omega)]; rfl
    have e2 : pw l (i + 1) j = byteAt l (4 * j) := by unfold pw; rw [if_pos (by omega), if_neg (by omega), if_neg (by omega), if_neg (by omega)]; omega
    rw [e1, e2, h, show 8 * (4 * j % 4) = 0 by omega, or_join32 _ _ _ (by omega) (by simp) a0 (by simp; omega)]
    simp
  · have e1 : pw l i j = byteAt l (4 * j) := by unfold pw; rw [if_pos (by omega), if_neg (by omega), if_neg (by omega), if_neg (by omega)]; omega
    have e2 : pw l (i + 1) j = byteAt l (4 * j) + 256 * byteAt l (4 * j + 1) := by unfold pw; rw [if_pos (by omega), if_pos (by omega), if_neg (by omega), if_neg (by omega)]; omega
    rw [e1, e2, h, show 8 * ((4 * j + 1) % 4) = 8 by omega, or_join32 _ _ _ (by omega) (by omega) a1 (by omega)]
    omega
  · have e1 : pw l i j = byteAt l (4 * j) + 256 * byteAt l (4 * j + 1) := by unfold pw; rw [if_pos (by omega), if_pos (by omega), if_neg (by omega), if_neg (by omega)]; omega
    have e2 : pw l (i + 1) j = byteAt l (4 * j) + 256 * byteAt l (4 * j + 1) + 65536 * byteAt l (4 * j + 2) := by unfold pw; rw [if_pos (by omega), if_pos (by omega), if_pos (by omega), if_neg (by omega)]; omega
    rw [e1, e2, h, show 8 * ((4 * j + 2) % 4) = 16 by omega, or_join32 _ _ _ (by omega) (by omega) a2 (by omega)]
    omega
  · have e1 : pw l i j = byteAt l (4 * j) + 256 * byteAt l (4 * j + 1) + 65536 * byteAt l (4 * j + 2) := by unfold pw; rw [if_pos (by omega), if_pos (by omega), if_pos (by omega), if_neg (by omega)]; omega
    have e2 : pw l (i + 1) j = byteAt l (4 * j) + 256 * byteAt l (4 * j + 1) + 65536 * byteAt l (4 * j + 2) + 16777216 * byteAt l (4 * j + 3) := by unfold pw; rw [if_pos (by omega), if_pos (by omega), if_pos (by omega), if_pos (by omega)]
    rw [e1, e2, h, show 8 * ((4 * j + 3) % 4) = 24 by omega, or_join32 _ _ _ (by omega) (by omega) a3 (by omega)]
    omega
/-- the sixteen words after i bytes -/
def partX (l : List UInt8) (i : Nat) : List Value := (List.range 16).map fun j => .int .u32 (pw l i j)
theorem partX_zero (l : List UInt8) : partX l 0 = List.replicate 16 (.int .u32 0) := by
  unfold partX
  simp only [pw_zero]
  rfl
theorem partX_at (l : List UInt8) (i j : Nat) (hj : j < 16) : (partX l i)[j]? = some (.int .u32 (pw l i j)) := by
  unfold partX
  rw [List.getElem?_map, List.getElem?_range hj]
  rfl
theorem partX_set (l : List UInt8) (i : Nat) (hi : i < 64) : (partX l i).set (i / 4) (.int .u32 (pw l (i + 1) (i / 4))) = partX l (i + 1) := by
  refine List.ext_getElem (by simp [partX]) fun j h1 h2 => ?_
  rw [List.getElem_set]
  simp only [partX, List.getElem_map, List.getElem_range]
  by_cases h : i / 4 = j
  · subst h
    rw [if_pos rfl]
  · rw [if_neg h, pw_other l i j (fun e => h e.symm)]
/-- sixteen words, as a loop is handed them -/
abbrev X16 := { x : Nat → Int // ∀ i, i < 16 → 0 ≤ x i ∧ x i ≤ 4294967295 }
def agg16 (x : Nat → Int) : Value := .agg #[.int .u32 (x 0), .int .u32 (x 1), .int .u32 (x 2), .int .u32 (x 3), .int .u32 (x 4), .int .u32 (x 5), .int .u32 (x 6), .int .u32 (x 7), .int .u32 (x 8), .int .u32 (x 9), .int .u32 (x 10), .int .u32 (x 11), .int .u32 (x 12), .int .u32 (x 13), .int .u32 (x 14), .int .u32 (x 15)]
def encX (x : X16) : Array Value := #[agg16 x.1]
def blkX (l : List UInt8) (k : Nat) : X16 := ⟨mdWord (l.drop (64 * k)), fun i _ => mdWord_ok _ _⟩
def uptoX (l : List UInt8) (k : Nat) : List X16 := (List.range k).map (blkX l)
theorem uptoX_succ (l : List UInt8) (k : Nat) : uptoX l (k + 1) = uptoX l k ++ [blkX l k] := by simp [uptoX, List.range_succ]
theorem uptoX_length (l : List UInt8) (k : Nat) : (uptoX l k).length = k := by simp [uptoX]
/-- the words behind some blocks -/
def wordsX (v : W4) (xs : List X16) : W4 := xs.foldl (fun v x => mdBlock x.1 v) v
theorem wordsX_snoc (v : W4) (xs : List X16) (x : X16) : wordsX v (xs ++ [x]) = mdBlock x.1 (wordsX v xs) := by simp [wordsX]
theorem wordsX_upto (v : W4) (l : List UInt8) : ∀ k, wordsX v (uptoX l k) = mdFrom v l k
  | 0 => rfl
  | k + 1 => by rw [uptoX_succ, wordsX_snoc, wordsX_upto v l k]; rfl
theorem wordsX_ok {v : W4} (h : v.ok) (xs : List X16) : (wordsX v xs).ok := by
  induction xs generalizing v with
  | nil => exact h
  | cons x xs ih => exact ih (mdAdd_ok _ _)
end Go.Proofs.YtjimoegegigoiaaDoor
