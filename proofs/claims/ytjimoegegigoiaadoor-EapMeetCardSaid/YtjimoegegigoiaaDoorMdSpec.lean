/-
  Plain: the digest of RFC 1321, in whole numbers.
-/
import Derived.Test.YtjimoegegigoiaaDoorMath
import Derived.Laws.BitsAllLaws
namespace Go.Proofs.YtjimoegegigoiaaDoor
open Go.RowKit
set_option linter.unusedSimpArgs false
set_option linter.unusedVariables false

/-- the sixty-four k -/
def mdK : List Int := [3614090360, 3905402710, 606105819, 3250441966, 4118548399, 1200080426, 2821735955, 4249261313, 1770035416, 2336552879, 4294925233, 2304563134, 1804603682, 4254626195, 2792965006, 1236535329, 4129170786, 3225465664, 643717713, 3921069994, 3593408605, 38016083, 3634488961, 3889429448, 568446438, 3275163606, 4107603335, 1163531501, 2850285829, 4243563512, 1735328473, 2368359562, 4294588738, 2272392833, 1839030562, 4259657740, 2763975236, 1272893353, 4139469664, 3200236656, 681279174, 3936430074, 3572445317, 76029189, 3654602809, 3873151461, 530742520, 3299628645, 4096336452, 1126891415, 2878612391, 4237533241, 1700485571, 2399980690, 4293915773, 2240044497, 1873313359, 4264355552, 2734768916, 1309151649, 4149444226, 3174756917, 718787259, 3951481745]
/-- by how many bits the steps turn: four again and again, of four rows -/
def mdS : List Int := [7, 12, 17, 22, 5, 9, 14, 20, 4, 11, 16, 23, 6, 10, 15, 21]
structure W4 where
  a : Int
  b : Int
  c : Int
  d : Int
def W4.ok (w : W4) : Prop := (0 ≤ w.a ∧ w.a ≤ 4294967295) ∧ (0 ≤ w.b ∧ w.b ≤ 4294967295) ∧ (0 ≤ w.c ∧ w.c ≤ 4294967295) ∧ (0 ≤ w.d ∧ w.d ≤ 4294967295)
def inv32 (x : Int) : Int := bits .xor .u32 4294967295 x
def mdF (r : Nat) (b c d : Int) : Int :=
  match r with
  | 0 => bits .or .u32 (bits .and .u32 b c) (bits .and .u32 (inv32 b) d)
  | 1 => bits .or .u32 (bits .and .u32 d b) (bits .and .u32 (inv32 d) c)
  | 2 => bits .xor .u32 (bits .xor .u32 b c) d
  | _ => bits .xor .u32 c (bits .or .u32 b (inv32 d))
def mdG (r i : Nat) : Nat :=
  match r with
  | 0 => i
  | 1 => 5 * i + 1
  | 2 => 3 * i + 5
  | _ => 7 * i
def mdRot (t : Int) (n : Nat) : Int := bits .or .u32 (t * 2 ^ n % 4294967296) (t / 2 ^ (32 - n))
def mdTurn (i : Nat) : Nat := (mdS.getD (i / 16 * 4 + i % 4) 0).toNat
def mdT (x : Nat → Int) (i : Nat) (w : W4) : Int := (((w.a + mdF (i / 16) w.b w.c w.d) % 4294967296 + mdK.getD i 0) % 4294967296 + x (mdG (i / 16) i % 16)) % 4294967296
def mdStep (x : Nat → Int) (i : Nat) (w : W4) : W4 := ⟨w.d, (w.b + mdRot (mdT x i w) (mdTurn i)) % 4294967296, w.b, w.c⟩
def mdSteps (x : Nat → Int) : Nat → W4 → W4
  | 0, w => w
  | n + 1, w => mdStep x n (mdSteps x n w)
def mdAdd (w v : W4) : W4 := ⟨(w.a + v.a) % 4294967296, (w.b + v.b) % 4294967296, (w.c + v.c) % 4294967296, (w.d + v.d) % 4294967296⟩
def mdBlock (x : Nat → Int) (w : W4) : W4 := mdAdd w (mdSteps x 64 w)
theorem mdAdd_ok (w v : W4) : (mdAdd w v).ok := by
  unfold mdAdd W4.ok
  dsimp only
  omega
theorem mdStep_ok {x : Nat → Int} {i : Nat} {w : W4} (h : w.ok) : (mdStep x i w).ok := by
  unfold mdStep W4.ok at *
  dsimp only
  omega
theorem mdSteps_ok {x : Nat → Int} : ∀ n {w : W4}, w.ok → (mdSteps x n w).ok
  | 0, _, h => h
  | n + 1, _, h => mdStep_ok (mdSteps_ok n h)
/-- the word at place j of bytes, the lowest byte first -/
def mdWord (l : List UInt8) (j : Nat) : Int := byteAt l (4 * j) + 256 * byteAt l (4 * j + 1) + 65536 * byteAt l (4 * j + 2) + 16777216 * byteAt l (4 * j + 3)
theorem mdWord_ok (l : List UInt8) (j : Nat) : 0 ≤ mdWord l j ∧ mdWord l j ≤ 4294967295 := by
  have a0 := byteAt_lo l (4 * j)
  have a1 := byteAt_lo l (4 * j + 1)
  have a2 := byteAt_lo l (4 * j + 2)
  have a3 := byteAt_lo l (4 * j + 3)
  have b0 := byteAt_hi l (4 * j)
  have b1 := byteAt_hi l (4 * j + 1)
  have b2 := byteAt_hi l (4 * j + 2)
  have b3 := byteAt_hi l (4 * j + 3)
  unfold mdWord
  omega
def mdBegin : W4 := ⟨1732584193, 4023233417, 2562383102, 271733878⟩
/-- the words behind n whole blocks of l -/
def mdOver (l : List UInt8) : Nat → W4
  | 0 => mdBegin
  | n + 1 => mdBlock (mdWord (l.drop (64 * n))) (mdOver l n)
/-- byte k of the digest -/
def mdByte (w : W4) (k : Nat) : Int := (match k / 4 with | 0 => w.a | 1 => w.b | 2 => w.c | _ => w.d) / 2 ^ (8 * (k % 4)) % 256
def mdBytes (w : W4) : List UInt8 := (List.range 16).map fun k => UInt8.ofNat (mdByte w k).toNat
/-- bytes filled up -/
def mdPad (l : List UInt8) : List UInt8 :=
  l ++ [128] ++ List.replicate ((119 - l.length % 64) % 64) 0 ++ (List.range 8).map fun k => UInt8.ofNat ((8 * l.length / 2 ^ (8 * k)) % 256)
def mdSum (l : List UInt8) : List UInt8 := mdBytes (mdOver (mdPad l) ((mdPad l).length / 64))
end Go.Proofs.YtjimoegegigoiaaDoor
