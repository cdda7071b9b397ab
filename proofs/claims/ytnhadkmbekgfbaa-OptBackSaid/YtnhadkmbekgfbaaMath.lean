/-
  Plain arithmetic: the number that bytes stand for, highest first; 'or' of numbers whose bits do not meet.
-/
import Derived.Test.YtnhadkmbekgfbaaWords
import Derived.Laws.BitsAllLaws
namespace Go.Proofs.Ytnhadkmbekgfbaa
open Go.RowKit
set_option linter.unusedSimpArgs false

/-- the number of the first k bytes of l, the highest first -/
def num (l : List UInt8) : Nat → Int
  | 0 => 0
  | k + 1 => num l k * 256 + byteAt l k

theorem num_lo (l : List UInt8) : ∀ k, 0 ≤ num l k
  | 0 => Int.le_refl 0
  | k + 1 => by
    have := num_lo l k
    have := byteAt_lo l k
    show 0 ≤ num l k * 256 + byteAt l k
    omega
theorem num_hi (l : List UInt8) : ∀ k, num l k < 256 ^ k
  | 0 => by simp [num]
  | k + 1 => by
    have h := num_hi l k
    have := byteAt_hi l k
    show num l k * 256 + byteAt l k < 256 ^ (k + 1)
    rw [Int.pow_succ]
    omega
theorem num_congr (l m : List UInt8) : ∀ k, (∀ j, j < k → byteAt l j = byteAt m j) → num l k = num m k
  | 0, _ => rfl
  | k + 1, h => by
    show num l k * 256 + byteAt l k = num m k * 256 + byteAt m k
    rw [num_congr l m k (fun j hj => h j (by omega)), h k (by omega)]

theorem or_sum (A q : Int) (k : Nat) (h0 : 0 ≤ A) (hd : A % 2 ^ k = 0) (hq0 : 0 ≤ q) (hq : q < 2 ^ k) (hs : A + q < 18446744073709551616) :
    bits .or .u64 A q = A + q := by
  obtain ⟨a, rfl⟩ := Int.eq_ofNat_of_zero_le h0
  obtain ⟨b, rfl⟩ := Int.eq_ofNat_of_zero_le hq0
  rw [u64_or_nat a b (by omega) (by omega)]
  have hb : b < 2 ^ k := by
    have e : ((2 ^ k : Nat) : Int) = (2 : Int) ^ k := by simp
    rw [← e] at hq
    omega
  have ha : a % 2 ^ k = 0 := by
    have e : ((2 ^ k : Nat) : Int) = (2 : Int) ^ k := by simp
    rw [← e] at hd
    omega
  have hc : 2 ^ k * (a / 2 ^ k) = a := by
    have := Nat.div_add_mod a (2 ^ k)
    omega
  have := Nat.two_pow_add_eq_or_of_lt hb (a / 2 ^ k)
  rw [hc] at this
  omega
theorem or_none (q : Int) (hq0 : 0 ≤ q) (hs : q < 18446744073709551616) : bits .or .u64 0 q = q := by
  have := or_sum 0 q 64 (by omega) (by simp) hq0 (by omega) (by omega)
  omega
theorem or_8 (A q : Int) (h0 : 0 ≤ A) (hd : A % 256 = 0) (hq0 : 0 ≤ q) (hq : q < 256) (hs : A + q < 18446744073709551616) : bits .or .u64 A q = A + q := or_sum A q 8 h0 (by omega) hq0 (by omega) hs
theorem or_16 (A q : Int) (h0 : 0 ≤ A) (hd : A % 65536 = 0) (hq0 : 0 ≤ q) (hq : q < 65536) (hs : A + q < 18446744073709551616) : bits .or .u64 A q = A + q := or_sum A q 16 h0 (by omega) hq0 (by omega) hs
theorem or_24 (A q : Int) (h0 : 0 ≤ A) (hd : A % 16777216 = 0) (hq0 : 0 ≤ q) (hq : q < 16777216) (hs : A + q < 18446744073709551616) : bits .or .u64 A q = A + q := or_sum A q 24 h0 (by omega) hq0 (by omega) hs
theorem or_32 (A q : Int) (h0 : 0 ≤ A) (hd : A % 4294967296 = 0) (hq0 : 0 ≤ q) (hq : q < 4294967296) (hs : A + q < 18446744073709551616) : bits .or .u64 A q = A + q := or_sum A q 32 h0 (by omega) hq0 (by omega) hs
theorem or_40 (A q : Int) (h0 : 0 ≤ A) (hd : A % 1099511627776 = 0) (hq0 : 0 ≤ q) (hq : q < 1099511627776) (hs : A + q < 18446744073709551616) : bits .or .u64 A q = A + q := or_sum A q 40 h0 (by omega) hq0 (by omega) hs
theorem or_48 (A q : Int) (h0 : 0 ≤ A) (hd : A % 281474976710656 = 0) (hq0 : 0 ≤ q) (hq : q < 281474976710656) (hs : A + q < 18446744073709551616) : bits .or .u64 A q = A + q := or_sum A q 48 h0 (by omega) hq0 (by omega) hs
theorem or_56 (A q : Int) (h0 : 0 ≤ A) (hd : A % 72057594037927936 = 0) (hq0 : 0 ≤ q) (hq : q < 72057594037927936) (hs : A + q < 18446744073709551616) : bits .or .u64 A q = A + q := or_sum A q 56 h0 (by omega) hq0 (by omega) hs
theorem ret_u64 {a b : Int} (h : a = b) : Ending.returned (.int .u64 a) = .returned (.int .u64 b) := by rw [h]

/-- n in k bytes, the highest first -/
def putB (n : Nat) : Nat → List UInt8
  | 0 => []
  | k + 1 => putB (n / 256) k ++ [UInt8.ofNat (n % 256)]
theorem putB_length (n : Nat) : ∀ k, (putB n k).length = k
  | 0 => rfl
  | k + 1 => by simp [putB, putB_length (n / 256) k]
theorem cellOf_ofNat (m : Nat) : cellOf (UInt8.ofNat (m % 256)) = .int .u8 ((m : Int) % 256) := by
  unfold cellOf
  congr 1
  rw [UInt8.toNat_ofNat']
  omega
theorem putB_cells (n : Nat) (k : Nat) : (putB n (k + 1)).map cellOf = (putB (n / 256) k).map cellOf ++ [.int .u8 ((n : Int) % 256)] := by
  rw [putB, List.map_append, List.map_cons, List.map_nil, cellOf_ofNat]

theorem putB_each (m : Nat) :
    (putB m 1).map cellOf = [.int .u8 ((m : Int) % 256)] ∧
    (putB m 2).map cellOf = [.int .u8 ((m : Int) / 256 % 256), .int .u8 ((m : Int) % 256)] ∧
    (putB m 3).map cellOf = [.int .u8 ((m : Int) / 65536 % 256), .int .u8 ((m : Int) / 256 % 256), .int .u8 ((m : Int) % 256)] ∧
    (putB m 4).map cellOf = [.int .u8 ((m : Int) / 16777216 % 256), .int .u8 ((m : Int) / 65536 % 256), .int .u8 ((m : Int) / 256 % 256), .int .u8 ((m : Int) % 256)] ∧
    (putB m 5).map cellOf = [.int .u8 ((m : Int) / 4294967296 % 256), .int .u8 ((m : Int) / 16777216 % 256), .int .u8 ((m : Int) / 65536 % 256), .int .u8 ((m : Int) / 256 % 256), .int .u8 ((m : Int) % 256)] ∧
    (putB m 6).map cellOf = [.int .u8 ((m : Int) / 1099511627776 % 256), .int .u8 ((m : Int) / 4294967296 % 256), .int .u8 ((m : Int) / 16777216 % 256), .int .u8 ((m : Int) / 65536 % 256), .int .u8 ((m : Int) / 256 % 256), .int .u8 ((m : Int) % 256)] ∧
    (putB m 7).map cellOf = [.int .u8 ((m : Int) / 281474976710656 % 256), .int .u8 ((m : Int) / 1099511627776 % 256), .int .u8 ((m : Int) / 4294967296 % 256), .int .u8 ((m : Int) / 16777216 % 256), .int .u8 ((m : Int) / 65536 % 256), .int .u8 ((m : Int) / 256 % 256), .int .u8 ((m : Int) % 256)] ∧
    (putB m 8).map cellOf = [.int .u8 ((m : Int) / 72057594037927936 % 256), .int .u8 ((m : Int) / 281474976710656 % 256), .int .u8 ((m : Int) / 1099511627776 % 256), .int .u8 ((m : Int) / 4294967296 % 256), .int .u8 ((m : Int) / 16777216 % 256), .int .u8 ((m : Int) / 65536 % 256), .int .u8 ((m : Int) / 256 % 256), .int .u8 ((m : Int) % 256)] := by
  have e1 : ((m / 256 : Nat) : Int) = (m : Int) / 256 := by omega
  have e2 : ((m / 256 / 256 : Nat) : Int) = (m : Int) / 65536 := by omega
  have e3 : ((m / 256 / 256 / 256 : Nat) : Int) = (m : Int) / 16777216 := by omega
  have e4 : ((m / 256 / 256 / 256 / 256 : Nat) : Int) = (m : Int) / 4294967296 := by omega
  have e5 : ((m / 256 / 256 / 256 / 256 / 256 : Nat) : Int) = (m : Int) / 1099511627776 := by omega
  have e6 : ((m / 256 / 256 / 256 / 256 / 256 / 256 : Nat) : Int) = (m : Int) / 281474976710656 := by omega
  have e7 : ((m / 256 / 256 / 256 / 256 / 256 / 256 / 256 : Nat) : Int) = (m : Int) / 72057594037927936 := by omega
  refine ⟨?_, ?_, ?_, ?_, ?_, ?_, ?_, ?_⟩ <;> simp only [putB_cells, show ∀ n, putB n 0 = [] from fun _ => rfl, List.map_nil, List.nil_append, List.cons_append, e1, e2, e3, e4, e5, e6, e7]
end Go.Proofs.Ytnhadkmbekgfbaa
