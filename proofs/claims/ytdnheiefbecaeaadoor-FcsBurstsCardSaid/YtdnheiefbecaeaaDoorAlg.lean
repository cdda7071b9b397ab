/-
  Plain arithmetic: what zeros does is the register behind bytes 0; the sum of two texts.
-/
import Derived.Test.YtdnheiefbecaeaaDoorAwake
namespace Go.Proofs.YtdnheiefbecaeaaDoor
set_option linter.unusedSimpArgs false
set_option linter.unusedVariables false

theorem stp_two (p j : Nat) : stp p (2 ^ (j + 1)) = 2 ^ j := by
  unfold stp
  rw [Nat.pow_succ, if_neg (by omega), Nat.xor_zero]
  omega
theorem mod_bit (a j : Nat) : a % 2 ^ (j + 1) = (if a.testBit j then 2 ^ j else 0) ^^^ a % 2 ^ j := by
  apply Nat.eq_of_testBit_eq
  intro i
  rw [Nat.testBit_xor, Nat.testBit_mod_two_pow, Nat.testBit_mod_two_pow]
  by_cases h : a.testBit j = true
  · rw [if_pos h, Nat.testBit_two_pow]
    by_cases hi : j = i
    · subst hi
      simp [h]
    · have e : decide (i < j + 1) = decide (i < j) := by
        rw [decide_eq_decide]
        omega
      rw [e]
      simp [hi]
  · rw [if_neg h, Nat.zero_testBit]
    by_cases hi : j = i
    · subst hi
      simp [h]
    · have e : decide (i < j + 1) = decide (i < j) := by
        rw [decide_eq_decide]
        omega
      rw [e]
      simp
theorem tms_one (p : Nat) (a : Nat) : ∀ j out, tms p (j + 1) a (2 ^ j) out = out ^^^ a % 2 ^ (j + 1)
  | 0, out => by
    show (if a.testBit 0 then out ^^^ 2 ^ 0 else out) = _
    rw [mod_bit, Nat.pow_zero, Nat.mod_one]
    split <;> simp
  | j + 1, out => by
    show tms p (j + 1) a (stp p (2 ^ (j + 1))) (if a.testBit (j + 1) then out ^^^ 2 ^ (j + 1) else out) = _
    rw [stp_two, tms_one p a j, mod_bit a (j + 1)]
    split
    · rw [Nat.xor_assoc]
    · rw [Nat.zero_xor]
theorem mul_one' (p k a : Nat) (h : a < 2 ^ (k + 1)) : mul p k a (2 ^ k) = a := by
  unfold mul
  rw [tms_one, Nat.zero_xor, Nat.mod_eq_of_lt h]
theorem tms_stp (p a : Nat) : ∀ j b out, tms p j a (stp p b) (stp p out) = stp p (tms p j a b out)
  | 0, _, _ => rfl
  | j + 1, b, out => by
    show tms p j a (stp p (stp p b)) (if a.testBit j then stp p out ^^^ stp p b else stp p out) = stp p (tms p j a (stp p b) (if a.testBit j then out ^^^ b else out))
    rw [← tms_stp p a j]
    congr 1
    split
    · rw [stp_xor]
    · rfl
theorem stp_zero (p : Nat) : stp p 0 = 0 := by
  unfold stp
  simp
theorem mul_stps (p k a : Nat) : ∀ m b, mul p k a (stps p m b) = stps p m (mul p k a b)
  | 0, _ => rfl
  | m + 1, b => by
    show mul p k a (stps p m (stp p b)) = stps p m (stp p (mul p k a b))
    rw [mul_stps p k a m]
    congr 1
    unfold mul
    have h := tms_stp p a (k + 1) b 0
    rw [stp_zero] at h
    exact h
theorem stps_two (p k : Nat) : ∀ m, m ≤ k → stps p m (2 ^ k) = 2 ^ (k - m) := by
  intro m
  induction m with
  | zero => intro _; rfl
  | succ m ih =>
    intro h
    rw [stps_succ, ih (by omega), show k - m = (k - (m + 1)) + 1 by omega, stp_two]
theorem zro_stps (p k : Nat) (hp : p < 2 ^ (k + 1)) : ∀ f m N R, R < 2 ^ (k + 1) → N < 2 ^ f → zro p k f N R (stps p m (2 ^ k)) = stps p (m * N) R
  | 0, m, N, R, _, h => by
    obtain rfl : N = 0 := by simpa using h
    rfl
  | f + 1, m, N, R, hR, h => by
    have h1 : ∀ X, X < 2 ^ (k + 1) → mul p k X (stps p m (2 ^ k)) = stps p m X := by
      intro X hX
      rw [mul_stps, mul_one' p k X hX]
    have hone : 2 ^ k < 2 ^ (k + 1) := Nat.pow_lt_pow_right (by omega) (by omega)
    unfold zro
    split
    · rename_i h0
      subst h0
      rfl
    · rw [h1 _ (stps_lt hp m _ hone), ← stps_add]
      have hf : N / 2 < 2 ^ f := by rw [Nat.pow_succ] at h; omega
      by_cases ho : N % 2 = 1
      · rw [if_pos ho, h1 R hR, zro_stps p k hp f (m + m) (N / 2) _ (stps_lt hp m R hR) hf, ← stps_add]
        congr 1
        have e : N = 2 * (N / 2) + 1 := by omega
        conv => rhs; rw [e]
        rw [Nat.mul_add, Nat.mul_one, Nat.add_mul, ← Nat.mul_assoc, Nat.mul_comm m 2, Nat.two_mul, Nat.add_mul]
        omega
      · rw [if_neg ho, zro_stps p k hp f (m + m) (N / 2) R hR hf]
        congr 1
        have e : N = 2 * (N / 2) := by omega
        conv => rhs; rw [e]
        rw [← Nat.mul_assoc, Nat.mul_comm m 2, Nat.two_mul]
theorem join16_is (a b N : Nat) (ha : a < 2 ^ 16) (hN : N < 2 ^ 64) : join16 a b N = stps P16 (8 * N) a ^^^ b := by
  have h := zro_stps P16 15 (by decide) 64 8 N a ha hN
  rw [stps_two P16 15 8 (by omega)] at h
  exact congrArg (· ^^^ b) h
theorem join32_is (a b N : Nat) (ha : a < 2 ^ 32) (hN : N < 2 ^ 64) : join32 a b N = stps P32 (8 * N) a ^^^ b := by
  have h := zro_stps P32 31 (by decide) 64 8 N a ha hN
  rw [stps_two P32 31 8 (by omega)] at h
  exact congrArg (· ^^^ b) h

theorem crc_zeros (p : Nat) : ∀ n r, crc p r (List.replicate n 0) = stps p (8 * n) r
  | 0, _ => rfl
  | n + 1, r => by
    show crc p (stps p 8 (r ^^^ 0)) (List.replicate n 0) = _
    rw [Nat.xor_zero, crc_zeros p n, ← stps_add]
    congr 1
    omega
theorem zip_zeros : ∀ l : List UInt8, List.zipWith (· ^^^ ·) (List.replicate l.length 0) l = l
  | [] => rfl
  | c :: l => by
    show (0 ^^^ c) :: List.zipWith (· ^^^ ·) (List.replicate l.length 0) l = _
    rw [zip_zeros l]
    simp
theorem crc_at (p r s : Nat) (l : List UInt8) : crc p (r ^^^ s) l = stps p (8 * l.length) r ^^^ crc p s l := by
  have h := crc_xor p (List.replicate l.length 0) l r s (by simp)
  rw [zip_zeros, crc_zeros] at h
  exact h
theorem sum16_is (l : List UInt8) : sum16 l = crc P16 65535 l ^^^ 65535 := by
  rw [Nat.xor_comm, full_xor16 _ (crc16_lt l 65535 (by omega))]
  rfl
theorem sum32_is (l : List UInt8) : sum32 l = crc P32 4294967295 l ^^^ 4294967295 := by
  rw [Nat.xor_comm, full_xor32 _ (crc32_lt l 4294967295 (by omega))]
  rfl
theorem sum16_two (a b : List UInt8) (hb : b.length < 2 ^ 64) : join16 (sum16 a) (sum16 b) b.length = sum16 (a ++ b) := by
  have e : crc P16 65535 a = sum16 a ^^^ 65535 := by rw [sum16_is, Nat.xor_assoc, Nat.xor_self, Nat.xor_zero]
  rw [join16_is _ _ _ (sum16_lt a) hb, sum16_is (a ++ b), crc_append, e, crc_at, sum16_is b, Nat.xor_assoc]
theorem sum32_two (a b : List UInt8) (hb : b.length < 2 ^ 64) : join32 (sum32 a) (sum32 b) b.length = sum32 (a ++ b) := by
  have e : crc P32 4294967295 a = sum32 a ^^^ 4294967295 := by rw [sum32_is, Nat.xor_assoc, Nat.xor_self, Nat.xor_zero]
  rw [join32_is _ _ _ (sum32_lt a) hb, sum32_is (a ++ b), crc_append, e, crc_at, sum32_is b, Nat.xor_assoc]
theorem join16_far (a m n : Nat) (ha : a < 2 ^ 16) (hm : m < 2 ^ 62) (hn : n < 2 ^ 62) : join16 (join16 a 0 m) 0 n = join16 a 0 (m + n) := by
  rw [join16_is a 0 m ha (by omega), join16_is _ 0 n (Nat.xor_lt_two_pow (stps_lt P16_lt _ _ ha) (by omega)) (by omega), join16_is a 0 (m + n) ha (by omega), Nat.xor_zero, Nat.xor_zero, Nat.xor_zero, ← stps_add]
  congr 1
  omega
theorem join32_far (a m n : Nat) (ha : a < 2 ^ 32) (hm : m < 2 ^ 62) (hn : n < 2 ^ 62) : join32 (join32 a 0 m) 0 n = join32 a 0 (m + n) := by
  rw [join32_is a 0 m ha (by omega), join32_is _ 0 n (Nat.xor_lt_two_pow (stps_lt P32_lt _ _ ha) (by omega)) (by omega), join32_is a 0 (m + n) ha (by omega), Nat.xor_zero, Nat.xor_zero, Nat.xor_zero, ← stps_add]
  congr 1
  omega
theorem join16_lt (a b n : Nat) (ha : a < 2 ^ 16) (hb : b < 2 ^ 16) : join16 a b n < 2 ^ 16 := Nat.xor_lt_two_pow (zro_lt P16_lt 15 64 n a 128 ha (by omega)) hb
theorem join32_lt (a b n : Nat) (ha : a < 2 ^ 32) (hb : b < 2 ^ 32) : join32 a b n < 2 ^ 32 := Nat.xor_lt_two_pow (zro_lt P32_lt 31 64 n a 8388608 ha (by omega)) hb
end Go.Proofs.YtdnheiefbecaeaaDoor
