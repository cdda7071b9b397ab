/-
  Plain arithmetic of the register: powers of two, bytes 0.
-/
import Derived.Test.YtcpofjelfnkiaaaDoorCrc
namespace Go.Proofs.YtcpofjelfnkiaaaDoor
set_option linter.unusedSimpArgs false
set_option linter.unusedVariables false

theorem stp_two (p j : Nat) : stp p (2 ^ (j + 1)) = 2 ^ j := by
  unfold stp
  rw [Nat.pow_succ, if_neg (by omega), Nat.xor_zero]
  omega
theorem stp_zero (p : Nat) : stp p 0 = 0 := by
  unfold stp
  simp
theorem stps_two (p k : Nat) : ∀ m, m ≤ k → stps p m (2 ^ k) = 2 ^ (k - m) := by
  intro m
  induction m with
  | zero => intro _; rfl
  | succ m ih =>
    intro h
    rw [stps_succ, ih (by omega), show k - m = (k - (m + 1)) + 1 by omega, stp_two]
theorem crc_zeros (p : Nat) : ∀ n r, crc p r (List.replicate n 0) = stps p (8 * n) r
  | 0, _ => rfl
  | n + 1, r => by
    show crc p (stps p 8 (r ^^^ 0)) (List.replicate n 0) = _
    rw [Nat.xor_zero, crc_zeros p n, ← stps_add]
    congr 1
    omega
theorem zip_zeros : ∀ l : List UInt8, List.zipWith (· ^^^ ·) (List.replicate l.length 0) l = l
  | [] => rfl
  | c :: l => by
    show (0 ^^^ c) :: List.zipWith (· ^^^ ·) (List.replicate l.length 0) l = _
    rw [zip_zeros l]
    simp
theorem crc_at (p r s : Nat) (l : List UInt8) : crc p (r ^^^ s) l = stps p (8 * l.length) r ^^^ crc p s l := by
  have h := crc_xor p (List.replicate l.length 0) l r s (by simp)
  rw [zip_zeros, crc_zeros] at h
  exact h
end Go.Proofs.YtcpofjelfnkiaaaDoor
