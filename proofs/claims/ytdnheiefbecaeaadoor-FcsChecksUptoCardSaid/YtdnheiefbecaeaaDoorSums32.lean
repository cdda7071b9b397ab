/-
  fcs.Sum32: the complement of the register behind bytes. It only reads.
-/
import Derived.Test.YtdnheiefbecaeaaDoorOn32
namespace Go.Proofs.YtdnheiefbecaeaaDoor
open Go.RowKit
set_option maxRecDepth 100000
set_option maxHeartbeats 400000
set_option linter.unusedSimpArgs false
set_option linter.unusedVariables false

theorem full_xor32 (x : Nat) (h : x < 2 ^ 32) : 4294967295 ^^^ x = 4294967295 - x := by
  apply Nat.eq_of_testBit_eq
  intro i
  have h1 := Nat.testBit_two_pow_sub_succ h i
  have h2 := Nat.testBit_two_pow_sub_one 32 i
  have e1 : 2 ^ 32 - (x + 1) = 4294967295 - x := by omega
  have e2 : 2 ^ 32 - 1 = 4294967295 := by omega
  rw [e1] at h1
  rw [e2] at h2
  rw [Nat.testBit_xor, h1, h2]
  by_cases hi : i < 32
  · simp [hi]
  · have : x.testBit i = false := Nat.testBit_lt_two_pow (Nat.lt_of_lt_of_le h (Nat.pow_le_pow_right (by omega) (by omega)))
    simp [hi, this]
/-- the sum of bytes -/
def sum32 (l : List UInt8) : Nat := 4294967295 - crc P32 4294967295 l
theorem sum32_lt (l : List UInt8) : sum32 l < 2 ^ 32 := by unfold sum32; omega

theorem sum32_any (A : Option Addr) (n c B : Nat) (l : List UInt8) (w : World) (hr : Rd w B A n l) (hc : n ≤ c) (hn : n ≤ maxLen) (hT : Tab32 w) :
    Calls Tryd.prog 34 #[.slice A n c] w fun e w' => e = .returned (.int .u32 (sum32 l : Nat)) ∧ ∃ k, w' = w.drewN k := by
  have C : Calls Tryd.prog 36 #[.int .u32 4294967295, .slice A n c] w _ := on32_any A n c 4294967295 B l w hr hc hn (by omega) hT
  have hl := crc32_lt l 4294967295 (by omega)
  have hx : bits .xor .u32 IntKind.u32.max ((crc P32 4294967295 l : Nat) : Int) = ((sum32 l : Nat) : Int) := by
    have h := xor_int32 4294967295 _ (by omega) hl
    rw [full_xor32 _ hl] at h
    exact h
  obtain ⟨y, hy⟩ : ∃ y : Int, y = ((crc P32 4294967295 l : Nat) : Int) := ⟨_, rfl⟩
  obtain ⟨s, hs⟩ : ∃ s : Int, s = ((sum32 l : Nat) : Int) := ⟨_, rfl⟩
  rw [← hy] at C
  rw [← hy, ← hs] at hx
  rw [← hs]
  have CC := Lib.hid C
  have X := Lib.hid hx
  clear C hy hs hl hr hT hx
  go_enter Tryd.func34, Tryd.ntmps34
  go_wp2_with fail
  refine (CC.out).mono ?_
  rintro e w1 ⟨rfl, k, rfl⟩
  go_wp2
  go_ret
  exact ⟨by rw [← X.out]; rfl, k, rfl⟩
end Go.Proofs.YtdnheiefbecaeaaDoor
