/-
  fcs.Sum16: the complement of the register behind bytes. It only reads.
-/
import Derived.Test.YtmdlpbgelgeiaaaDoorOn16
namespace Go.Proofs.YtmdlpbgelgeiaaaDoor
open Go.RowKit
set_option maxRecDepth 100000
set_option maxHeartbeats 400000
set_option linter.unusedSimpArgs false
set_option linter.unusedVariables false

theorem full_xor16 (x : Nat) (h : x < 2 ^ 16) : 65535 ^^^ x = 65535 - x := by
  apply Nat.eq_of_testBit_eq
  intro i
  have h1 := Nat.testBit_two_pow_sub_succ h i
  have h2 := Nat.testBit_two_pow_sub_one 16 i
  have e1 : 2 ^ 16 - (x + 1) = 65535 - x := by omega
  have e2 : 2 ^ 16 - 1 = 65535 := by omega
  rw [e1] at h1
  rw [e2] at h2
  rw [Nat.testBit_xor, h1, h2]
  by_cases hi : i < 16
  · simp [hi]
  · have : x.testBit i = false := Nat.testBit_lt_two_pow (Nat.lt_of_lt_of_le h (Nat.pow_le_pow_right (by omega) (by omega)))
    simp [hi, this]
/-- the sum of bytes -/
def sum16 (l : List UInt8) : Nat := 65535 - crc P16 65535 l
theorem sum16_lt (l : List UInt8) : sum16 l < 2 ^ 16 := by unfold sum16; omega

theorem sum16_any (A : Option Addr) (n c B : Nat) (l : List UInt8) (w : World) (hr : Rd w B A n l) (hc : n ≤ c) (hn : n ≤ maxLen) (hT : Tab16 w) :
    Calls Tryd.prog 48 #[.slice A n c] w fun e w' => e = .returned (.int .u16 (sum16 l : Nat)) ∧ ∃ k, w' = w.drewN k := by
  have C : Calls Tryd.prog 53 #[.int .u16 65535, .slice A n c] w _ := on16_any A n c 65535 B l w hr hc hn (by omega) hT
  have hl := crc16_lt l 65535 (by omega)
  have hx : bits .xor .u16 IntKind.u16.max ((crc P16 65535 l : Nat) : Int) = ((sum16 l : Nat) : Int) := by
    have h := xor_int16 65535 _ (by omega) hl
    rw [full_xor16 _ hl] at h
    exact h
  obtain ⟨y, hy⟩ : ∃ y : Int, y = ((crc P16 65535 l : Nat) : Int) := ⟨_, rfl⟩
  obtain ⟨s, hs⟩ : ∃ s : Int, s = ((sum16 l : Nat) : Int) := ⟨_, rfl⟩
  rw [← hy] at C
  rw [← hy, ← hs] at hx
  rw [← hs]
  have CC := Lib.hid C
  have X := Lib.hid hx
  clear C hy hs hl hr hT hx
  go_enter Tryd.func48, Tryd.ntmps48
  go_wp2_with fail
  refine (CC.out).mono ?_
  rintro e w1 ⟨rfl, k, rfl⟩
  go_wp2
  go_ret
  exact ⟨by rw [← X.out]; rfl, k, rfl⟩
end Go.Proofs.YtmdlpbgelgeiaaaDoor
