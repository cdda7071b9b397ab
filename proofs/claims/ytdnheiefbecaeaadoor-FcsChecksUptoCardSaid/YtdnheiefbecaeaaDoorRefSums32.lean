/-
  tetherref02.On32, tetherref02.Sum32: the register behind bytes, and its complement. They only read.
-/
import Derived.Test.YtdnheiefbecaeaaDoorRefOn
import Derived.Test.YtdnheiefbecaeaaDoorSums32
namespace Go.Proofs.YtdnheiefbecaeaaDoor
open Go.RowKit
set_option maxRecDepth 100000
set_option maxHeartbeats 400000
set_option linter.unusedSimpArgs false
set_option linter.unusedVariables false

theorem refon32_any (A : Option Addr) (n c R B : Nat) (l : List UInt8) (w : World) (hr : Rd w B A n l) (hn : n ≤ maxLen) (hR : R < 2 ^ 32) :
    Calls Tryd.prog 68 #[.int .u32 (R : Int), .slice A n c] w fun e w' => e = .returned (.int .u32 (crc P32 R l : Nat)) ∧ w = w' := by
  have C := refon_any A n c P32 R B l w hr hn (by decide) (by omega)
  have hl := crc32_lt l R hR
  obtain ⟨z, hz⟩ : ∃ z : Int, z = (R : Int) := ⟨_, rfl⟩
  obtain ⟨y, hy⟩ : ∃ y : Int, y = ((crc P32 R l : Nat) : Int) := ⟨_, rfl⟩
  rw [← hz, ← hy] at C
  rw [← hz, ← hy]
  have z0 : 0 ≤ z := by omega
  have z1 : z ≤ 4294967295 := by omega
  have y0 : 0 ≤ y := by omega
  have y1 : y ≤ 4294967295 := by omega
  have CC := Lib.hid C
  clear C hz hy hl hR hr
  go_enter Tryd.func68, Tryd.ntmps68
  go_wp2_with fail
  refine (CC.out).mono ?_
  rintro e w1 ⟨rfl, rfl⟩
  go_wp2
  go_ret
  exact ⟨rfl, rfl⟩

theorem refsum32_any (A : Option Addr) (n c B : Nat) (l : List UInt8) (w : World) (hr : Rd w B A n l) (hn : n ≤ maxLen) :
    Calls Tryd.prog 26 #[.slice A n c] w fun e w' => e = .returned (.int .u32 (sum32 l : Nat)) ∧ w = w' := by
  have C : Calls Tryd.prog 68 #[.int .u32 4294967295, .slice A n c] w _ := refon32_any A n c 4294967295 B l w hr hn (by omega)
  have hl := crc32_lt l 4294967295 (by omega)
  have hx : bits .xor .u32 4294967295 ((crc P32 4294967295 l : Nat) : Int) = ((sum32 l : Nat) : Int) := by
    have h := xor_int32 4294967295 _ (by omega) hl
    rw [full_xor32 _ hl] at h
    exact h
  obtain ⟨y, hy⟩ : ∃ y : Int, y = ((crc P32 4294967295 l : Nat) : Int) := ⟨_, rfl⟩
  obtain ⟨s, hs⟩ : ∃ s : Int, s = ((sum32 l : Nat) : Int) := ⟨_, rfl⟩
  rw [← hy] at C
  rw [← hy, ← hs] at hx
  rw [← hs]
  have CC := Lib.hid C
  clear C hy hs hl hr
  go_enter Tryd.func26, Tryd.ntmps26
  go_wp2_with fail
  refine (CC.out).mono ?_
  rintro e w1 ⟨rfl, rfl⟩
  go_wp2
  go_ret
  exact ⟨rfl, rfl⟩

end Go.Proofs.YtdnheiefbecaeaaDoor
