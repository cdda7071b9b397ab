/-
  tetherref02.On16, tetherref02.Sum16: the register behind bytes, and its complement. They only read.
-/
import Derived.Test.YtdnheiefbecaeaaDoorRefOn
import Derived.Test.YtdnheiefbecaeaaDoorSums16
namespace Go.Proofs.YtdnheiefbecaeaaDoor
open Go.RowKit
set_option maxRecDepth 100000
set_option maxHeartbeats 400000
set_option linter.unusedSimpArgs false
set_option linter.unusedVariables false

theorem refon16_any (A : Option Addr) (n c R B : Nat) (l : List UInt8) (w : World) (hr : Rd w B A n l) (hn : n ≤ maxLen) (hR : R < 2 ^ 16) :
    Calls Tryd.prog 67 #[.int .u16 (R : Int), .slice A n c] w fun e w' => e = .returned (.int .u16 (crc P16 R l : Nat)) ∧ w = w' := by
  have C := refon_any A n c P16 R B l w hr hn (by decide) (by omega)
  have hl := crc16_lt l R hR
  obtain ⟨z, hz⟩ : ∃ z : Int, z = (R : Int) := ⟨_, rfl⟩
  obtain ⟨y, hy⟩ : ∃ y : Int, y = ((crc P16 R l : Nat) : Int) := ⟨_, rfl⟩
  rw [← hz, ← hy] at C
  rw [← hz, ← hy]
  have z0 : 0 ≤ z := by omega
  have z1 : z ≤ 65535 := by omega
  have y0 : 0 ≤ y := by omega
  have y1 : y ≤ 65535 := by omega
  have CC := Lib.hid C
  clear C hz hy hl hR hr
  go_enter Tryd.func67, Tryd.ntmps67
  go_wp2_with fail
  refine (CC.out).mono ?_
  rintro e w1 ⟨rfl, rfl⟩
  go_wp2
  go_ret
  exact ⟨rfl, rfl⟩

theorem refsum16_any (A : Option Addr) (n c B : Nat) (l : List UInt8) (w : World) (hr : Rd w B A n l) (hn : n ≤ maxLen) :
    Calls Tryd.prog 25 #[.slice A n c] w fun e w' => e = .returned (.int .u16 (sum16 l : Nat)) ∧ w = w' := by
  have C : Calls Tryd.prog 67 #[.int .u16 65535, .slice A n c] w _ := refon16_any A n c 65535 B l w hr hn (by omega)
  have hl := crc16_lt l 65535 (by omega)
  have hx : bits .xor .u16 65535 ((crc P16 65535 l : Nat) : Int) = ((sum16 l : Nat) : Int) := by
    have h := xor_int16 65535 _ (by omega) hl
    rw [full_xor16 _ hl] at h
    exact h
  obtain ⟨y, hy⟩ : ∃ y : Int, y = ((crc P16 65535 l : Nat) : Int) := ⟨_, rfl⟩
  obtain ⟨s, hs⟩ : ∃ s : Int, s = ((sum16 l : Nat) : Int) := ⟨_, rfl⟩
  rw [← hy] at C
  rw [← hy, ← hs] at hx
  rw [← hs]
  have CC := Lib.hid C
  clear C hy hs hl hr
  go_enter Tryd.func25, Tryd.ntmps25
  go_wp2_with fail
  refine (CC.out).mono ?_
  rintro e w1 ⟨rfl, rfl⟩
  go_wp2
  go_ret
  exact ⟨rfl, rfl⟩

end Go.Proofs.YtdnheiefbecaeaaDoor
