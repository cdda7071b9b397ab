/-
  tetherref02.Good tells whether the sum behind bytes is theirs.
-/
import Derived.Test.YtdnheiefbecaeaaDoorRefSums16
import Derived.Test.YtdnheiefbecaeaaDoorRefSums32
namespace Go.Proofs.YtdnheiefbecaeaaDoor
open Go.RowKit
set_option maxRecDepth 100000
set_option maxHeartbeats 800000
set_option linter.unusedSimpArgs false
set_option linter.unusedVariables false

/-- is the sum behind the bytes theirs -/
def fine16 (l : List UInt8) : Bool := decide (2 ≤ l.length ∧ crc P16 65535 l = 61624)
def fine32 (l : List UInt8) : Bool := decide (4 ≤ l.length ∧ crc P32 4294967295 l = 3736805603)

theorem refgood16_any (A : Option Addr) (n c B : Nat) (l : List UInt8) (w : World) (hr : Rd w B A n l) (hn : n ≤ maxLen) :
    Calls Tryd.prog 29 #[.slice A n c, .bool false] w fun e w' => e = .returned (.bool (fine16 l)) ∧ w = w' := by
  have C : Calls Tryd.prog 67 #[.int .u16 65535, .slice A n c] w _ := refon16_any A n c 65535 B l w hr hn (by omega)
  have hl := hr.1
  have hlt := crc16_lt l 65535 (by omega)
  obtain ⟨y, hy⟩ : ∃ y : Int, y = ((crc P16 65535 l : Nat) : Int) := ⟨_, rfl⟩
  rw [← hy] at C
  by_cases h2 : 2 ≤ n
  · have HF : Hid ((y == 61624) = fine16 l) := by
      show _ = _
      unfold fine16
      rw [Bool.eq_iff_iff]
      simp
      omega
    have CC := Lib.hid C
    clear C hy hr hl hlt
    go_enter Tryd.func29, Tryd.ntmps29
    go_wp2_with fail
    refine (CC.out).mono ?_
    rintro e w1 ⟨rfl, rfl⟩
    go_wp2
    go_ret
    exact ⟨by rw [HF.out]; rfl, rfl⟩
  · have HF : Hid (fine16 l = false) := by
      show _ = _
      unfold fine16
      simp
      omega
    clear C hy hr hl hlt
    go_enter Tryd.func29, Tryd.ntmps29
    go_wp2
    go_ret
    exact ⟨by rw [HF.out]; rfl, rfl⟩
theorem refgood32_any (A : Option Addr) (n c B : Nat) (l : List UInt8) (w : World) (hr : Rd w B A n l) (hn : n ≤ maxLen) :
    Calls Tryd.prog 29 #[.slice A n c, .bool true] w fun e w' => e = .returned (.bool (fine32 l)) ∧ w = w' := by
  have C : Calls Tryd.prog 68 #[.int .u32 4294967295, .slice A n c] w _ := refon32_any A n c 4294967295 B l w hr hn (by omega)
  have hl := hr.1
  have hlt := crc32_lt l 4294967295 (by omega)
  obtain ⟨y, hy⟩ : ∃ y : Int, y = ((crc P32 4294967295 l : Nat) : Int) := ⟨_, rfl⟩
  rw [← hy] at C
  by_cases h2 : 4 ≤ n
  · have HF : Hid ((y == 3736805603) = fine32 l) := by
      show _ = _
      unfold fine32
      rw [Bool.eq_iff_iff]
      simp
      omega
    have CC := Lib.hid C
    clear C hy hr hl hlt
    go_enter Tryd.func29, Tryd.ntmps29
    go_wp2_with fail
    refine (CC.out).mono ?_
    rintro e w1 ⟨rfl, rfl⟩
    go_wp2
    go_ret
    exact ⟨by rw [HF.out]; rfl, rfl⟩
  · have HF : Hid (fine32 l = false) := by
      show _ = _
      unfold fine32
      simp
      omega
    clear C hy hr hl hlt
    go_enter Tryd.func29, Tryd.ntmps29
    go_wp2
    go_ret
    exact ⟨by rw [HF.out]; rfl, rfl⟩

end Go.Proofs.YtdnheiefbecaeaaDoor
