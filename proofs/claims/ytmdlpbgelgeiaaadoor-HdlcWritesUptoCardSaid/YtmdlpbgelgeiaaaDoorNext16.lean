/-
  fcs.next16 and fcs.On16: the register behind a byte, behind bytes; tetherref02.On16 answers the same. All only read.
-/
import Derived.Test.YtmdlpbgelgeiaaaDoorBase
import Derived.Test.YtmdlpbgelgeiaaaDoorCrc
import Derived.Test.YtmdlpbgelgeiaaaDoorMath
import Derived.Lib.Hide
import Derived.Deep.QuietTactic
import Derived.BigQuiet
import Derived.LoopTactic
import Derived.Deep.Light
namespace Go.Proofs.YtmdlpbgelgeiaaaDoor
open Go.RowKit
set_option maxRecDepth 100000
set_option linter.unusedSimpArgs false
set_option linter.unusedVariables false

/-- the table lies in the program's variable -/
def Tab16 (w : World) : Prop := ∀ i, i < 16 → w.cell? ⟨0, i, none⟩ = some (.int .u16 (T16 i : Int))
theorem Tab16.kept {w w' : World} (h : Tab16 w) (hB : Below w.heap.size w w') : Tab16 w' := fun i hi => by
  have h1 := h i hi
  have hb := World.block_lt_of_cell? _ _ h1
  exact (hB.cell (p := ⟨0, i, none⟩) hb).trans h1
theorem Tab16.drewN {w : World} (h : Tab16 w) (k : Nat) : Tab16 (w.drewN k) := h
theorem Tab16.grown {w w' : World} {row : Option Nat} (h : Tab16 w) (hG : w.grownBy w' row) (hr : ∀ q, row = some q → 0 < q) : Tab16 w' := fun i hi => by
  have h1 := h i hi
  have hb := World.block_lt_of_cell? _ _ h1
  rw [World.cell?_of_block (hG.block 0 hb (by
    intro e
    have := hr _ e.symm
    omega))]
  exact h1

theorem next16_core (r c a d y d2 t1 t2 x : Int) (i j : Nat) (w : World) (h1 : bits .xor .u16 r c = a) (c0 : 0 ≤ c) (c1 : c ≤ 255) (a0 : 0 ≤ a) (a1 : a ≤ 65535) (h2 : a / 16 = d) (h3 : bits .and .u16 a 15 = (i : Int)) (hi : i < 16)
    (k1 : w.cell? ⟨0, i, none⟩ = some (.int .u16 t1)) (h4 : bits .xor .u16 d t1 = y) (y0 : 0 ≤ y) (y1 : y ≤ 65535) (h5 : y / 16 = d2) (h6 : bits .and .u16 y 15 = (j : Int)) (hj : j < 16)
    (k2 : w.cell? ⟨0, j, none⟩ = some (.int .u16 t2)) (h7 : bits .xor .u16 d2 t2 = x) :
    Calls Tryd.prog 55 #[.int .u16 r, .int .u8 c] w fun e w' => e = .returned (.int .u16 x) ∧ w = w' := by
  go_enter Tryd.func55, Tryd.ntmps55
  go_wp2
  go_ret
  exact ⟨rfl, rfl⟩

theorem xor_int16 (a b : Nat) (ha : a < 2 ^ 16) (hb : b < 2 ^ 16) : bits .xor .u16 (a : Int) (b : Int) = ((a ^^^ b : Nat) : Int) := u16_xor_nat a b (by omega) (by omega)
theorem and_int16 (a : Nat) (ha : a < 2 ^ 16) : bits .and .u16 (a : Int) 15 = ((a % 16 : Nat) : Int) := by
  have h := u16_and_nat a 15 (by omega) (by omega)
  rw [show a &&& 15 = a % 16 from Nat.and_two_pow_sub_one_eq_mod a 4] at h
  exact h

theorem next16_any (R C : Nat) (w : World) (hR : R < 2 ^ 16) (hC : C < 256) (hT : Tab16 w) :
    Calls Tryd.prog 55 #[.int .u16 (R : Int), .int .u8 (C : Int)] w fun e w' => e = .returned (.int .u16 (stps P16 8 (R ^^^ C) : Nat)) ∧ w = w' := by
  have hP : P16 < 2 ^ 16 := by decide
  have e1 : R ^^^ C < 2 ^ 16 := Nat.xor_lt_two_pow hR (by omega)
  have n1 := nibble P16 T16 tab16 (R ^^^ C)
  have e2 : stps P16 4 (R ^^^ C) < 2 ^ 16 := stps_lt hP 4 _ e1
  have n2 := nibble P16 T16 tab16 (stps P16 4 (R ^^^ C))
  rw [← stps_add] at n2
  have l1 := tab16_lt ((R ^^^ C) % 16) (by omega)
  have l2 := tab16_lt (stps P16 4 (R ^^^ C) % 16) (by omega)
  exact next16_core R C ((R ^^^ C : Nat) : Int) (((R ^^^ C) / 16 : Nat) : Int) ((stps P16 4 (R ^^^ C) : Nat) : Int) ((stps P16 4 (R ^^^ C) / 16 : Nat) : Int) (T16 ((R ^^^ C) % 16)) (T16 (stps P16 4 (R ^^^ C) % 16)) _ ((R ^^^ C) % 16) (stps P16 4 (R ^^^ C) % 16) w
    (xor_int16 R C hR (by omega)) (by omega) (by omega) (by omega) (by omega) (by simp) (and_int16 _ e1) (by omega) (hT _ (by omega))
    (by rw [xor_int16 _ _ (by omega) (by omega), n1]) (by omega) (by omega) (by simp) (and_int16 _ e2) (by omega) (hT _ (by omega)) (by rw [xor_int16 _ _ (by omega) (by omega), n2])
end Go.Proofs.YtmdlpbgelgeiaaaDoor
