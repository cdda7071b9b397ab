/-
  fcs.next32 and fcs.On32: the register behind a byte, behind bytes; tetherref02.On32 answers the same. All only read.
-/
import Derived.Test.YtdnheiefbecaeaaDoorBase
import Derived.Test.YtdnheiefbecaeaaDoorCrc
import Derived.Test.YtdnheiefbecaeaaDoorMath
import Derived.Lib.Hide
import Derived.Deep.QuietTactic
import Derived.BigQuiet
import Derived.LoopTactic
import Derived.Deep.Light
namespace Go.Proofs.YtdnheiefbecaeaaDoor
open Go.RowKit
set_option maxRecDepth 100000
set_option linter.unusedSimpArgs false
set_option linter.unusedVariables false

/-- the table lies in the program's variable -/
def Tab32 (w : World) : Prop := ∀ i, i < 16 → w.cell? ⟨2, i, none⟩ = some (.int .u32 (T32 i : Int))
theorem Tab32.kept {w w' : World} (h : Tab32 w) (hB : Below w.heap.size w w') : Tab32 w' := fun i hi => by
  have h1 := h i hi
  have hb := World.block_lt_of_cell? _ _ h1
  exact (hB.cell (p := ⟨2, i, none⟩) hb).trans h1
theorem Tab32.drewN {w : World} (h : Tab32 w) (k : Nat) : Tab32 (w.drewN k) := h
theorem Tab32.grown {w w' : World} {row : Option Nat} (h : Tab32 w) (hG : w.grownBy w' row) (hr : ∀ q, row = some q → 2 < q) : Tab32 w' := fun i hi => by
  have h1 := h i hi
  have hb := World.block_lt_of_cell? _ _ h1
  rw [World.cell?_of_block (hG.block 2 hb (by
    intro e
    have := hr _ e.symm
    omega))]
  exact h1

theorem next32_core (r c a d y d2 t1 t2 x : Int) (i j : Nat) (w : World) (h1 : bits .xor .u32 r c = a) (c0 : 0 ≤ c) (c1 : c ≤ 255) (a0 : 0 ≤ a) (a1 : a ≤ 4294967295) (h2 : a / 16 = d) (h3 : bits .and .u32 a 15 = (i : Int)) (hi : i < 16)
    (k1 : w.cell? ⟨2, i, none⟩ = some (.int .u32 t1)) (h4 : bits .xor .u32 d t1 = y) (y0 : 0 ≤ y) (y1 : y ≤ 4294967295) (h5 : y / 16 = d2) (h6 : bits .and .u32 y 15 = (j : Int)) (hj : j < 16)
    (k2 : w.cell? ⟨2, j, none⟩ = some (.int .u32 t2)) (h7 : bits .xor .u32 d2 t2 = x) :
    Calls Tryd.prog 72 #[.int .u32 r, .int .u8 c] w fun e w' => e = .returned (.int .u32 x) ∧ w = w' := by
  go_enter Tryd.func72, Tryd.ntmps72
  go_wp2
  go_ret
  exact ⟨rfl, rfl⟩

theorem xor_int32 (a b : Nat) (ha : a < 2 ^ 32) (hb : b < 2 ^ 32) : bits .xor .u32 (a : Int) (b : Int) = ((a ^^^ b : Nat) : Int) := u32_xor_nat a b (by omega) (by omega)
theorem and_int32 (a : Nat) (ha : a < 2 ^ 32) : bits .and .u32 (a : Int) 15 = ((a % 16 : Nat) : Int) := by
  have h := u32_and_nat a 15 (by omega) (by omega)
  rw [show a &&& 15 = a % 16 from Nat.and_two_pow_sub_one_eq_mod a 4] at h
  exact h

theorem next32_any (R C : Nat) (w : World) (hR : R < 2 ^ 32) (hC : C < 256) (hT : Tab32 w) :
    Calls Tryd.prog 72 #[.int .u32 (R : Int), .int .u8 (C : Int)] w fun e w' => e = .returned (.int .u32 (stps P32 8 (R ^^^ C) : Nat)) ∧ w = w' := by
  have hP : P32 < 2 ^ 32 := by decide
  have e1 : R ^^^ C < 2 ^ 32 := Nat.xor_lt_two_pow hR (by omega)
  have n1 := nibble P32 T32 tab32 (R ^^^ C)
  have e2 : stps P32 4 (R ^^^ C) < 2 ^ 32 := stps_lt hP 4 _ e1
  have n2 := nibble P32 T32 tab32 (stps P32 4 (R ^^^ C))
  rw [← stps_add] at n2
  have l1 := tab32_lt ((R ^^^ C) % 16) (by omega)
  have l2 := tab32_lt (stps P32 4 (R ^^^ C) % 16) (by omega)
  exact next32_core R C ((R ^^^ C : Nat) : Int) (((R ^^^ C) / 16 : Nat) : Int) ((stps P32 4 (R ^^^ C) : Nat) : Int) ((stps P32 4 (R ^^^ C) / 16 : Nat) : Int) (T32 ((R ^^^ C) % 16)) (T32 (stps P32 4 (R ^^^ C) % 16)) _ ((R ^^^ C) % 16) (stps P32 4 (R ^^^ C) % 16) w
    (xor_int32 R C hR (by omega)) (by omega) (by omega) (by omega) (by omega) (by simp) (and_int32 _ e1) (by omega) (hT _ (by omega))
    (by rw [xor_int32 _ _ (by omega) (by omega), n1]) (by omega) (by omega) (by simp) (and_int32 _ e2) (by omega) (hT _ (by omega)) (by rw [xor_int32 _ _ (by omega) (by omega), n2])
end Go.Proofs.YtdnheiefbecaeaaDoor
