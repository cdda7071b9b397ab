/-
  fcs.Join32; Join16, Join32 of a length below 0.
-/
import Derived.Test.YtamcoppfjmggcaaDoorAlg
namespace Go.Proofs.YtamcoppfjmggcaaDoor
open Go.RowKit
set_option maxRecDepth 100000
set_option maxHeartbeats 800000
set_option linter.unusedSimpArgs false
set_option linter.unusedVariables false

theorem join32_any (a b N : Nat) (w : World) (ha : a < 2 ^ 32) (hb : b < 2 ^ 32) (hN : N ≤ 9223372036854775807) :
    Calls Tryd.prog 36 #[.int .u32 (a : Int), .int .u32 (b : Int), .int .i64 (N : Int)] w fun e w' => e = .returned (.tuple #[.int .u32 (join32 a b N : Nat), .int .i64 0]) ∧ Below w.heap.size w w' := by
  have ZC : ∀ W, Calls Tryd.prog 52 #[.agg #[.int .u32 2147483648, .int .u32 3988292384], .int .u32 (a : Int), .int .i64 (N : Int)] W _ := fun W => zeros_any 31 P32 a N W (by omega) (by omega) (by decide) (by omega) hN
  have hl := zro_lt P32_lt 31 64 N a 8388608 ha (by omega)
  have hx := xor_int32 _ b hl hb
  obtain ⟨az, haz⟩ : ∃ z : Int, z = (a : Int) := ⟨_, rfl⟩
  obtain ⟨bz, hbz⟩ : ∃ z : Int, z = (b : Int) := ⟨_, rfl⟩
  obtain ⟨nz, hnz⟩ : ∃ z : Int, z = (N : Int) := ⟨_, rfl⟩
  obtain ⟨y, hy⟩ : ∃ z : Int, z = ((zro P32 31 64 N a 8388608 : Nat) : Int) := ⟨_, rfl⟩
  have hy2 : y = ((zro P32 31 64 N a (2 ^ (31 - 8)) : Nat) : Int) := hy
  obtain ⟨x, hxx⟩ : ∃ z : Int, z = ((join32 a b N : Nat) : Int) := ⟨_, rfl⟩
  have hx2 : bits .xor .u32 y bz = x := by rw [hy, hbz, hxx]; exact hx
  rw [← haz, ← hnz, ← hy2] at ZC
  rw [← haz, ← hbz, ← hnz, ← hxx]
  have n0 : 0 ≤ nz := by omega
  have Z := Lib.hid ZC
  clear ZC hl hx haz hbz hnz hy hy2 hxx ha hb hN
  go_enter Tryd.func36, Tryd.ntmps36
  go_wp2_with fail
  refine (Z.out _).mono ?_
  rintro e w1 ⟨rfl, hB⟩
  have hs := hB.size
  have BB : Hid (Below w.heap.size w w1) := ((Below.refl _ _).alloc (Nat.le_refl _) _).trans (hB.mono (by simp))
  clear hB hs
  go_wp2
  go_ret2
  exact ⟨rfl, BB.out⟩
theorem join16_neg (a b n : Int) (w : World) (hn : n < 0) :
    Calls Tryd.prog 35 #[.int .u16 a, .int .u16 b, .int .i64 n] w fun e w' => e = .returned (.tuple #[.int .u16 0, .int .i64 1]) ∧ w = w' := by
  go_enter Tryd.func35, Tryd.ntmps35
  go_wp2
  go_ret2
  exact ⟨rfl, rfl⟩
theorem join32_neg (a b n : Int) (w : World) (hn : n < 0) :
    Calls Tryd.prog 36 #[.int .u32 a, .int .u32 b, .int .i64 n] w fun e w' => e = .returned (.tuple #[.int .u32 0, .int .i64 1]) ∧ w = w' := by
  go_enter Tryd.func36, Tryd.ntmps36
  go_wp2
  go_ret2
  exact ⟨rfl, rfl⟩

/-- the same, of numbers that are given by their values -/
theorem join16_of (a b N : Nat) (az bz nz rz : Int) (w : World) (h1 : az = (a : Int)) (h2 : bz = (b : Int)) (h3 : nz = (N : Int)) (h4 : rz = ((join16 a b N : Nat) : Int)) (ha : a < 2 ^ 16) (hb : b < 2 ^ 16) (hN : N ≤ 9223372036854775807) :
    Calls Tryd.prog 35 #[.int .u16 az, .int .u16 bz, .int .i64 nz] w fun e w' => e = .returned (.tuple #[.int .u16 rz, .int .i64 0]) ∧ Below w.heap.size w w' := by
  rw [h1, h2, h3, h4]
  exact join16_any a b N w ha hb hN
theorem join32_of (a b N : Nat) (az bz nz rz : Int) (w : World) (h1 : az = (a : Int)) (h2 : bz = (b : Int)) (h3 : nz = (N : Int)) (h4 : rz = ((join32 a b N : Nat) : Int)) (ha : a < 2 ^ 32) (hb : b < 2 ^ 32) (hN : N ≤ 9223372036854775807) :
    Calls Tryd.prog 36 #[.int .u32 az, .int .u32 bz, .int .i64 nz] w fun e w' => e = .returned (.tuple #[.int .u32 rz, .int .i64 0]) ∧ Below w.heap.size w w' := by
  rw [h1, h2, h3, h4]
  exact join32_any a b N w ha hb hN
end Go.Proofs.YtamcoppfjmggcaaDoor
