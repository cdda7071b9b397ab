/-
  octet.sizeRight, octet.number: what they answer; they only read.
-/
import Derived.Test.YtjkdlmielckaaaaDoorProg
import Derived.Test.YtjkdlmielckaaaaDoorMath
import Derived.Lib.Hide
namespace Go.Proofs.YtjkdlmielckaaaaDoor
open Go.RowKit
set_option maxRecDepth 100000
set_option linter.unusedSimpArgs false
set_option linter.unusedVariables false

theorem size_right (n : Int) (w : World) :
    Calls Tryd.prog 37 #[.int .i64 n] w fun e w' => e = .returned (.bool (decide (1 ≤ n ∧ n ≤ 8))) ∧ w = w' := by
  by_cases h1 : 1 ≤ n <;> by_cases h2 : n ≤ 8
  all_goals
    go_enter Tryd.func37, Tryd.ntmps37
    go_wp2
    go_ret
    exact ⟨by simp [h1, h2], rfl⟩

theorem num_small (l : List UInt8) :
    num l 1 = byteAt l 0 ∧
    bits .or .u64 (bits .or .u64 0 (byteAt l 0 * 256)) (byteAt l 1) = num l 2 ∧
    bits .or .u64 (bits .or .u64 (bits .or .u64 0 (byteAt l 0 * 65536)) (byteAt l 1 * 256)) (byteAt l 2) = num l 3 ∧
    bits .or .u64 (bits .or .u64 (bits .or .u64 (bits .or .u64 0 (byteAt l 0 * 16777216)) (byteAt l 1 * 65536)) (byteAt l 2 * 256)) (byteAt l 3) = num l 4 := by
  have a0 := byteAt_lo l 0
  have b0 := byteAt_hi l 0
  have a1 := byteAt_lo l 1
  have b1 := byteAt_hi l 1
  have a2 := byteAt_lo l 2
  have b2 := byteAt_hi l 2
  have a3 := byteAt_lo l 3
  have b3 := byteAt_hi l 3
  refine ⟨?_, ?_, ?_, ?_⟩
  · simp only [num]
    omega
  · simp (disch := omega) only [or_none, or_8, or_16, or_24, or_32, or_40, or_48, or_56]
    simp only [num]
    omega
  · simp (disch := omega) only [or_none, or_8, or_16, or_24, or_32, or_40, or_48, or_56]
    simp only [num]
    omega
  · simp (disch := omega) only [or_none, or_8, or_16, or_24, or_32, or_40, or_48, or_56]
    simp only [num]
    omega

theorem num_big (l : List UInt8) :
    bits .or .u64 (bits .or .u64 (bits .or .u64 (bits .or .u64 (bits .or .u64 0 (byteAt l 0 * 4294967296)) (byteAt l 1 * 16777216)) (byteAt l 2 * 65536)) (byteAt l 3 * 256)) (byteAt l 4) = num l 5 ∧
    bits .or .u64 (bits .or .u64 (bits .or .u64 (bits .or .u64 (bits .or .u64 (bits .or .u64 0 (byteAt l 0 * 1099511627776)) (byteAt l 1 * 4294967296)) (byteAt l 2 * 16777216)) (byteAt l 3 * 65536)) (byteAt l 4 * 256)) (byteAt l 5) = num l 6 ∧
    bits .or .u64 (bits .or .u64 (bits .or .u64 (bits .or .u64 (bits .or .u64 (bits .or .u64 (bits .or .u64 0 (byteAt l 0 * 281474976710656)) (byteAt l 1 * 1099511627776)) (byteAt l 2 * 4294967296)) (byteAt l 3 * 16777216)) (byteAt l 4 * 65536)) (byteAt l 5 * 256)) (byteAt l 6) = num l 7 ∧
    bits .or .u64 (bits .or .u64 (bits .or .u64 (bits .or .u64 (bits .or .u64 (bits .or .u64 (bits .or .u64 (bits .or .u64 0 (byteAt l 0 * 72057594037927936)) (byteAt l 1 * 281474976710656)) (byteAt l 2 * 1099511627776)) (byteAt l 3 * 4294967296)) (byteAt l 4 * 16777216)) (byteAt l 5 * 65536)) (byteAt l 6 * 256)) (byteAt l 7) = num l 8 := by
  have a0 := byteAt_lo l 0
  have b0 := byteAt_hi l 0
  have a1 := byteAt_lo l 1
  have b1 := byteAt_hi l 1
  have a2 := byteAt_lo l 2
  have b2 := byteAt_hi l 2
  have a3 := byteAt_lo l 3
  have b3 := byteAt_hi l 3
  have a4 := byteAt_lo l 4
  have b4 := byteAt_hi l 4
  have a5 := byteAt_lo l 5
  have b5 := byteAt_hi l 5
  have a6 := byteAt_lo l 6
  have b6 := byteAt_hi l 6
  have a7 := byteAt_lo l 7
  have b7 := byteAt_hi l 7
  refine ⟨?_, ?_, ?_, ?_⟩
  · simp (disch := omega) only [or_none, or_8, or_16, or_24, or_32, or_40, or_48, or_56]
    simp only [num]
    omega
  · simp (disch := omega) only [or_none, or_8, or_16, or_24, or_32, or_40, or_48, or_56]
    simp only [num]
    omega
  · simp (disch := omega) only [or_none, or_8, or_16, or_24, or_32, or_40, or_48, or_56]
    simp only [num]
    omega
  · simp (disch := omega) only [or_none, or_8, or_16, or_24, or_32, or_40, or_48, or_56]
    simp only [num]
    omega

theorem number_any (A : Option Addr) (n c : Nat) (l : List UInt8) (w : World) (B : Nat) (h : Rd w B A n l) (hn : n ≤ 8) (hc : n ≤ c) :
    Calls Tryd.prog 35 #[.slice A n c] w fun e w' => e = .returned (.int .u64 (num l n)) ∧ w = w' := by
  rcases (show n = 0 ∨ 0 < n by omega) with rfl | hp
  · clear h
    go_enter Tryd.func35, Tryd.ntmps35
    go_wp2
    go_ret
    exact ⟨rfl, rfl⟩
  · obtain ⟨b, o, rfl, _, hcell⟩ := h.2 hp
    clear h
    have S := num_small l
    have G := num_big l
    have S1 := Lib.hid S
    have G1 := Lib.hid G
    clear S G
    have a0 := byteAt_lo l 0
    have b0 := byteAt_hi l 0
    have a1 := byteAt_lo l 1
    have b1 := byteAt_hi l 1
    have a2 := byteAt_lo l 2
    have b2 := byteAt_hi l 2
    have a3 := byteAt_lo l 3
    have b3 := byteAt_hi l 3
    have a4 := byteAt_lo l 4
    have b4 := byteAt_hi l 4
    have a5 := byteAt_lo l 5
    have b5 := byteAt_hi l 5
    have a6 := byteAt_lo l 6
    have b6 := byteAt_hi l 6
    have a7 := byteAt_lo l 7
    have b7 := byteAt_hi l 7
    have H := Lib.hid hcell
    clear hcell
    rcases (show n = 1 ∨ n = 2 ∨ n = 3 ∨ n = 4 ∨ n = 5 ∨ n = 6 ∨ n = 7 ∨ n = 8 by omega) with rfl | rfl | rfl | rfl | rfl | rfl | rfl | rfl
    · have h0 : w.cell? ⟨b, o, none⟩ = some (.int .u8 (byteAt l 0)) := H.out 0 (by omega)
      clear H
      go_enter Tryd.func35, Tryd.ntmps35
      go_wp2
      go_ret
      exact ⟨ret_u64 (by rw [or_none _ a0 (by omega)]; exact S1.out.1.symm), rfl⟩
    · have h0 : w.cell? ⟨b, o, none⟩ = some (.int .u8 (byteAt l 0)) := H.out 0 (by omega)
      have h1 := H.out 1 (by omega)
      clear H
      go_enter Tryd.func35, Tryd.ntmps35
      go_wp2
      go_ret
      exact ⟨ret_u64 S1.out.2.1, rfl⟩
    · have h0 : w.cell? ⟨b, o, none⟩ = some (.int .u8 (byteAt l 0)) := H.out 0 (by omega)
      have h1 := H.out 1 (by omega)
      have h2 := H.out 2 (by omega)
      clear H
      go_enter Tryd.func35, Tryd.ntmps35
      go_wp2
      go_ret
      exact ⟨ret_u64 S1.out.2.2.1, rfl⟩
    · have h0 : w.cell? ⟨b, o, none⟩ = some (.int .u8 (byteAt l 0)) := H.out 0 (by omega)
      have h1 := H.out 1 (by omega)
      have h2 := H.out 2 (by omega)
      have h3 := H.out 3 (by omega)
      clear H
      go_enter Tryd.func35, Tryd.ntmps35
      go_wp2
      go_ret
      exact ⟨ret_u64 S1.out.2.2.2, rfl⟩
    · have h0 : w.cell? ⟨b, o, none⟩ = some (.int .u8 (byteAt l 0)) := H.out 0 (by omega)
      have h1 := H.out 1 (by omega)
      have h2 := H.out 2 (by omega)
      have h3 := H.out 3 (by omega)
      have h4 := H.out 4 (by omega)
      clear H
      go_enter Tryd.func35, Tryd.ntmps35
      go_wp2
      go_ret
      exact ⟨ret_u64 G1.out.1, rfl⟩
    · have h0 : w.cell? ⟨b, o, none⟩ = some (.int .u8 (byteAt l 0)) := H.out 0 (by omega)
      have h1 := H.out 1 (by omega)
      have h2 := H.out 2 (by omega)
      have h3 := H.out 3 (by omega)
      have h4 := H.out 4 (by omega)
      have h5 := H.out 5 (by omega)
      clear H
      go_enter Tryd.func35, Tryd.ntmps35
      go_wp2
      go_ret
      exact ⟨ret_u64 G1.out.2.1, rfl⟩
    · have h0 : w.cell? ⟨b, o, none⟩ = some (.int .u8 (byteAt l 0)) := H.out 0 (by omega)
      have h1 := H.out 1 (by omega)
      have h2 := H.out 2 (by omega)
      have h3 := H.out 3 (by omega)
      have h4 := H.out 4 (by omega)
      have h5 := H.out 5 (by omega)
      have h6 := H.out 6 (by omega)
      clear H
      go_enter Tryd.func35, Tryd.ntmps35
      go_wp2
      go_ret
      exact ⟨ret_u64 G1.out.2.2.1, rfl⟩
    · have h0 : w.cell? ⟨b, o, none⟩ = some (.int .u8 (byteAt l 0)) := H.out 0 (by omega)
      have h1 := H.out 1 (by omega)
      have h2 := H.out 2 (by omega)
      have h3 := H.out 3 (by omega)
      have h4 := H.out 4 (by omega)
      have h5 := H.out 5 (by omega)
      have h6 := H.out 6 (by omega)
      have h7 := H.out 7 (by omega)
      clear H
      go_enter Tryd.func35, Tryd.ntmps35
      go_wp2
      go_ret
      exact ⟨ret_u64 G1.out.2.2.2, rfl⟩
end Go.Proofs.YtjkdlmielckaaaaDoor
