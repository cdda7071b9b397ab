/-
  tetherref04's word, turns, Ks, Begin.
-/
import Derived.Test.YtdijgmijnoiliaaDoorMdRot
import Derived.Deep.QuietTactic
import Derived.BigQuiet
namespace Go.Proofs.YtdijgmijnoiliaaDoor
open Go.RowKit
set_option maxRecDepth 100000
set_option maxHeartbeats 1000000
set_option linter.unusedSimpArgs false
set_option linter.unusedVariables false

theorem rword_any (A : Option Addr) (cap B : Nat) (l : List UInt8) (w : World) (hr : Rd w B A 4 l) (hc : 4 ≤ cap) :
    Calls Tryd.prog 66 #[.slice A 4 cap] w fun e w' => e = .returned (.int .u32 (mdWord l 0)) ∧ ∃ k, w' = w.drewN k := by
  obtain ⟨b, off, rfl, hb, hcell⟩ := hr.2 (by omega)
  have k0 : w.cell? ⟨b, off, none⟩ = some (.int .u8 (byteAt l 0)) := hcell 0 (by omega)
  have k1 := hcell 1 (by omega)
  have k2 := hcell 2 (by omega)
  have k3 := hcell 3 (by omega)
  have a0 := byteAt_lo l 0
  have a1 := byteAt_lo l 1
  have a2 := byteAt_lo l 2
  have a3 := byteAt_lo l 3
  have b0 := byteAt_hi l 0
  have b1 := byteAt_hi l 1
  have b2 := byteAt_hi l 2
  have b3 := byteAt_hi l 3
  have E : Hid (mdWord l 0 = byteAt l 0 + 256 * byteAt l 1 + 65536 * byteAt l 2 + 16777216 * byteAt l 3) := rfl
  generalize byteAt l 0 = y0 at *
  generalize byteAt l 1 = y1 at *
  generalize byteAt l 2 = y2 at *
  generalize byteAt l 3 = y3 at *
  generalize mdWord l 0 = z at *
  have w1 : IntKind.u32.wrap (y0 + y1 * 256) = y0 + y1 * 256 := by rw [IntKind.wrap_u32']; omega
  have w2 : IntKind.u32.wrap (y0 + y1 * 256 + y2 * 65536) = y0 + y1 * 256 + y2 * 65536 := by rw [IntKind.wrap_u32']; omega
  have w3 : IntKind.u32.wrap (y0 + y1 * 256 + y2 * 65536 + y3 * 16777216) = z := by rw [IntKind.wrap_u32', E.out]; omega
  have v0 : IntKind.u32.wrap y0 = y0 := by rw [IntKind.wrap_u32']; omega
  have v1 : IntKind.u32.wrap y1 = y1 := by rw [IntKind.wrap_u32']; omega
  have v2 : IntKind.u32.wrap y2 = y2 := by rw [IntKind.wrap_u32']; omega
  have v3 : IntKind.u32.wrap y3 = y3 := by rw [IntKind.wrap_u32']; omega
  have m0 : y0 % 4294967296 = y0 := by omega
  have m1 : y1 % 4294967296 = y1 := by omega
  have m2 : y2 % 4294967296 = y2 := by omega
  have m3 : y3 % 4294967296 = y3 := by omega
  have n1 : y1 * 256 % 4294967296 = y1 * 256 := by omega
  have n2 : y2 * 65536 % 4294967296 = y2 * 65536 := by omega
  have n3 : y3 * 16777216 % 4294967296 = y3 * 16777216 := by omega
  clear hr hcell
  go_enter Tryd.func66, Tryd.ntmps66
  go_wp2
  go_quiet (fail)
  go_wp2
  go_ret
  exact ⟨rfl, _, rfl⟩
def ksCells : List Value := mdK.map (Value.int .u32)
theorem ks_at : ∀ i, i < 64 → ksCells[i]? = some (.int .u32 (mdK.getD i 0)) := by
  intro i hi
  have : i < mdK.length := hi
  unfold ksCells
  rw [List.getElem?_map, List.getElem?_eq_getElem this, List.getD_eq_getElem?_getD, List.getElem?_eq_getElem this]
  rfl
theorem rks_any (w : World) :
    Calls Tryd.prog 65 #[] w fun e w' => e = .returned (.slice (some ⟨w.heap.size, 0, none⟩) 64 64) ∧ Blk w' w.heap.size 93 ksCells ∧ Below w.heap.size w w' := by
  go_enter Tryd.func65, Tryd.ntmps65
  go_wp2
  go_ret
  exact ⟨rfl, blk_new w _ ksCells, (Below.refl _ _).alloc (Nat.le_refl _) _⟩
def tsCells : List Value := mdS.map (Value.int .u64)
theorem ts_at : ∀ i, i < 16 → tsCells[i]? = some (.int .u64 (mdS.getD i 0)) := by
  intro i hi
  have : i < mdS.length := hi
  unfold tsCells
  rw [List.getElem?_map, List.getElem?_eq_getElem this, List.getD_eq_getElem?_getD, List.getElem?_eq_getElem this]
  rfl
theorem rturns_any (i : Nat) (w : World) (hi : i < 64) :
    Calls Tryd.prog 67 #[.int .i64 (i : Int)] w fun e w' => e = .returned (.int .u64 ((mdTurn i : Nat) : Int)) ∧ Below w.heap.size w w' := by
  have hj : i / 16 * 4 + i % 4 < 16 := by omega
  have hS : ∀ i, i < 16 → mdS.getD i 0 = (((mdS.getD i 0).toNat : Nat) : Int) := by decide
  have k := (blk_new w 92 tsCells).cell (i / 16 * 4 + i % 4)
  have e : tsCells[i / 16 * 4 + i % 4]'hj = .int .u64 (mdS.getD (i / 16 * 4 + i % 4) 0) := by
    have h := ts_at _ hj
    rw [List.getElem?_eq_getElem (show i / 16 * 4 + i % 4 < tsCells.length from hj)] at h
    exact Option.some.inj h
  rw [ts_at _ hj, hS _ hj] at k
  rw [hS _ hj] at e
  have hdef : mdTurn i = (mdS.getD (i / 16 * 4 + i % 4) 0).toNat := rfl
  rw [← hdef] at k e
  have EE := Lib.hid e
  clear e
  generalize mdTurn i = s at *
  have q0 : (0 : Int) ≤ (i : Int) := by omega
  have q1 : (i : Int) < 64 := by omega
  have h4 : (i : Int) / 16 * 4 + (i : Int) % 4 < 16 := by omega
  go_enter Tryd.func67, Tryd.ntmps67
  go_wp2
  go_ret
  exact ⟨congrArg Ending.returned EE.out, (Below.refl _ _).alloc (Nat.le_refl _) _⟩
end Go.Proofs.YtdijgmijnoiliaaDoor
