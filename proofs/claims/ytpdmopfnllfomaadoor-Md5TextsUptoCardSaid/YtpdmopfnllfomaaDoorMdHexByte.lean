/-
  strconv.ParseUint of two bytes, in base 16, of 8 bits.
-/
import Derived.Test.YtpdmopfnllfomaaDoorMdHex
import Derived.Test.YtpdmopfnllfomaaDoorHexMath
import Derived.LoopTactic
import Derived.Deep.RegionWith
import Derived.Deep.QuietTactic
import Derived.BigQuiet
import Derived.Lib.ConvBytes
import Derived.Lib.AtoiErrMem
import Derived.Lib.IfaceEq
import Derived.Lib.Walk
namespace Go.Proofs.YtpdmopfnllfomaaDoor
open Go.RowKit
set_option maxRecDepth 100000
set_option maxHeartbeats 1000000
set_option linter.unusedSimpArgs false
set_option linter.unusedVariables false

/-- a letter's small form, as the library reckons it -/
def low (c : UInt8) : UInt8 := c ||| 32
theorem dig_kind : ∀ n : Fin 256, let c := UInt8.ofNat n.val
    (isDig c = true → (48 ≤ c.toNat ∧ c.toNat ≤ 57 ∧ digVal c = c.toNat - 48) ∨ (¬ (48 ≤ c.toNat ∧ c.toNat ≤ 57) ∧ 97 ≤ (low c).toNat ∧ (low c).toNat ≤ 102 ∧ digVal c = (low c).toNat - 87 ∧ c.toNat ≠ 95)) ∧
    (isDig c = false → ¬ (48 ≤ c.toNat ∧ c.toNat ≤ 57) ∧ ((low c).toNat < 97 ∨ 122 < (low c).toNat ∨ (103 ≤ (low c).toNat ∧ (low c).toNat ≤ 122))) := by decide +kernel
theorem dig_kinds (c : UInt8) :
    (isDig c = true → (48 ≤ c.toNat ∧ c.toNat ≤ 57 ∧ digVal c = c.toNat - 48) ∨ (¬ (48 ≤ c.toNat ∧ c.toNat ≤ 57) ∧ 97 ≤ (low c).toNat ∧ (low c).toNat ≤ 102 ∧ digVal c = (low c).toNat - 87 ∧ c.toNat ≠ 95)) ∧
    (isDig c = false → ¬ (48 ≤ c.toNat ∧ c.toNat ≤ 57) ∧ ((low c).toNat < 97 ∨ 122 < (low c).toNat ∨ (103 ≤ (low c).toNat ∧ (low c).toNat ≤ 122))) := by
  have h := dig_kind ⟨c.toNat, c.toNat_lt⟩
  simpa using h
theorem low_or (c : UInt8) : bits .or .u8 (c.toNat : Int) 32 = ((low c).toNat : Int) := by
  have h := u8_or_nat c.toNat 32 c.toNat_lt (by omega)
  exact h
theorem lower_any (c : UInt8) (w : World) : Calls Tryd.prog 55 #[.int .u8 (c.toNat : Int)] w fun e w' => e = .returned (.int .u8 ((low c).toNat : Int)) ∧ w = w' := by
  have h := low_or c
  generalize (c.toNat : Int) = z at *
  generalize ((low c).toNat : Int) = y at *
  go_enter Tryd.func55, Tryd.ntmps55
  go_wp2
  go_ret
  exact ⟨rfl, rfl⟩
def two (c0 c1 : UInt8) : Nat → UInt8
  | 0 => c0
  | _ => c1
def val2 (c0 c1 : UInt8) : Nat → Nat
  | 0 => 0
  | 1 => digVal c0
  | _ => 16 * digVal c0 + digVal c1
theorem val2_next (c0 c1 : UInt8) (i : Nat) (hi : i < 2) : val2 c0 c1 (i + 1) = 16 * val2 c0 c1 i + digVal (two c0 c1 i) := by
  match i, hi with
  | 0, _ => simp [val2, two]
  | 1, _ => rfl
theorem val2_lt (c0 c1 : UInt8) (i : Nat) (hi : i < 2) (h : ∀ j, j < i → isDig (two c0 c1 j) = true) : val2 c0 c1 i < 16 := by
  match i, hi with
  | 0, _ => simp [val2]
  | 1, _ => exact digVal_lt (h 0 (by omega))
/-- how it ends: the number, or the syntax's error -/
def Parse2 (c0 c1 : UInt8) (e : Ending) : Prop :=
  (isDig c0 = true ∧ isDig c1 = true ∧ e = .returned (.tuple #[.int .u64 ((16 * digVal c0 + digVal c1 : Nat) : Int), .nilIface])) ∨
  (¬ (isDig c0 = true ∧ isDig c1 = true) ∧ e = .returned (.tuple #[.int .u64 0, .iface 94 (.int .i64 2)]))
theorem parse16_in (c0 c1 : UInt8) (w : World) : Calls Tryd.prog 52 #[.string { data := #[c0, c1] }, .int .i64 16, .int .i64 8] w fun e w' => Below w.heap.size w w' ∧ Parse2 c0 c1 e := by
  obtain ⟨W, hW⟩ : ∃ W, W = Lib.bytesWorld w 5 { data := #[c0, c1] } := ⟨_, rfl⟩
  obtain ⟨cap, hcap⟩ : ∃ cap, cap = grownCap w 2 0 5 := ⟨_, rfl⟩
  have hcv : (convert 9 22 (.string { data := #[c0, c1] })).run Tryd.prog w = .ok (.slice (some ⟨w.heap.size, 0, none⟩) 2 cap) W := by
    rw [hW, hcap]
    exact Lib.run_convert_string_bytes (P := Tryd.prog) w 9 22 5 { data := #[c0, c1] } Tryd.underlying9 Tryd.underlying22 Tryd.underlying5
  have hq : ∀ i, i < 2 → W.cell? ⟨w.heap.size, i, none⟩ = some (.int .u8 ((two c0 c1 i).toNat : Int)) := by
    intro i hi
    rw [hW, Lib.bytesWorld_cell w 5 { data := #[c0, c1] } i hi]
    match i, hi with
    | 0, _ => rfl
    | 1, _ => rfl
  have BW : Hid (Below w.heap.size w W) := by rw [hW]; exact Lib.bytesWorld_below _ _ _
  have HQ := Lib.hid hq
  clear hW hcap hq
  go_enter Tryd.func52, Tryd.ntmps52
  go_wp2
  go_loopw [12, 13, 101] (fun vu vn vi wr => ∃ (i : Nat) (N : Int), vu = .bool false ∧ vn = .int .u64 N ∧ vi = .int .i64 i ∧ i ≤ 2 ∧ Hid ((∀ j, j < i → isDig (two c0 c1 j) = true) ∧ N = (val2 c0 c1 i : Nat)) ∧ wr = W) (fun _ _ vi _ => 2 - (intOf vi).toNat)
  case atStart => exact ⟨0, 0, rfl, rfl, rfl, by omega, ⟨fun j hj => absurd hj (by omega), rfl⟩, rfl⟩
  case round =>
    obtain ⟨i, N, rfl, rfl, rfl, hi, hP, rfl⟩ := hrel
    by_cases hlt : i < 2
    · have hcell := HQ.out i hlt
      have hN16 := val2_lt c0 c1 i hlt hP.out.1
      have n0 : 0 ≤ N := by have := hP.out.2; omega
      have n1 : N ≤ 15 := by have := hP.out.2; omega
      obtain ⟨kY, kN⟩ := dig_kinds (two c0 c1 i)
      have LO := Lib.hid (fun w => lower_any (two c0 c1 i) w)
      have VN := Lib.hid (val2_next c0 c1 i hlt)
      by_cases d : isDig (two c0 c1 i) = true
      · have hP2 : Hid (∀ j, j < i + 1 → isDig (two c0 c1 j) = true) := fun j hj => by
          rcases (show j < i ∨ j = i by omega) with h | rfl
          · exact hP.out.1 j h
          · exact d
        have kk := kY d
        clear kY kN d
        have VN2 : Hid (((val2 c0 c1 (i + 1) : Nat) : Int) = N * 16 + ((digVal (two c0 c1 i) : Nat) : Int)) := by
          show _ = _
          rw [VN.out, hP.out.2]
          omega
        generalize hz : ((two c0 c1 i).toNat : Int) = z at *
        generalize hy : ((low (two c0 c1 i)).toNat : Int) = y at *
        generalize digVal (two c0 c1 i) = D at *
        have kk2 : (48 ≤ z ∧ z ≤ 57 ∧ (D : Int) = z - 48) ∨ ((z < 48 ∨ 57 < z) ∧ 97 ≤ y ∧ y ≤ 102 ∧ (D : Int) = y - 87 ∧ z ≠ 95) := by omega
        have HPP := hP2
        clear kk hz hy VN hP hP2 hN16
        rcases kk2 with ⟨z1, z2, hD⟩ | ⟨hz, y1, y2, hD, hz95⟩
        · have HD := Lib.hid hD
          clear hD
          go_wp2
          go_roundw
          case rel => exact ⟨i + 1, _, rfl, rfl, by go_num, by omega, ⟨HPP.out, by rw [VN2.out, HD.out]⟩, trivial⟩
          case measure => simp [intOf]; omega
        · have HD := Lib.hid hD
          clear hD
          rcases hz with z1 | z1
          all_goals
            go_wp2_with (go_at_call 55; refine (LO.out _).mono ?_; rintro e w' ⟨rfl, rfl⟩)
            go_roundw
            case rel => exact ⟨i + 1, _, rfl, rfl, by go_num, by omega, ⟨HPP.out, by rw [VN2.out, HD.out]; omega⟩, trivial⟩
            case measure => simp [intOf]; omega
      · have hno : Hid (¬ (isDig c0 = true ∧ isDig c1 = true)) := fun h => by
          match i, hlt, d with
          | 0, _, d => exact d h.1
          | 1, _, d => exact d h.2
        have kk := kN (by rwa [Bool.not_eq_true] at d)
        clear kY kN d
        generalize hz : ((two c0 c1 i).toNat : Int) = z at *
        generalize hy : ((low (two c0 c1 i)).toNat : Int) = y at *
        have kk2 : (z < 48 ∨ (57 < z ∧ z ≠ 95) ∨ z = 95) ∧ (y < 97 ∨ 122 < y ∨ (103 ≤ y ∧ y ≤ 122)) := by omega
        clear kk hz hy VN hP hN16
        obtain ⟨h1, h2⟩ := kk2
        rcases h1 with z1 | ⟨z1, z95⟩ | rfl
        all_goals
          rcases h2 with y1 | y1 | ⟨y1, y2⟩
          all_goals
            go_wp2_with (go_at_call 55; refine (LO.out _).mono ?_; rintro e w' ⟨rfl, rfl⟩)
            go_ret2
            exact ⟨BW.out, .inr ⟨hno.out, rfl⟩⟩
    · obtain rfl : i = 2 := by omega
      have hd0 : Hid (isDig c0 = true) := hP.out.1 0 (by omega)
      have hd1 : Hid (isDig c1 = true) := hP.out.1 1 (by omega)
      have hN : Hid (N = ((16 * digVal c0 + digVal c1 : Nat) : Int)) := hP.out.2
      clear hP
      go_wp2
      go_ret2
      exact ⟨BW.out, .inl ⟨hd0.out, hd1.out, by rw [← hN.out]; rfl⟩⟩
end Go.Proofs.YtpdmopfnllfomaaDoor
