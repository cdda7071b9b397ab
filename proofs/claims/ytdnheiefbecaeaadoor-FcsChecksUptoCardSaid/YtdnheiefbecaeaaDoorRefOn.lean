/-
  tetherref02.On: the register of some polynomial behind bytes, bit by bit; On16, On32, Sum16, Sum32 of it. They only read.
-/
import Derived.Test.YtdnheiefbecaeaaDoorBits
namespace Go.Proofs.YtdnheiefbecaeaaDoor
open Go.RowKit
set_option maxRecDepth 100000
set_option maxHeartbeats 800000
set_option linter.unusedSimpArgs false
set_option linter.unusedVariables false

theorem refon_any (A : Option Addr) (n c p R B : Nat) (l : List UInt8) (w : World) (hr : Rd w B A n l) (hn : n ≤ maxLen) (hp : p < 2 ^ 32) (hR : R < 2 ^ 32) :
    Calls Tryd.prog 87 #[.int .u32 (R : Int), .slice A n c, .int .u32 (p : Int)] w fun e w' => e = .returned (.int .u32 (crc p R l : Nat)) ∧ w = w' := by
  unfold maxLen at hn
  have HP := Lib.hid hp
  have HR := Lib.hid hR
  have H := Lib.hid hr
  clear hp hR hr
  obtain ⟨pz, hpz⟩ : ∃ pz : Int, pz = (p : Int) := ⟨_, rfl⟩
  obtain ⟨rz, hrz⟩ : ∃ rz : Int, rz = (R : Int) := ⟨_, rfl⟩
  rw [← hpz, ← hrz]
  have PZ := Lib.hid hpz
  have RZ := Lib.hid hrz
  clear hpz hrz
  go_enter Tryd.func87, Tryd.ntmps87
  go_wp2
  go_loop [0, 13] (fun r i => ∃ (k V : Nat) (z : Int), k ≤ n ∧ i = .int .i64 k ∧ r = .int .u32 z ∧ Hid (z = (V : Int)) ∧ Hid (V < 2 ^ 32) ∧ Hid (crc p V (l.drop k) = crc p R l)) (fun _ i => n - (intOf i).toNat)
  case atStart => exact ⟨0, R, rz, Nat.zero_le _, rfl, rfl, RZ, HR, rfl⟩
  case round =>
    obtain ⟨k, V, z, hk, rfl, rfl, HZ, HV, HC⟩ := hrel
    by_cases hlt : k < n
    · obtain ⟨b, o, rfl, _, hcell⟩ := H.out.2 (by omega)
      have hc := hcell k hlt
      obtain ⟨ch, hd, hb⟩ := byteAt_drop0 l k (by have := H.out.1; omega)
      obtain ⟨y, hy⟩ : ∃ y : Int, y = (ch.toNat : Int) := ⟨_, rfl⟩
      rw [hb, ← hy] at hc
      have hch := ch.toNat_lt
      have hy0 : 0 ≤ y := by omega
      have hy1 : y ≤ 255 := by omega
      have HX : Hid (V ^^^ ch.toNat < 2 ^ 32) := Nat.xor_lt_two_pow HV.out (by omega)
      obtain ⟨x, hx⟩ : ∃ x : Int, x = ((V ^^^ ch.toNat : Nat) : Int) := ⟨_, rfl⟩
      have hxor : bits .xor .u32 z y = x := by rw [HZ.out, hy, hx]; exact xor_int32 _ _ HV.out (by omega)
      have XZ := Lib.hid hx
      have HD := Lib.hid hd
      clear hd hb hcell hy hch hx
      go_wp2
      go_loop [0, 9] (fun r i => ∃ (j V2 : Nat) (z2 : Int), j ≤ 8 ∧ i = .int .i64 j ∧ r = .int .u32 z2 ∧ Hid (z2 = (V2 : Int)) ∧ Hid (V2 = stps p j (V ^^^ ch.toNat))) (fun _ i => 8 - (intOf i).toNat)
      case atStart => exact ⟨0, V ^^^ ch.toNat, x, by omega, rfl, rfl, XZ, rfl⟩
      case round =>
        obtain ⟨j, V2, z2, hj, rfl, rfl, HZ2, H2⟩ := hrel
        have HL2 : Hid (V2 < 2 ^ 32) := by
          show V2 < 2 ^ 32
          rw [H2.out]
          exact stps_lt HP.out j _ HX.out
        have z20 : 0 ≤ z2 := by have := HZ2.out; omega
        have z21 : z2 ≤ 4294967295 := by have := HZ2.out; have := HL2.out; omega
        by_cases hjt : j < 8
        · have HS : Hid (stp p V2 = stps p (j + 1) (V ^^^ ch.toNat)) := by
            show _ = _
            rw [stps_succ, ← H2.out]
          rcases Nat.mod_two_eq_zero_or_one V2 with h0 | h0
          · have ha : bits .and .u32 z2 1 = 0 := by rw [HZ2.out, odd_and V2 HL2.out, h0]; rfl
            have HT : Hid (stp p V2 = V2 / 2) := by
              show _ = _
              unfold stp
              rw [if_neg (by omega), Nat.xor_zero]
            clear h0
            go_wp2
            go_round
            case rel => exact ⟨j + 1, V2 / 2, _, by omega, by go_num, rfl, (by show _ = _; rw [HZ2.out]; omega), (by show _ = _; rw [← HS.out, HT.out])⟩
            case measure => simp [intOf]; omega
          · have ha : bits .and .u32 z2 1 = 1 := by rw [HZ2.out, odd_and V2 HL2.out, h0]; rfl
            have HT : Hid (stp p V2 = V2 / 2 ^^^ p) := by
              show _ = _
              unfold stp
              rw [if_pos h0]
            obtain ⟨x2, hx2⟩ : ∃ x2 : Int, x2 = ((V2 / 2 ^^^ p : Nat) : Int) := ⟨_, rfl⟩
            have hxor2 : bits .xor .u32 (z2 / 2) pz = x2 := by
              have e : z2 / 2 = ((V2 / 2 : Nat) : Int) := by rw [HZ2.out]; omega
              rw [e, PZ.out, hx2]
              exact xor_int32 _ _ (by have := HL2.out; omega) HP.out
            have XZ2 := Lib.hid hx2
            clear h0 hx2
            go_wp2
            go_round
            case rel => exact ⟨j + 1, V2 / 2 ^^^ p, x2, by omega, by go_num, rfl, XZ2, (by show _ = _; rw [← HS.out, HT.out])⟩
            case measure => simp [intOf]; omega
        · have : j = 8 := by omega
          subst this
          go_wp2
          go_round
          case rel => exact ⟨k + 1, V2, z2, by omega, by go_num, rfl, HZ2, HL2, (by show _ = _; rw [← HC.out, HD.out, H2.out]; rfl)⟩
          case measure => simp [intOf]; omega
    · have : k = n := by omega
      subst this
      have HF : Hid (z = ((crc p R l : Nat) : Int)) := by
        show _ = _
        have := HC.out
        rw [List.drop_eq_nil_of_le (by have := H.out.1; omega)] at this
        rw [HZ.out, ← this]
        rfl
      go_wp2
      go_ret
      exact ⟨by rw [← HF.out]; rfl, rfl⟩
end Go.Proofs.YtdnheiefbecaeaaDoor
