/-
  tetherref03: Proto, Map, sum.
-/
import Derived.Test.YtmdlpbgelgeiaaaDoorHdBody
import Derived.Deep.QuietTactic
namespace Go.Proofs.YtmdlpbgelgeiaaaDoor
open Go.RowKit
set_option maxRecDepth 100000
set_option maxHeartbeats 2000000
set_option linter.unusedSimpArgs false
set_option linter.unusedVariables false

theorem rproto_any (n : Int) (w : World) : Calls Tryd.prog 40 #[.int .i64 n] w fun e w' => e = .returned (.bool (protoB n)) ∧ w = w' := by
  by_cases h0 : 1 ≤ n
  · have d0 : decide (1 ≤ n) = true := by simpa using h0
    by_cases h1 : n ≤ 65535
    · have d1 : decide (n ≤ 65535) = true := by simpa using h1
      have e : protoB n = ((n % 2 == 1) && (n / 256 % 2 == 0)) := by
        unfold protoB
        rw [Bool.eq_iff_iff]
        simp
        omega
      rw [e]
      rcases e1 : (n % 2 == 1) with _ | _
      · clear e
        go_enter Tryd.func40, Tryd.ntmps40
        go_wp2
        go_ret
        exact ⟨rfl, rfl⟩
      · rcases e2 : (n / 256 % 2 == 0) with _ | _
        all_goals
          clear e
          go_enter Tryd.func40, Tryd.ntmps40
          go_wp2
          go_ret
          exact ⟨rfl, rfl⟩
    · have d1 : decide (n ≤ 65535) = false := by simpa using h1
      have e : protoB n = false := by unfold protoB; simp; omega
      rw [e]
      go_enter Tryd.func40, Tryd.ntmps40
      go_wp2
      go_ret
      exact ⟨rfl, rfl⟩
  · have d0 : decide (1 ≤ n) = false := by simpa using h0
    have e : protoB n = false := by unfold protoB; simp; omega
    rw [e]
    go_enter Tryd.func40, Tryd.ntmps40
    go_wp2
    go_ret
    exact ⟨rfl, rfl⟩
theorem rmap_any (a : Int) (w : World) : Calls Tryd.prog 35 #[.int .i64 a] w fun e w' => e = .returned (.bool (mapB a)) ∧ w = w' := by
  by_cases h0 : 0 ≤ a
  · have d0 : decide (0 ≤ a) = true := by simpa using h0
    rcases e : decide (a < 4294967296) with _ | _
    · have e2 : mapB a = false := by unfold mapB; simp at e; simp; omega
      rw [e2]
      clear e2
      go_enter Tryd.func35, Tryd.ntmps35
      go_wp2
      go_ret
      exact ⟨rfl, rfl⟩
    · have e2 : mapB a = true := by unfold mapB; simp at e; simp; omega
      rw [e2]
      clear e2
      go_enter Tryd.func35, Tryd.ntmps35
      go_wp2
      go_ret
      exact ⟨rfl, rfl⟩
  · have d0 : decide (0 ≤ a) = false := by simpa using h0
    have e : mapB a = false := by unfold mapB; simp; omega
    rw [e]
    go_enter Tryd.func35, Tryd.ntmps35
    go_wp2
    go_ret
    exact ⟨rfl, rfl⟩
theorem odd_and16 (V : Nat) (h : V < 2 ^ 16) : (bits .and .u16 (V : Int) 1 == 1) = decide (V % 2 = 1) := by
  have ea : (BitVec.ofInt 16 (V : Int)).toNat = V := by rw [BitVec.toNat_ofInt]; omega
  have eb : (BitVec.ofInt 16 1).toNat = 1 := by decide
  have key : (BitVec.ofInt 16 (V : Int) &&& BitVec.ofInt 16 1).toNat = V % 2 := by
    rw [BitVec.toNat_and, ea, eb]; exact Nat.and_two_pow_sub_one_eq_mod V 1
  have e : bits .and .u16 (V : Int) 1 = ((V % 2 : Nat) : Int) := by
    show IntKind.u16.wrap ((BitVec.ofInt 16 (V : Int) &&& BitVec.ofInt 16 1).toNat : Nat) = _
    rw [key]
    exact IntWalk.u16_in _ (by omega)
  rw [e, Bool.eq_iff_iff]
  simp
  omega

theorem rsum03_any (A : Option Addr) (n c B : Nat) (l : List UInt8) (w : World) (hr : Rd w B A n l) (hn : n ≤ maxLen) :
    Calls Tryd.prog 41 #[.slice A n c] w fun e w' => e = .returned (.int .u16 (sum16 l : Nat)) ∧ w = w' := by
  unfold maxLen at hn
  have H := Lib.hid hr
  clear hr
  go_enter Tryd.func41, Tryd.ntmps41
  go_wp2
  go_loop [3, 4] (fun r i => ∃ (k V : Nat) (z : Int), k ≤ n ∧ i = .int .i64 k ∧ r = .int .u16 z ∧ Hid (z = (V : Int)) ∧ Hid (V < 2 ^ 16) ∧ Hid (crc P16 V (l.drop k) = crc P16 65535 l)) (fun _ i => n - (intOf i).toNat)
  case atStart => exact ⟨0, 65535, 65535, Nat.zero_le _, rfl, rfl, (rfl : (65535 : Int) = ((65535 : Nat) : Int)), (by decide : (65535 : Nat) < 2 ^ 16), rfl⟩
  case round =>
    obtain ⟨k, V, z, hk, rfl, rfl, HZ, HV, HC⟩ := hrel
    by_cases hlt : k < n
    · obtain ⟨b, o, rfl, _, hcell⟩ := H.out.2 (by omega)
      have hc := hcell k hlt
      obtain ⟨ch, hd, hb⟩ := byteAt_drop0 l k (by have := H.out.1; omega)
      obtain ⟨y, hy⟩ : ∃ y : Int, y = (ch.toNat : Int) := ⟨_, rfl⟩
      rw [hb, ← hy] at hc
      have hch := ch.toNat_lt
      have hy0 : 0 ≤ y := by omega
      have hy1 : y ≤ 255 := by omega
      have HX : Hid (V ^^^ ch.toNat < 2 ^ 16) := Nat.xor_lt_two_pow HV.out (by omega)
      obtain ⟨x, hx⟩ : ∃ x : Int, x = ((V ^^^ ch.toNat : Nat) : Int) := ⟨_, rfl⟩
      have hxor : bits .xor .u16 z y = x := by rw [HZ.out, hy, hx]; exact xor_int16 _ _ HV.out (by omega)
      have XZ := Lib.hid hx
      have HD := Lib.hid hd
      clear hd hb hcell hy hch hx
      go_wp2
      go_loop [3, 5] (fun r i => ∃ (j V2 : Nat) (z2 : Int), j ≤ 8 ∧ i = .int .i64 j ∧ r = .int .u16 z2 ∧ Hid (z2 = (V2 : Int)) ∧ Hid (V2 = stps P16 j (V ^^^ ch.toNat))) (fun _ i => 8 - (intOf i).toNat)
      case atStart => exact ⟨0, V ^^^ ch.toNat, x, by omega, rfl, rfl, XZ, rfl⟩
      case round =>
        obtain ⟨j, V2, z2, hj, rfl, rfl, HZ2, H2⟩ := hrel
        have HL2 : Hid (V2 < 2 ^ 16) := by
          show V2 < 2 ^ 16
          rw [H2.out]
          exact stps_lt P16_lt j _ HX.out
        have z20 : 0 ≤ z2 := by have := HZ2.out; omega
        have z21 : z2 ≤ 65535 := by have := HZ2.out; have := HL2.out; omega
        by_cases hjt : j < 8
        · have HS : Hid (stp P16 V2 = stps P16 (j + 1) (V ^^^ ch.toNat)) := by
            show _ = _
            rw [stps_succ, ← H2.out]
          rcases Nat.mod_two_eq_zero_or_one V2 with h0 | h0
          · have ha : (bits .and .u16 z2 1 == 1) = false := by rw [HZ2.out, odd_and16 V2 HL2.out, h0]; rfl
            have HT : Hid (stp P16 V2 = V2 / 2) := by
              show _ = _
              unfold stp
              rw [if_neg (by omega), Nat.xor_zero]
            clear h0
            go_wp2
            go_round
            case rel => exact ⟨j + 1, V2 / 2, _, by omega, by go_num, rfl, (by show _ = _; rw [HZ2.out]; omega), (by show _ = _; rw [← HS.out, HT.out])⟩
            case measure => simp [intOf]; omega
          · have ha : (bits .and .u16 z2 1 == 1) = true := by rw [HZ2.out, odd_and16 V2 HL2.out, h0]; rfl
            have HT : Hid (stp P16 V2 = V2 / 2 ^^^ 33800) := by
              show _ = _
              unfold stp
              rw [if_pos h0]
              rfl
            obtain ⟨x2, hx2⟩ : ∃ x2 : Int, x2 = ((V2 / 2 ^^^ 33800 : Nat) : Int) := ⟨_, rfl⟩
            have hxor2 : bits .xor .u16 (z2 / 2) 33800 = x2 := by
              have e : z2 / 2 = ((V2 / 2 : Nat) : Int) := by rw [HZ2.out]; omega
              rw [e, hx2]
              exact xor_int16 _ _ (by have := HL2.out; omega) (by decide)
            have XZ2 := Lib.hid hx2
            clear h0 hx2
            go_wp2
            go_round
            case rel => exact ⟨j + 1, V2 / 2 ^^^ 33800, x2, by omega, by go_num, rfl, XZ2, (by show _ = _; rw [← HS.out, HT.out])⟩
            case measure => simp [intOf]; omega
        · have : j = 8 := by omega
          subst this
          go_wp2
          go_round
          case rel => exact ⟨k + 1, V2, z2, by omega, by go_num, rfl, HZ2, (by show V2 < 2 ^ 16; rw [H2.out]; exact stps_lt P16_lt 8 _ HX.out), (by show _ = _; rw [← HC.out, HD.out, H2.out]; rfl)⟩
          case measure => simp [intOf]; omega
    · have : k = n := by omega
      subst this
      have HF : Hid (z = ((crc P16 65535 l : Nat) : Int)) := by
        show _ = _
        have := HC.out
        rw [List.drop_eq_nil_of_le (by have := H.out.1; omega)] at this
        rw [HZ.out, ← this]
        rfl
      have hx : bits .xor .u16 IntKind.u16.max z = ((sum16 l : Nat) : Int) := by
        have hl := crc16_lt l 65535 (by omega)
        have h := xor_int16 65535 _ (by omega) hl
        rw [full_xor16 _ hl] at h
        rw [HF.out]
        exact h
      have X := Lib.hid hx
      clear hx
      go_wp2
      go_ret
      exact ⟨by rw [← X.out]; rfl, rfl⟩
end Go.Proofs.YtmdlpbgelgeiaaaDoor
