/-
  fcs.On16, fcs.Sum16, tetherref02.On16, tetherref02.Sum16: the register behind bytes, and its complement. They only read.
-/
import Derived.Test.YtmdlpbgelgeiaaaDoorBits0
namespace Go.Proofs.YtmdlpbgelgeiaaaDoor
open Go.RowKit
set_option maxRecDepth 100000
set_option maxHeartbeats 800000
set_option linter.unusedSimpArgs false
set_option linter.unusedVariables false

def lenOf16 : Value → Nat
  | .slice _ n _ => n
  | _ => 0
theorem P16_lt : P16 < 2 ^ 16 := by decide
theorem crc16_lt (l : List UInt8) (R : Nat) (hR : R < 2 ^ 16) : crc P16 R l < 2 ^ 16 := crc_lt P16_lt (by omega) l R hR
theorem byte16_lt (V : Nat) (c : UInt8) (h : V < 2 ^ 16) : stps P16 8 (V ^^^ c.toNat) < 2 ^ 16 := stps_lt P16_lt 8 _ (Nat.xor_lt_two_pow h (by have := c.toNat_lt; omega))
theorem next16_q (R C n : Nat) (w : World) (hR : R < 2 ^ 16) (hC : C < 256) (hT : Tab16 w) :
    Calls Tryd.prog 55 #[.int .u16 (R : Int), .int .u8 (C : Int)] (w.drewN n) fun e w'' => e = .returned (.int .u16 (stps P16 8 (R ^^^ C) : Nat)) ∧ ∃ m, w'' = w.drewN m :=
  (next16_any R C (w.drewN n) hR hC hT).mono fun _ _ ⟨he, hw⟩ => ⟨he, n, hw.symm⟩
theorem next16_q2 (R C q n : Nat) (w : World) (hR : R < 2 ^ 16) (hC : C < 256) (hT : Tab16 w) :
    Calls Tryd.prog 55 #[.int .u16 (R : Int), .int .u8 (C : Int)] (w.drewN (q + n)) fun e w'' => e = .returned (.int .u16 (stps P16 8 (R ^^^ C) : Nat)) ∧ ∃ m, w'' = w.drewN (q + m) :=
  (next16_any R C (w.drewN (q + n)) hR hC hT).mono fun _ _ ⟨he, hw⟩ => ⟨he, n, hw.symm⟩

theorem on16_any (A : Option Addr) (n c R B : Nat) (l : List UInt8) (w : World) (hr : Rd w B A n l) (hc : n ≤ c) (hn : n ≤ maxLen) (hR : R < 2 ^ 16) (hT : Tab16 w) :
    Calls Tryd.prog 53 #[.int .u16 (R : Int), .slice A n c] w fun e w' => e = .returned (.int .u16 (crc P16 R l : Nat)) ∧ ∃ k, w' = w.drewN k := by
  unfold maxLen at hn
  have HR := Lib.hid hR
  have H := Lib.hid hr
  have TT := Lib.hid hT
  clear hR hr hT
  go_enter Tryd.func53, Tryd.ntmps53
  go_wp2
  go_loopw [0, 1] (fun r b wr => ∃ (V m c' q : Nat) (A' : Option Addr) (l' : List UInt8), r = .int .u16 (V : Int) ∧ b = .slice A' m c' ∧ m ≤ c' ∧ m ≤ n ∧ Hid (V < 2 ^ 16) ∧ Hid (Rd w B A' m l') ∧ Hid (crc P16 V l' = crc P16 R l) ∧ wr = w.drewN q) (fun _ b _ => lenOf16 b)
  case atStart => exact ⟨R, n, c, 0, A, l, rfl, rfl, hc, Nat.le_refl _, HR, H, rfl, rfl⟩
  case round =>
    obtain ⟨V, m, c', q, A', l', rfl, rfl, hmc, hmn, HV, HL, HC, rfl⟩ := hrel
    by_cases hlt : 3 < m
    · obtain ⟨b, o, rfl, hb, hcell⟩ := HL.out.2 (by omega)
      have k0 : w.cell? ⟨b, o, none⟩ = some (.int .u8 (((l'.getD 0 0).toNat : Nat) : Int)) := hcell 0 (by omega)
      have k1 : w.cell? ⟨b, o + 1, none⟩ = some (.int .u8 (((l'.getD 1 0).toNat : Nat) : Int)) := hcell 1 (by omega)
      have k2 : w.cell? ⟨b, o + 2, none⟩ = some (.int .u8 (((l'.getD 2 0).toNat : Nat) : Int)) := hcell 2 (by omega)
      have k3 : w.cell? ⟨b, o + 3, none⟩ = some (.int .u8 (((l'.getD 3 0).toNat : Nat) : Int)) := hcell 3 (by omega)
      have HRD : Hid (Rd w B (some ⟨b, o + 4, none⟩) (m - 4) (l'.drop 4)) := by
        show Rd _ _ _ _ _
        refine ⟨by have := HL.out.1; rw [List.length_drop]; omega, fun _ => ⟨b, o + 4, rfl, hb, fun j hj => ?_⟩⟩
        rw [Nat.add_assoc, hcell (4 + j) (by omega)]
        congr 2
        unfold byteAt
        rw [List.getD_eq_getElem?_getD, List.getD_eq_getElem?_getD, List.getElem?_drop]
      have HE : Hid (l' = l'.getD 0 0 :: l'.getD 1 0 :: l'.getD 2 0 :: l'.getD 3 0 :: l'.drop 4) := by
        show _ = _
        have hl := HL.out.1
        match l', hl with
        | x0 :: x1 :: x2 :: x3 :: r, _ => rfl
        | [], hl => simp at hl; omega
        | [_], hl => simp at hl; omega
        | [_, _], hl => simp at hl; omega
        | [_, _, _], hl => simp at hl; omega
      clear hcell
      generalize l'.getD 0 0 = x0 at *
      generalize l'.getD 1 0 = x1 at *
      generalize l'.getD 2 0 = x2 at *
      generalize l'.getD 3 0 = x3 at *
      have HB1 := Lib.hid (byte16_lt V x0 HV.out)
      have HB2 := Lib.hid (byte16_lt _ x1 HB1.out)
      have HB3 := Lib.hid (byte16_lt _ x2 HB2.out)
      have HB4 := Lib.hid (byte16_lt _ x3 HB3.out)
      have HC2 : Hid (crc P16 (stps P16 8 (stps P16 8 (stps P16 8 (stps P16 8 (V ^^^ x0.toNat) ^^^ x1.toNat) ^^^ x2.toNat) ^^^ x3.toNat)) (l'.drop 4) = crc P16 R l) := by
        show _ = _
        rw [← HC.out]
        conv => rhs; rw [HE.out]
        rfl
      have hm1 : (1 : Int) < (m : Int) := by omega
      have hm2 : (2 : Int) < (m : Int) := by omega
      have hm3 : (3 : Int) < (m : Int) := by omega
      by_cases hc4 : c' = 4
      · subst hc4
        have hm4 : m = 4 := by omega
        subst hm4
        have HRD2 : Hid (Rd w B (some ⟨b, o, none⟩) 0 (l'.drop 4)) := by
          show Rd _ _ _ _ _
          exact ⟨HRD.out.1, fun h => absurd h (Nat.lt_irrefl 0)⟩
        go_wp2
        go_quiet ((go_at_call 55; exact next16_q2 _ _ _ _ _ (by first | exact HV.out | exact HB1.out | exact HB2.out | exact HB3.out) (UInt8.toNat_lt _) TT.out))
        go_wp2
        go_roundw
        case rel => exact ⟨_, 0, 0, _, _, _, rfl, rfl, by omega, by omega, HB4, HRD2, HC2, rfl⟩
        case measure => simp [lenOf16]
      · go_wp2
        go_quiet ((go_at_call 55; exact next16_q2 _ _ _ _ _ (by first | exact HV.out | exact HB1.out | exact HB2.out | exact HB3.out) (UInt8.toNat_lt _) TT.out))
        go_wp2
        go_roundw
        case rel => exact ⟨_, m - 4, c' - 4, _, _, _, rfl, rfl, by omega, by omega, HB4, HRD, HC2, rfl⟩
        case measure => simp [lenOf16]; omega
    · rcases (show m = 0 ∨ m = 1 ∨ m = 2 ∨ m = 3 by omega) with rfl | rfl | rfl | rfl
      · have HF : Hid (V = crc P16 R l) := by
          show _ = _
          rw [← HC.out, List.eq_nil_of_length_eq_zero HL.out.1]
          rfl
        go_wp2
        go_ret
        exact ⟨by rw [← HF.out]; rfl, q, rfl⟩
      · obtain ⟨b, o, rfl, hb, hcell⟩ := HL.out.2 (by omega)
        have k0 : w.cell? ⟨b, o, none⟩ = some (.int .u8 (((l'.getD 0 0).toNat : Nat) : Int)) := hcell 0 (by omega)
        have HE : Hid (l' = [l'.getD 0 0]) := by
          show _ = _
          have hl := HL.out.1
          match l', hl with
          | [x0], _ => rfl
        clear hcell
        generalize l'.getD 0 0 = x0 at *
        have HC2 : Hid (stps P16 8 (V ^^^ x0.toNat) = crc P16 R l) := by
          show _ = _
          rw [← HC.out]
          conv => rhs; rw [HE.out]
          rfl
        go_wp2_with fail
        refine (next16_any _ _ _ HV.out (UInt8.toNat_lt _) (TT.out.drewN q)).mono ?_
        rintro e w1 ⟨rfl, rfl⟩
        go_wp2
        go_ret
        exact ⟨by rw [← HC2.out]; rfl, q, rfl⟩
      · obtain ⟨b, o, rfl, hb, hcell⟩ := HL.out.2 (by omega)
        have k0 : w.cell? ⟨b, o, none⟩ = some (.int .u8 (((l'.getD 0 0).toNat : Nat) : Int)) := hcell 0 (by omega)
        have k1 : w.cell? ⟨b, o + 1, none⟩ = some (.int .u8 (((l'.getD 1 0).toNat : Nat) : Int)) := hcell 1 (by omega)
        have HE : Hid (l' = [l'.getD 0 0, l'.getD 1 0]) := by
          show _ = _
          have hl := HL.out.1
          match l', hl with
          | [x0, x1], _ => rfl
        clear hcell
        generalize l'.getD 0 0 = x0 at *
        generalize l'.getD 1 0 = x1 at *
        have HB1 := Lib.hid (byte16_lt V x0 HV.out)
        have HC2 : Hid (stps P16 8 (stps P16 8 (V ^^^ x0.toNat) ^^^ x1.toNat) = crc P16 R l) := by
          show _ = _
          rw [← HC.out]
          conv => rhs; rw [HE.out]
          rfl
        go_wp2_with fail
        refine (next16_any _ _ _ HV.out (UInt8.toNat_lt _) (TT.out.drewN q)).mono ?_
        rintro e w1 ⟨rfl, rfl⟩
        go_wp2_with fail
        refine (next16_any _ _ _ HB1.out (UInt8.toNat_lt _) (TT.out.drewN q)).mono ?_
        rintro e w1 ⟨rfl, rfl⟩
        go_wp2
        go_ret
        exact ⟨by rw [← HC2.out]; rfl, q, rfl⟩
      · obtain ⟨b, o, rfl, hb, hcell⟩ := HL.out.2 (by omega)
        have k0 : w.cell? ⟨b, o, none⟩ = some (.int .u8 (((l'.getD 0 0).toNat : Nat) : Int)) := hcell 0 (by omega)
        have k1 : w.cell? ⟨b, o + 1, none⟩ = some (.int .u8 (((l'.getD 1 0).toNat : Nat) : Int)) := hcell 1 (by omega)
        have k2 : w.cell? ⟨b, o + 2, none⟩ = some (.int .u8 (((l'.getD 2 0).toNat : Nat) : Int)) := hcell 2 (by omega)
        have HE : Hid (l' = [l'.getD 0 0, l'.getD 1 0, l'.getD 2 0]) := by
          show _ = _
          have hl := HL.out.1
          match l', hl with
          | [x0, x1, x2], _ => rfl
        clear hcell
        generalize l'.getD 0 0 = x0 at *
        generalize l'.getD 1 0 = x1 at *
        generalize l'.getD 2 0 = x2 at *
        have HB1 := Lib.hid (byte16_lt V x0 HV.out)
        have HB2 := Lib.hid (byte16_lt _ x1 HB1.out)
        have HC2 : Hid (stps P16 8 (stps P16 8 (stps P16 8 (V ^^^ x0.toNat) ^^^ x1.toNat) ^^^ x2.toNat) = crc P16 R l) := by
          show _ = _
          rw [← HC.out]
          conv => rhs; rw [HE.out]
          rfl
        go_wp2_with fail
        refine (next16_any _ _ _ HV.out (UInt8.toNat_lt _) (TT.out.drewN q)).mono ?_
        rintro e w1 ⟨rfl, rfl⟩
        go_wp2_with fail
        refine (next16_any _ _ _ HB1.out (UInt8.toNat_lt _) (TT.out.drewN q)).mono ?_
        rintro e w1 ⟨rfl, rfl⟩
        go_wp2_with fail
        refine (next16_any _ _ _ HB2.out (UInt8.toNat_lt _) (TT.out.drewN q)).mono ?_
        rintro e w1 ⟨rfl, rfl⟩
        go_wp2
        go_ret
        exact ⟨by rw [← HC2.out]; rfl, q, rfl⟩
end Go.Proofs.YtmdlpbgelgeiaaaDoor
