/-
  ip.Sum: the checksum of bytes.
-/
import Derived.Test.YtjkdlmielckaaaaDoorPut
import Derived.Test.YtjkdlmielckaaaaDoorTakes
import Derived.Test.YtjkdlmielckaaaaDoorIpMath
import Derived.LoopTactic
import Derived.Laws.BitsAllLaws
namespace Go.Proofs.YtjkdlmielckaaaaDoor
open Go.RowKit
set_option maxRecDepth 100000
set_option maxHeartbeats 2000000
set_option linter.unusedSimpArgs false
set_option linter.unusedVariables false

theorem and_ffff (V : Nat) (h : V < 2 ^ 64) : bits .and .u64 (V : Int) 65535 = ((V % 65536 : Nat) : Int) := by
  have ea : (BitVec.ofInt 64 (V : Int)).toNat = V := by rw [BitVec.toNat_ofInt]; omega
  have eb : (BitVec.ofInt 64 65535).toNat = 65535 := by decide
  have key : (BitVec.ofInt 64 (V : Int) &&& BitVec.ofInt 64 65535).toNat = V % 65536 := by
    rw [BitVec.toNat_and, ea, eb]; exact Nat.and_two_pow_sub_one_eq_mod V 16
  show IntKind.u64.wrap ((BitVec.ofInt 64 (V : Int) &&& BitVec.ofInt 64 65535).toNat : Nat) = _
  rw [key]
  exact IntWalk.u64_in _ (by omega)
theorem sumK_le (l : List UInt8) (k : Nat) : sumK l k ≤ 65280 * l.length := by
  have := sumI_le (l.take k) true
  unfold sumK
  rw [List.length_take] at this
  omega
theorem not16 (R : Nat) (h : R ≤ 65535) : bits .xor .u16 IntKind.u16.max (R : Int) = ((65535 - R : Nat) : Int) := by
  have ea : (BitVec.ofInt 16 (R : Int)).toNat = R := by rw [BitVec.toNat_ofInt]; omega
  have key : (BitVec.ofInt 16 IntKind.u16.max ^^^ BitVec.ofInt 16 (R : Int)).toNat = 65535 - R := by
    have e : BitVec.ofInt 16 IntKind.u16.max = BitVec.allOnes 16 := by decide
    rw [e, BitVec.allOnes_xor, BitVec.toNat_not, ea]
  show IntKind.u16.wrap ((BitVec.ofInt 16 IntKind.u16.max ^^^ BitVec.ofInt 16 (R : Int)).toNat : Nat) = _
  rw [key]
  exact IntWalk.u16_in _ (by omega)

/-- what is owned reads, also later -/
theorem own_later {w W : World} {base : Nat} {v : Value} {l : List UInt8} (ho : Own w base v l) (hB : Below w.heap.size w W) : ∃ A c, v = .slice A l.length c ∧ Rd W W.heap.size A l.length l := by
  rcases ho.form with ⟨rfl, rfl⟩ | ⟨g, cap, rfl, h1, h2, hc⟩
  · exact ⟨none, 0, rfl, Rd.nil⟩
  · have h := ho.rd rfl l.length (Nat.le_refl _)
    rw [List.take_length] at h
    exact ⟨_, _, rfl, (h.below hB).wide hB.size⟩
theorem ipSum_any (A : Option Addr) (n c B : Nat) (l : List UInt8) (w : World) (hr : Rd w B A n l) (hn : n ≤ 140737488420864) :
    Calls Tryd.prog 11 #[.slice A n c] w fun e w' => e = .returned (.int .i64 (sumZ l : Nat)) ∧ w = w' := by
  have H := Lib.hid hr
  clear hr
  go_enter Tryd.func11, Tryd.ntmps11
  go_wp2
  go_loop [3, 8] (fun r i => ∃ (k V : Nat) (z : Int), k ≤ n ∧ i = .int .i64 k ∧ r = .int .u64 z ∧ Hid (z = (V : Int)) ∧ Hid (V = sumK l k)) (fun _ i => n - (intOf i).toNat)
  case atStart => exact ⟨0, 0, 0, Nat.zero_le _, rfl, rfl, rfl, (by show 0 = sumK l 0; simp [sumK, sumI])⟩
  case round =>
    obtain ⟨k, V, z, hk, rfl, rfl, HZ, HV⟩ := hrel
    have HN : Hid (l.length = n) := Lib.hid (by have := H.out.1; omega)
    have HVle : Hid (V ≤ 65280 * n) := by
      show _ ≤ _
      rw [HV.out, ← HN.out]
      exact sumK_le l k
    have hz0 : 0 ≤ z := by have := HZ.out; omega
    have hz1 : z ≤ 9200000000000000000 := by have := HZ.out; have := HVle.out; omega
    by_cases hlt : k < n
    · obtain ⟨b, o, rfl, _, hcell⟩ := H.out.2 (by omega)
      have hc := hcell k hlt
      have hb0 := byteAt_lo l k
      have hb1 := byteAt_hi l k
      have HS := Lib.hid (sumK_succ l k (by have := HN.out; omega))
      have HB : Hid (byteAt l k = ((l[k]'(by have := HN.out; omega)).toNat : Int)) := by
        show _ = _
        unfold byteAt
        simp [List.getElem?_eq_getElem (show k < l.length by have := HN.out; omega)]
      obtain ⟨y, hy⟩ : ∃ y : Int, byteAt l k = y := ⟨_, rfl⟩
      rw [hy] at hc hb0 hb1 HB
      clear hcell hy
      rcases Nat.mod_two_eq_zero_or_one k with h2 | h2
      · have hm : (((k : Int) % 2) == 0) = true := by simp; omega
        go_wp2
        go_round
        case rel => exact ⟨k + 1, sumK l (k + 1), _, by omega, by go_num, rfl, (by show _ = _; have := HS.out; rw [if_pos h2] at this; have := HB.out; have := HZ.out; have := HV.out; omega), rfl⟩
        case measure => simp [intOf]; omega
      · have hm : (((k : Int) % 2) == 0) = false := by simp; omega
        go_wp2
        go_round
        case rel => exact ⟨k + 1, sumK l (k + 1), _, by omega, by go_num, rfl, (by show _ = _; have := HS.out; rw [if_neg (by omega)] at this; have := HB.out; have := HZ.out; have := HV.out; omega), rfl⟩
        case measure => simp [intOf]; omega
    · obtain rfl : k = n := by omega
      have HF : Hid (fold16 V = fold16 (sumI true l)) := by
        show _ = _
        rw [HV.out]
        unfold sumK
        rw [List.take_of_length_le (by have := HN.out; omega)]
      clear HV
      go_wp2
      go_loop [3] (fun r => ∃ (V2 : Nat) (z2 : Int), r = .int .u64 z2 ∧ Hid (z2 = (V2 : Int)) ∧ 0 ≤ z2 ∧ z2 ≤ 9200000000000000000 ∧ Hid (fold16 V2 = fold16 (sumI true l))) (fun r => (intOf r).toNat)
      case atStart => exact ⟨V, z, rfl, HZ, hz0, hz1, HF⟩
      case round =>
        obtain ⟨V2, z2, rfl, HZ2, h20, h21, H2⟩ := hrel
        by_cases hgt : 65535 < z2
        · have ha : bits .and .u64 z2 65535 = z2 % 65536 := by
            rw [HZ2.out, and_ffff V2 (by have := HZ2.out; omega)]
            omega
          go_wp2
          go_round
          case rel => exact ⟨V2 / 65536 + V2 % 65536, _, rfl, (by show _ = _; have := HZ2.out; omega), by omega, by omega, (by show _ = _; rw [fold16_step V2 (by have := HZ2.out; omega)]; exact H2.out)⟩
          case measure => simp [intOf]; omega
        · have HR : Hid ((65535 - z2 : Int) = (sumZ l : Nat)) := by
            show _ = _
            have h1 := fold16_small V2 (by have := HZ2.out; omega)
            have h2 := H2.out
            have := HZ2.out
            unfold sumZ
            omega
          have hw : z2 % 65536 = z2 := by omega
          have hx : bits .xor .u16 IntKind.u16.max z2 = 65535 - z2 := by
            have := HZ2.out
            rw [this, not16 V2 (by omega)]
            omega
          have hq : wrap64 (65535 - z2) = 65535 - z2 := IntWalk.wrap64_in _ (by omega)
          go_wp2
          go_ret
          exact ⟨by rw [← HR.out]; rfl, rfl⟩
end Go.Proofs.YtjkdlmielckaaaaDoor
