/-
  tetherref11.bytes, number: numbers as bytes, and back.
-/
import Derived.Test.YtonbdcajepmgbaaNumPut
import Derived.Test.YtonbdcajepmgbaaLent
import Derived.LoopTactic
import Derived.Laws.Bits64
import Derived.Deep.Light
namespace Go.Proofs.Ytonbdcajepmgbaa
open Go.RowKit
set_option maxRecDepth 100000
set_option maxHeartbeats 1000000
set_option linter.unusedSimpArgs false
set_option linter.unusedVariables false

theorem refbytes_any (s : Nat) (x : Int) (w : World) (hs8 : s ≤ 8) (hx0 : 0 ≤ x) (hx1 : x < 18446744073709551616) :
    Calls Try.prog 102 #[.int .u64 x, .int .i64 (s : Int)] w fun e w' =>
      ∃ v, e = .returned v ∧ Own w' w.heap.size v (putB x.toNat s) ∧ Below w.heap.size w w' := by
  go_enter Try.func102, Try.ntmps102
  go_wp2
  go_loopw [5, 6] (fun v i wr => ∃ z : Int, i = .int .i64 z ∧ -1 ≤ z ∧ z < s ∧ Own wr w.heap.size v (putB (x.toNat / 256 ^ (z + 1).toNat) (s - (z + 1).toNat)) ∧ Below w.heap.size w wr) (fun _ i _ => (intOf i + 1).toNat)
  case atStart =>
    refine ⟨_, rfl, by omega, by omega, ?_, Below.refl _ _⟩
    have e : ((s : Int) - 1 + 1).toNat = s := by omega
    rw [e, Nat.sub_self]
    exact Own.nil w w.heap.size
  case round =>
    rename_i wr
    obtain ⟨z, rfl, hz1, hzs, ho, hB⟩ := hrel
    by_cases h0 : 0 ≤ z
    · obtain ⟨q, rfl⟩ := Int.eq_ofNat_of_zero_le h0
      have e1 : ((q : Int) + 1).toNat = q + 1 := by omega
      rw [e1] at ho
      have hsz := hB.size
      obtain ⟨v2, w2, r2, o2, g2, b2⟩ := append_run (ho.alloc (.cells #[.int .u8 (x / 2 ^ (8 * q) % 256)] 5)) 1 (rd_one wr (UInt8.ofNat (x.toNat / 256 ^ q % 256)) _ (byte_shr x q hx0)) (by simp) (by rw [putB_length]; omega) (by simp; omega)
      rw [putB_next x.toNat s q (by omega)] at o2
      have hB2 : Below w.heap.size w w2 := (hB.alloc hsz _).grown g2 (by simp; omega) (by
        intro k hk
        rcases ho.form with ⟨e, _⟩ | ⟨g, cap, e, hg, _⟩
        · rw [e] at hk
          simp [Value.ownBlock] at hk
        · rw [e] at hk
          simp [Value.ownBlock] at hk
          omega)
      have R2 := Lib.hid r2
      have O2 := Lib.hid o2
      have B2 := Lib.hid hB2
      clear r2 o2 g2 b2 ho hB hB2 e1
      go_wp2_with (at_builtin; refine wpList_app rfl (.tmp 13) (.tmp 20) rfl _ _ rfl rfl _ _ R2.out ?_)
      go_roundw
      case rel =>
        refine ⟨_, rfl, by omega, by omega, ?_, B2.out⟩
        have e : ((q : Int) - 1 + 1).toNat = q := by omega
        rw [e]
        exact O2.out
      case measure => simp [intOf]
    · have e : z = -1 := by omega
      subst e
      rw [show ((-1 : Int) + 1).toNat = 0 from rfl, Nat.pow_zero, Nat.div_one, Nat.sub_zero] at ho
      have O2 := Lib.hid ho
      have B2 := Lib.hid hB
      clear ho hB
      go_wp2
      go_ret
      exact ⟨_, rfl, O2.out, B2.out⟩
theorem refnumber_any (A : Option Addr) (n c : Nat) (l : List UInt8) (w : World) (B : Nat) (hr : Rd w B A n l) (hm : n ≤ 140737488351232) :
    Calls Try.prog 110 #[.slice A n c] w fun e w' => (∃ x, e = .returned (.int .u64 x) ∧ (0 ≤ x ∧ x < 18446744073709551616) ∧ (n ≤ 8 → x = num l n)) ∧ w = w' := by
  have H := Lib.hid hr
  clear hr
  go_enter Try.func110, Try.ntmps110
  go_wp2
  go_loop [3, 4] (fun v i => ∃ (k : Nat) (x : Int), k ≤ n ∧ i = .int .i64 k ∧ v = .int .u64 x ∧ (0 ≤ x ∧ x < 18446744073709551616) ∧ (k ≤ 8 → x = num l k)) (fun _ i => n - (intOf i).toNat)
  case atStart => exact ⟨0, 0, Nat.zero_le _, rfl, rfl, by omega, fun _ => rfl⟩
  case round =>
    obtain ⟨k, x, hk, rfl, rfl, ⟨hx0, hx1⟩, hx⟩ := hrel
    by_cases hlt : k < n
    · obtain ⟨b, o, rfl, _, hcell⟩ := H.out.2 (by omega)
      have hc := hcell k hlt
      have g2 := byteAt_lo l k
      have g3 := byteAt_hi l k
      clear hcell
      by_cases h8 : k < 8
      · have hx' := hx (by omega)
        subst hx'
        have g0 := num_lo l k
        have g1 := num_below l k h8
        have E := Lib.hid (show bits .or .u64 (num l k * 256) (byteAt l k) = num l (k + 1) from or_8 _ _ (by omega) (by omega) (by omega) (by omega) (by omega))
        have n0 := num_lo l (k + 1)
        have n1 : num l (k + 1) < 18446744073709551616 := by show num l k * 256 + byteAt l k < _; omega
        go_wp2
        go_round
        case rel => exact ⟨k + 1, num l (k + 1), by omega, by go_num, by rw [E.out], ⟨n0, n1⟩, fun _ => rfl⟩
        case measure => simp [intOf]; omega
      · clear hx
        go_wp2
        go_round
        case rel =>
          have e : bits .or .u64 (IntKind.u64.wrap (x * 256)) (byteAt l k) = x * 256 % 18446744073709551616 + byteAt l k := by
            rw [IntKind.wrap_u64]
            exact or_8 _ _ (by omega) (by omega) (by omega) (by omega) (by omega)
          exact ⟨k + 1, _, by omega, by go_num, rfl, by rw [e]; omega, fun h => by omega⟩
        case measure => simp [intOf]; omega
    · have : k = n := by omega
      subst this
      go_wp2
      go_ret
      exact ⟨⟨x, rfl, ⟨hx0, hx1⟩, hx⟩, rfl⟩
end Go.Proofs.Ytonbdcajepmgbaa
