/-
  md5.Equal tells whether two slices hold the same bytes; it only reads.
-/
import Derived.Test.YtjimoegegigoiaaDoorProg
import Derived.Test.YtjimoegegigoiaaDoorMath
import Derived.Deep.QuietTactic
import Derived.BigQuiet
import Derived.LoopTactic
import Derived.Laws.BitsAllLaws
import Derived.Lib.Hide
namespace Go.Proofs.YtjimoegegigoiaaDoor
open Go.RowKit
set_option maxRecDepth 100000
set_option maxHeartbeats 800000
set_option linter.unusedSimpArgs false
set_option linter.unusedVariables false

theorem i64_xor_nat (a b : Nat) (ha : a < 2 ^ 63) (hb : b < 2 ^ 63) : bits .xor .i64 (a : Int) (b : Int) = ((a ^^^ b : Nat) : Int) := by
  have hx : a ^^^ b < 2 ^ 63 := Nat.xor_lt_two_pow ha hb
  show IntKind.i64.wrap ((BitVec.ofInt 64 (a : Int) ^^^ BitVec.ofInt 64 (b : Int)).toNat : Int) = _
  rw [BitVec.toNat_xor, ofInt_u64 a (by omega), ofInt_u64 b (by omega), IntKind.wrap_i64]
  generalize a ^^^ b = x at *
  omega
theorem i64_or_nat (a b : Nat) (ha : a < 2 ^ 63) (hb : b < 2 ^ 63) : bits .or .i64 (a : Int) (b : Int) = ((a ||| b : Nat) : Int) := by
  have hx : a ||| b < 2 ^ 63 := Nat.or_lt_two_pow ha hb
  show IntKind.i64.wrap ((BitVec.ofInt 64 (a : Int) ||| BitVec.ofInt 64 (b : Int)).toNat : Int) = _
  rw [BitVec.toNat_or, ofInt_u64 a (by omega), ofInt_u64 b (by omega), IntKind.wrap_i64]
  generalize a ||| b = x at *
  omega
/-- what differs in the numbers of bytes and in the first i bytes -/
def eqAcc (l k : List UInt8) : Nat → Nat
  | 0 => l.length ^^^ k.length
  | i + 1 => eqAcc l k i ||| ((l.getD i 0).toNat ^^^ (k.getD i 0).toNat)
theorem eqByte_lt (l k : List UInt8) (i : Nat) : (l.getD i 0).toNat ^^^ (k.getD i 0).toNat < 2 ^ 8 := Nat.xor_lt_two_pow (l.getD i 0).toNat_lt (k.getD i 0).toNat_lt
theorem eqAcc_lt (l k : List UInt8) (hl : l.length < 2 ^ 63) (hk : k.length < 2 ^ 63) : ∀ i, eqAcc l k i < 2 ^ 63
  | 0 => Nat.xor_lt_two_pow hl hk
  | i + 1 => Nat.or_lt_two_pow (eqAcc_lt l k hl hk i) (by have := eqByte_lt l k i; omega)
theorem xor_zero_iff (a b : Nat) : a ^^^ b = 0 ↔ a = b := by
  constructor
  · intro h
    have e : a ^^^ b ^^^ b = b := by rw [h, Nat.zero_xor]
    rwa [Nat.xor_assoc, Nat.xor_self, Nat.xor_zero] at e
  · rintro rfl
    exact Nat.xor_self a
theorem or_zero_iff (a b : Nat) : a ||| b = 0 ↔ a = 0 ∧ b = 0 := by
  constructor
  · intro h
    have h1 : a ≤ a ||| b := Nat.left_le_or
    have h2 : b ≤ a ||| b := Nat.right_le_or
    omega
  · rintro ⟨rfl, rfl⟩
    rfl
theorem eqAcc_zero (l k : List UInt8) : ∀ i, eqAcc l k i = 0 ↔ l.length = k.length ∧ ∀ j, j < i → l.getD j 0 = k.getD j 0
  | 0 => by
    show l.length ^^^ k.length = 0 ↔ _
    rw [xor_zero_iff]
    exact ⟨fun h => ⟨h, fun j hj => absurd hj (Nat.not_lt_zero j)⟩, fun h => h.1⟩
  | i + 1 => by
    show eqAcc l k i ||| ((l.getD i 0).toNat ^^^ (k.getD i 0).toNat) = 0 ↔ _
    rw [or_zero_iff, eqAcc_zero l k i, xor_zero_iff]
    constructor
    · rintro ⟨⟨h1, h2⟩, h3⟩
      refine ⟨h1, fun j hj => ?_⟩
      rcases Nat.lt_or_ge j i with h | h
      · exact h2 j h
      · obtain rfl : j = i := by omega
        exact UInt8.toNat_inj.1 h3
    · rintro ⟨h1, h2⟩
      exact ⟨⟨h1, fun j hj => h2 j (by omega)⟩, by rw [h2 i (by omega)]⟩
theorem eqAcc_same (l k : List UInt8) (i : Nat) (hi : l.length = k.length → l.length ≤ i) : eqAcc l k i = 0 ↔ l = k := by
  rw [eqAcc_zero]
  constructor
  · rintro ⟨h1, h2⟩
    refine List.ext_getElem h1 fun j a b => ?_
    have h := h2 j (by have := hi h1; omega)
    simpa [List.getD_eq_getElem?_getD, a, b] using h
  · rintro rfl
    exact ⟨rfl, fun _ _ => rfl⟩
theorem equal_any (A C : Option Addr) (n m ca cb B : Nat) (l k : List UInt8) (w : World) (ha : Rd w B A n l) (hb : Rd w B C m k) (hn : n ≤ maxLen) (hm : m ≤ maxLen) :
    Calls Tryd.prog 100 #[.slice A n ca, .slice C m cb] w fun e w' => e = .returned (.bool (decide (l = k))) ∧ ∃ q, w' = w.drewN q := by
  unfold maxLen at hn hm
  obtain ⟨M, hM⟩ : ∃ M : Nat, M = if (m : Int) < (n : Int) then m else n := ⟨_, rfl⟩
  have hMn : M ≤ n := by rw [hM]; split <;> omega
  have hMm : M ≤ m := by rw [hM]; split <;> omega
  have hMs : l.length = k.length → l.length ≤ M := by
    rw [ha.1, hb.1, hM]
    split <;> omega
  have HM : Hid (eqAcc l k M = 0 ↔ l = k) := eqAcc_same l k M hMs
  have lt := eqAcc_lt l k (by rw [ha.1]; omega) (by rw [hb.1]; omega)
  have LT := Lib.hid lt
  have HS : bits .xor .i64 (n : Int) (m : Int) = (eqAcc l k 0 : Nat) := by
    rw [i64_xor_nat n m (by omega) (by omega)]
    show _ = ((l.length ^^^ k.length : Nat) : Int)
    rw [ha.1, hb.1]
  have HI : Hid (∀ i, bits .or .i64 (eqAcc l k i : Nat) (bits .xor .u8 (byteAt l i) (byteAt k i)) = (eqAcc l k (i + 1) : Nat)) := by
    intro i
    unfold byteAt
    rw [u8_xor_nat _ _ (l.getD i 0).toNat_lt (k.getD i 0).toNat_lt, i64_or_nat _ _ (lt i) (by have := eqByte_lt l k i; omega)]
    rfl
  have HX : Hid (∀ i, 0 ≤ bits .xor .u8 (byteAt l i) (byteAt k i) ∧ bits .xor .u8 (byteAt l i) (byteAt k i) ≤ 255) := by
    intro i
    unfold byteAt
    rw [u8_xor_nat _ _ (l.getD i 0).toNat_lt (k.getD i 0).toNat_lt]
    have := eqByte_lt l k i
    omega
  have Ha := Lib.hid ha
  have Hb := Lib.hid hb
  clear ha hb lt
  go_enter Tryd.func100, Tryd.ntmps100
  by_cases hnm : (m : Int) < (n : Int)
  · rw [if_pos hnm] at hM
    go_wp2
    go_loopw [5, 17] (fun va vi wr => ∃ i : Nat, i ≤ M ∧ va = .int .i64 (eqAcc l k i : Nat) ∧ vi = .int .i64 i ∧ ∃ q, wr = w.drewN q) (fun _ vi _ => M - (intOf vi).toNat)
    case atStart => exact ⟨0, Nat.zero_le _, rfl, rfl, 0, rfl⟩
    case round =>
      obtain ⟨i, hi, rfl, rfl, q, rfl⟩ := hrel
      by_cases hlt : i < M
      · obtain ⟨a, o, rfl, _, hc⟩ := Ha.out.2 (by omega)
        obtain ⟨b, p, rfl, _, hd⟩ := Hb.out.2 (by omega)
        have h1 := hc i (by omega)
        have h2 := hd i (by omega)
        have x0 := (HX.out i).1
        have x1 := (HX.out i).2
        have e1 := HI.out i
        have hin : i < n := by omega
        have him : i < m := by omega
        have l0 := LT.out i
        have HL := Lib.hid hlt
        clear hc hd
        have e2 := Lib.hid e1
        clear e1
        go_wp2
        go_quiet (fail)
        go_wp2
        go_roundw
        case rel => exact ⟨i + 1, HL.out, congrArg _ e2.out, by go_num, _, rfl⟩
        case measure => simp [intOf]; omega
      · obtain rfl : i = M := by omega
        have hb : (((eqAcc l k i : Nat) : Int) == 0) = decide (l = k) := by
          by_cases h : l = k
          · rw [HM.out.2 h, decide_eq_true h]; rfl
          · rw [decide_eq_false h]
            have h0 : eqAcc l k i ≠ 0 := fun e => h (HM.out.1 e)
            simpa using h0
        generalize eqAcc l k i = z at *
        go_wp2
        go_ret
        exact ⟨by simp [hb], _, rfl⟩
  · rw [if_neg hnm] at hM
    go_wp2
    go_loopw [5, 17] (fun va vi wr => ∃ i : Nat, i ≤ M ∧ va = .int .i64 (eqAcc l k i : Nat) ∧ vi = .int .i64 i ∧ ∃ q, wr = w.drewN q) (fun _ vi _ => M - (intOf vi).toNat)
    case atStart => exact ⟨0, Nat.zero_le _, rfl, rfl, 0, rfl⟩
    case round =>
      obtain ⟨i, hi, rfl, rfl, q, rfl⟩ := hrel
      by_cases hlt : i < M
      · obtain ⟨a, o, rfl, _, hc⟩ := Ha.out.2 (by omega)
        obtain ⟨b, p, rfl, _, hd⟩ := Hb.out.2 (by omega)
        have h1 := hc i (by omega)
        have h2 := hd i (by omega)
        have x0 := (HX.out i).1
        have x1 := (HX.out i).2
        have e1 := HI.out i
        have hin : i < n := by omega
        have him : i < m := by omega
        have l0 := LT.out i
        have HL := Lib.hid hlt
        clear hc hd
        have e2 := Lib.hid e1
        clear e1
        go_wp2
        go_quiet (fail)
        go_wp2
        go_roundw
        case rel => exact ⟨i + 1, HL.out, congrArg _ e2.out, by go_num, _, rfl⟩
        case measure => simp [intOf]; omega
      · obtain rfl : i = M := by omega
        have hb : (((eqAcc l k i : Nat) : Int) == 0) = decide (l = k) := by
          by_cases h : l = k
          · rw [HM.out.2 h, decide_eq_true h]; rfl
          · rw [decide_eq_false h]
            have h0 : eqAcc l k i ≠ 0 := fun e => h (HM.out.1 e)
            simpa using h0
        generalize eqAcc l k i = z at *
        go_wp2
        go_ret
        exact ⟨by simp [hb], _, rfl⟩
end Go.Proofs.YtjimoegegigoiaaDoor
