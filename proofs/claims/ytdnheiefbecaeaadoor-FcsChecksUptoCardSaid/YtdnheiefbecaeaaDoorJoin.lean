/-
  fcs.field's shift, times, zeros: the arithmetic of registers as polynomials. They make memory of their own alone.
-/
import Derived.Test.YtdnheiefbecaeaaDoorBits
namespace Go.Proofs.YtdnheiefbecaeaaDoor
open Go.RowKit
set_option maxRecDepth 100000
set_option maxHeartbeats 800000
set_option linter.unusedSimpArgs false
set_option linter.unusedVariables false

/-- a's bits from j - 1 down, with b shifted on: out behind it -/
def tms (p : Nat) : Nat → Nat → Nat → Nat → Nat
  | 0, _, _, out => out
  | j + 1, a, b, out => tms p j a (stp p b) (if a.testBit j then out ^^^ b else out)
/-- the product of a and b, of registers of k + 1 bits -/
def mul (p k a b : Nat) : Nat := tms p (k + 1) a b 0
/-- r behind n bytes 0, if pw is x^8 (f: how often n is halved at most) -/
def zro (p k : Nat) : Nat → Nat → Nat → Nat → Nat
  | 0, _, r, _ => r
  | f + 1, n, r, pw => if n = 0 then r else zro p k f (n / 2) (if n % 2 = 1 then mul p k r pw else r) (mul p k pw pw)

theorem tms_lt {p K : Nat} (hp : p < 2 ^ K) : ∀ j a b out, b < 2 ^ K → out < 2 ^ K → tms p j a b out < 2 ^ K
  | 0, _, _, _, _, h => h
  | j + 1, a, b, out, hb, ho => by
    refine tms_lt hp j a _ _ (stp_lt hp hb) ?_
    split
    · exact Nat.xor_lt_two_pow ho hb
    · exact ho
theorem mul_lt {p K : Nat} (hp : p < 2 ^ K) (k a b : Nat) (hb : b < 2 ^ K) : mul p k a b < 2 ^ K := tms_lt hp _ _ _ _ hb (Nat.two_pow_pos K)
theorem zro_lt {p K : Nat} (hp : p < 2 ^ K) (k : Nat) : ∀ f n r pw, r < 2 ^ K → pw < 2 ^ K → zro p k f n r pw < 2 ^ K
  | 0, _, _, _, h, _ => h
  | f + 1, n, r, pw, hr, hw => by
    unfold zro
    split
    · exact hr
    · refine zro_lt hp k f _ _ _ ?_ (mul_lt hp k _ _ hw)
      split
      · exact mul_lt hp k _ _ hw
      · exact hr

theorem shift_any (one p R : Nat) (w : World) (hp : p < 2 ^ 32) (hR : R < 2 ^ 32) :
    Calls Tryd.prog 95 #[.agg #[.int .u32 (one : Int), .int .u32 (p : Int)], .int .u32 (R : Int)] w fun e w' => e = .returned (.int .u32 (stp p R : Nat)) ∧ Below w.heap.size w w' := by
  obtain ⟨oz, hoz⟩ : ∃ z : Int, z = (one : Int) := ⟨_, rfl⟩
  obtain ⟨pz, hpz⟩ : ∃ z : Int, z = (p : Int) := ⟨_, rfl⟩
  obtain ⟨z, hz⟩ : ∃ z : Int, z = (R : Int) := ⟨_, rfl⟩
  rw [← hoz, ← hpz, ← hz]
  have z0 : 0 ≤ z := by omega
  have z1 : z ≤ 4294967295 := by omega
  have ha0 := odd_and R hR
  rw [← hz] at ha0
  have hxor : bits .xor .u32 (z / 2) pz = ((R / 2 ^^^ p : Nat) : Int) := by
    have e : z / 2 = ((R / 2 : Nat) : Int) := by omega
    rw [e, hpz]
    exact xor_int32 _ _ (by omega) hp
  rcases Nat.mod_two_eq_zero_or_one R with h0 | h0
  · have ha : bits .and .u32 z 1 = 0 := by rw [ha0, h0]; rfl
    have HS : Hid (z / 2 = ((stp p R : Nat) : Int)) := by
      show _ = _
      unfold stp
      rw [if_neg (by omega), Nat.xor_zero]
      omega
    clear hoz hpz hz ha0 hxor h0 hR hp
    go_enter Tryd.func95, Tryd.ntmps95
    go_wp2
    go_ret
    exact ⟨by rw [← HS.out]; rfl, (Below.refl _ _).alloc (Nat.le_refl _) _⟩
  · have ha : bits .and .u32 z 1 = 1 := by rw [ha0, h0]; rfl
    obtain ⟨x, hx⟩ : ∃ x : Int, x = ((R / 2 ^^^ p : Nat) : Int) := ⟨_, rfl⟩
    rw [← hx] at hxor
    have HS : Hid (x = ((stp p R : Nat) : Int)) := by
      show _ = _
      unfold stp
      rw [if_pos h0, hx]
    clear hoz hpz hz ha0 h0 hR hp hx
    go_enter Tryd.func95, Tryd.ntmps95
    go_wp2
    go_ret
    exact ⟨by rw [← HS.out]; rfl, (Below.refl _ _).alloc (Nat.le_refl _) _⟩

theorem and_bit_no (a j : Nat) (h : a.testBit j = false) : a &&& 2 ^ j = 0 := by
  apply Nat.eq_of_testBit_eq
  intro i
  rw [Nat.testBit_and, Nat.testBit_two_pow, Nat.zero_testBit]
  by_cases hi : j = i
  · subst hi
    rw [h]
    rfl
  · simp [hi]
theorem and_bit_yes (a j : Nat) (h : a.testBit j = true) : a &&& 2 ^ j ≠ 0 := by
  intro e
  have : (a &&& 2 ^ j).testBit j = true := by rw [Nat.testBit_and, Nat.testBit_two_pow, h]; simp
  rw [e, Nat.zero_testBit] at this
  cases this
theorem and_int_bit (a j : Nat) (ha : a < 2 ^ 32) (hj : j < 32) : bits .and .u32 (a : Int) ((2 ^ j : Nat) : Int) = ((a &&& 2 ^ j : Nat) : Int) := by
  have h2 : 2 ^ j < 2 ^ 32 := Nat.pow_lt_pow_right (by omega) hj
  exact u32_and_nat a (2 ^ j) (by omega) (by omega)

theorem times_any (k p a b : Nat) (w : World) (hk : k < 32) (hp : p < 2 ^ 32) (ha : a < 2 ^ 32) (hb : b < 2 ^ 32) :
    Calls Tryd.prog 93 #[.agg #[.int .u32 ((2 ^ k : Nat) : Int), .int .u32 (p : Int)], .int .u32 (a : Int), .int .u32 (b : Int)] w fun e w' => e = .returned (.int .u32 (mul p k a b : Nat)) ∧ Below w.heap.size w w' := by
  have HP := Lib.hid hp
  have HA := Lib.hid ha
  have HB := Lib.hid hb
  have HK := Lib.hid hk
  obtain ⟨oz, hoz⟩ : ∃ z : Int, z = ((2 ^ k : Nat) : Int) := ⟨_, rfl⟩
  obtain ⟨pz, hpz⟩ : ∃ z : Int, z = (p : Int) := ⟨_, rfl⟩
  obtain ⟨az, haz⟩ : ∃ z : Int, z = (a : Int) := ⟨_, rfl⟩
  obtain ⟨bz, hbz⟩ : ∃ z : Int, z = (b : Int) := ⟨_, rfl⟩
  rw [← hoz, ← hpz, ← haz, ← hbz]
  have OZ := Lib.hid hoz
  have PZ := Lib.hid hpz
  have AZ := Lib.hid haz
  have BZ := Lib.hid hbz
  clear hoz hpz haz hbz hp ha hb hk
  go_enter Tryd.func93, Tryd.ntmps93
  go_wp2
  go_loopw [2, 7, 8] (fun vb vo vi wr => ∃ (j B O : Nat) (b1 o1 i1 : Int), j ≤ k + 1 ∧ vb = .int .u32 b1 ∧ vo = .int .u32 o1 ∧ vi = .int .u32 i1 ∧ Hid (b1 = (B : Int)) ∧ Hid (o1 = (O : Int)) ∧ Hid (i1 = (if j = 0 then (0 : Int) else ((2 ^ (j - 1) : Nat) : Int))) ∧ Hid (B < 2 ^ 32) ∧ Hid (O < 2 ^ 32) ∧
      Hid (tms p j a B O = mul p k a b) ∧ Below (w.heap.size + 1) (w.alloc (.cells #[.int .u32 oz, .int .u32 pz] 118)) wr) (fun _ _ vi _ => (intOf vi).toNat)
  case atStart =>
    refine ⟨k + 1, b, 0, bz, 0, oz, Nat.le_refl _, rfl, rfl, rfl, BZ, rfl, ?_, HB, Nat.two_pow_pos 32, rfl, Below.refl _ _⟩
    show _ = _
    rw [if_neg (by omega), OZ.out]
    rfl
  case round =>
    rename_i wr
    obtain ⟨j, B, O, b1, o1, i1, hj, rfl, rfl, rfl, H1, H2, H3, HB1, HO1, HM, hBel⟩ := hrel
    have hB : Below w.heap.size w wr := ((Below.refl _ _).alloc (Nat.le_refl _) _).trans (hBel.mono (by omega))
    have hblk : Blk wr w.heap.size 118 [.int .u32 oz, .int .u32 pz] := (hBel.block _ (by omega)).trans (blk_new w _ _)
    have k0 : wr.cell? ⟨w.heap.size, 0, none⟩ = some (.int .u32 oz) := hblk.cell 0
    have k1 : wr.cell? ⟨w.heap.size, 1, none⟩ = some (.int .u32 pz) := hblk.cell 1
    have BL := Lib.hid hBel
    have BB := Lib.hid hB
    clear hBel hB hblk
    have hk32 := HK.out
    rcases Nat.eq_zero_or_pos j with rfl | hj0
    · have hi : i1 = 0 := by rw [H3.out]; rfl
      subst hi
      have HF : Hid (o1 = ((mul p k a b : Nat) : Int)) := by
        show _ = _
        rw [H2.out, ← HM.out]
        rfl
      go_wp2
      go_ret
      exact ⟨by rw [← HF.out]; rfl, BB.out⟩
    · obtain ⟨m, rfl⟩ : ∃ m, j = m + 1 := ⟨j - 1, by omega⟩
      have hi : i1 = ((2 ^ m : Nat) : Int) := by rw [H3.out, if_neg (by omega)]; rfl
      have hlt : 2 ^ m < 2 ^ 32 := Nat.pow_lt_pow_right (by omega) (by omega)
      have hpos : 0 < 2 ^ m := Nat.two_pow_pos m
      have i10 : 0 ≤ i1 := by omega
      have i11 : i1 ≤ 4294967295 := by omega
      have i13 : 1 ≤ i1 := by omega
      have i12 : (i1 != 0) = true := by simp; omega
      have hand : bits .and .u32 az i1 = ((a &&& 2 ^ m : Nat) : Int) := by rw [AZ.out, hi]; exact and_int_bit a m HA.out (by omega)
      have HI : Hid (i1 / 2 = (if m = 0 then (0 : Int) else ((2 ^ (m - 1) : Nat) : Int))) := by
        show _ = _
        rcases Nat.eq_zero_or_pos m with rfl | hm
        · rw [if_pos rfl, hi]
          rfl
        · obtain ⟨q, rfl⟩ : ∃ q, m = q + 1 := ⟨m - 1, by omega⟩
          rw [if_neg (by omega), hi, Nat.pow_succ]
          simp
      have SH := Lib.hid fun W => shift_any (2 ^ k) p B W HP.out HB1.out
      have HB2 : Hid (stp p B < 2 ^ 32) := stp_lt HP.out HB1.out
      have SH2 : Hid (∀ W, Calls Tryd.prog 95 #[.agg #[.int .u32 oz, .int .u32 pz], .int .u32 b1] W fun e w' => e = .returned (.int .u32 (stp p B : Nat)) ∧ Below W.heap.size W w') := by
        show ∀ W, Calls _ _ _ W _
        rw [OZ.out, PZ.out, H1.out]
        exact SH.out
      clear hlt hpos hi
      by_cases hbit : a.testBit m = true
      · have hne : (((a &&& 2 ^ m : Nat) : Int) != 0) = true := by have := and_bit_yes a m hbit; simp; omega
        obtain ⟨y, hy⟩ : ∃ y : Int, y = ((a &&& 2 ^ m : Nat) : Int) := ⟨_, rfl⟩
        rw [← hy] at hand hne
        obtain ⟨x, hx⟩ : ∃ x : Int, x = ((O ^^^ B : Nat) : Int) := ⟨_, rfl⟩
        have hxor : bits .xor .u32 o1 b1 = x := by rw [H2.out, H1.out, hx]; exact xor_int32 _ _ HO1.out HB1.out
        have HX := Lib.hid hx
        have HM2 : Hid (tms p m a (stp p B) (O ^^^ B) = mul p k a b) := by
          show _ = _
          rw [← HM.out, tms, if_pos hbit]
        have HO2 : Hid (O ^^^ B < 2 ^ 32) := Nat.xor_lt_two_pow HO1.out HB1.out
        clear hy hx hbit
        go_wp2_with fail
        refine (SH2.out _).mono ?_
        rintro e w1 ⟨rfl, hB1⟩
        have BL1 := Lib.hid (BL.out.trans (hB1.mono (by have := BL.out.size; simpa using this)))
        clear hB1
        go_wp2
        go_roundw
        case rel => exact ⟨m, stp p B, O ^^^ B, _, x, _, by omega, rfl, rfl, rfl, rfl, HX, HI, HB2, HO2, HM2, BL1.out⟩
        case measure => simp [intOf]; omega
      · have hz : a &&& 2 ^ m = 0 := and_bit_no a m (by simpa using hbit)
        rw [hz] at hand
        have hand2 : bits .and .u32 az i1 = 0 := hand
        have HM2 : Hid (tms p m a (stp p B) O = mul p k a b) := by
          show _ = _
          rw [← HM.out, tms, if_neg hbit]
        clear hz hbit hand
        go_wp2_with fail
        refine (SH2.out _).mono ?_
        rintro e w1 ⟨rfl, hB1⟩
        have BL1 := Lib.hid (BL.out.trans (hB1.mono (by have := BL.out.size; simpa using this)))
        clear hB1
        go_wp2
        go_roundw
        case rel => exact ⟨m, stp p B, O, _, o1, _, by omega, rfl, rfl, rfl, rfl, H2, HI, HB2, HO1, HM2, BL1.out⟩
        case measure => simp [intOf]; omega

theorem odd_and64 (n : Int) (h : 0 ≤ n) (h2 : n ≤ 9223372036854775807) : bits .and .i64 n 1 = n % 2 := by
  obtain ⟨m, rfl⟩ := Int.eq_ofNat_of_zero_le h
  have h3 : bits .and .i64 (m : Int) ((1 : Nat) : Int) = ((m &&& 1 : Nat) : Int) := by
    have e1 : (BitVec.ofInt 64 (m : Int)).toNat = m := by
      rw [BitVec.ofInt_natCast, BitVec.toNat_ofNat]
      exact Nat.mod_eq_of_lt (by omega)
    show IntKind.i64.wrap ((BitVec.ofInt 64 (m : Int) &&& BitVec.ofInt 64 ((1 : Nat) : Int)).toNat : Int) = _
    have e2 : (BitVec.ofInt 64 ((1 : Nat) : Int)).toNat = 1 := by decide
    have hx : m &&& 1 < 2 := by
      rw [show m &&& 1 = m % 2 from Nat.and_two_pow_sub_one_eq_mod m 1]
      omega
    rw [BitVec.toNat_and, e1, e2, IntKind.wrap_i64]
    omega
  rw [show m &&& 1 = m % 2 from Nat.and_two_pow_sub_one_eq_mod m 1] at h3
  rw [show (1 : Int) = ((1 : Nat) : Int) from rfl, h3]
  omega

theorem zeros_any (k p R N : Nat) (w : World) (hk8 : 8 ≤ k) (hk : k < 32) (hp : p < 2 ^ 32) (hR : R < 2 ^ 32) (hN : N ≤ 9223372036854775807) :
    Calls Tryd.prog 88 #[.agg #[.int .u32 ((2 ^ k : Nat) : Int), .int .u32 (p : Int)], .int .u32 (R : Int), .int .i64 (N : Int)] w fun e w' => e = .returned (.int .u32 (zro p k 64 N R (2 ^ (k - 8)) : Nat)) ∧ Below w.heap.size w w' := by
  have HP := Lib.hid hp
  have HR := Lib.hid hR
  have HK := Lib.hid hk
  have HN := Lib.hid hN
  have hpw : 2 ^ k < 2 ^ 32 := Nat.pow_lt_pow_right (by omega) hk
  have hpw8 : 2 ^ k = 2 ^ (k - 8) * 256 := by
    rw [show (256 : Nat) = 2 ^ 8 from rfl, ← Nat.pow_add]
    congr 1
    omega
  obtain ⟨oz, hoz⟩ : ∃ z : Int, z = ((2 ^ k : Nat) : Int) := ⟨_, rfl⟩
  obtain ⟨pz, hpz⟩ : ∃ z : Int, z = (p : Int) := ⟨_, rfl⟩
  obtain ⟨rz, hrz⟩ : ∃ z : Int, z = (R : Int) := ⟨_, rfl⟩
  obtain ⟨nz, hnz⟩ : ∃ z : Int, z = (N : Int) := ⟨_, rfl⟩
  rw [← hoz, ← hpz, ← hrz, ← hnz]
  have o0 : 0 ≤ oz := by omega
  have o1 : oz ≤ 4294967295 := by omega
  have W8 : Hid (oz / 256 = ((2 ^ (k - 8) : Nat) : Int)) := by show _ = _; omega
  have L8 : Hid (2 ^ (k - 8) < 2 ^ 32) := by show _ < _; omega
  have OZ := Lib.hid hoz
  have PZ := Lib.hid hpz
  have RZ := Lib.hid hrz
  have NZ := Lib.hid hnz
  clear hoz hpz hrz hnz hp hR hk hN hpw hpw8
  go_enter Tryd.func88, Tryd.ntmps88
  go_wp2
  go_loopw [1, 2, 7] (fun vr vn vp wr => ∃ (f M R1 W1 : Nat) (r1 n1 p1 : Int), vr = .int .u32 r1 ∧ vn = .int .i64 n1 ∧ vp = .int .u32 p1 ∧ Hid (r1 = (R1 : Int)) ∧ Hid (n1 = (M : Int)) ∧ Hid (p1 = (W1 : Int)) ∧ Hid (R1 < 2 ^ 32) ∧ Hid (W1 < 2 ^ 32) ∧ Hid (M < 2 ^ f) ∧ Hid (f ≤ 64) ∧ Hid (M ≤ 9223372036854775807) ∧
      Hid (zro p k f M R1 W1 = zro p k 64 N R (2 ^ (k - 8))) ∧ Below (w.heap.size + 1) (w.alloc (.cells #[.int .u32 oz, .int .u32 pz] 118)) wr) (fun _ vn _ _ => (intOf vn).toNat)
  case atStart =>
    exact ⟨64, N, R, 2 ^ (k - 8), rz, nz, _, rfl, rfl, rfl, RZ, NZ, W8, HR, L8, (by show _ < _; have := HN.out; omega), (by show _ ≤ _; omega), HN, rfl, Below.refl _ _⟩
  case round =>
    rename_i wr
    obtain ⟨f, M, R1, W1, r1, n1, p1, rfl, rfl, rfl, H1, H2, H3, HR1, HW1, HM, HF, HM2, HZ, hBel⟩ := hrel
    have hB : Below w.heap.size w wr := ((Below.refl _ _).alloc (Nat.le_refl _) _).trans (hBel.mono (by omega))
    have hblk : Blk wr w.heap.size 118 [.int .u32 oz, .int .u32 pz] := (hBel.block _ (by omega)).trans (blk_new w _ _)
    have BL := Lib.hid hBel
    have BB := Lib.hid hB
    have BK := Lib.hid hblk
    clear hBel hB hblk
    have n10 : 0 ≤ n1 := by have := H2.out; omega
    have n11 : n1 ≤ 9223372036854775807 := by have := H2.out; have := HM2.out; omega
    by_cases hpos : 0 < n1
    · have hMpos : 0 < M := by have := H2.out; omega
      obtain ⟨f', rfl⟩ : ∃ f', f = f' + 1 := by
        rcases Nat.eq_zero_or_pos f with rfl | h
        · have := HM.out
          simp at this
          omega
        · exact ⟨f - 1, by omega⟩
      have TM : Hid (∀ W x y (X Y : Nat), x = (X : Int) → y = (Y : Int) → X < 2 ^ 32 → Y < 2 ^ 32 → Calls Tryd.prog 93 #[.agg #[.int .u32 oz, .int .u32 pz], .int .u32 x, .int .u32 y] W fun e w' => e = .returned (.int .u32 (mul p k X Y : Nat)) ∧ Below W.heap.size W w') := by
        show ∀ W x y (X Y : Nat), _ → _ → _ → _ → Calls _ _ _ W _
        intro W x y X Y hx hy hX hY
        rw [OZ.out, PZ.out, hx, hy]
        exact times_any k p X Y W HK.out HP.out hX hY
      have HW2 : Hid (mul p k W1 W1 < 2 ^ 32) := mul_lt HP.out k _ _ HW1.out
      have HN2 : Hid (n1 / 2 = ((M / 2 : Nat) : Int)) := by show _ = _; rw [H2.out]; omega
      have HMf : Hid (M / 2 < 2 ^ f') := by show _ < _; have := HM.out; rw [Nat.pow_succ] at this; omega
      have HM3 : Hid (M / 2 ≤ 9223372036854775807) := by show _ ≤ _; have := HM2.out; omega
      have k0 : wr.cell? ⟨w.heap.size, 0, none⟩ = some (.int .u32 oz) := BK.out.cell 0
      have k1 : wr.cell? ⟨w.heap.size, 1, none⟩ = some (.int .u32 pz) := BK.out.cell 1
      have ha : bits .and .i64 n1 1 = n1 % 2 := odd_and64 n1 n10 n11
      have hs0 : w.heap.size + 1 ≤ wr.heap.size := by have := BL.out.size; simpa using this
      rcases Nat.mod_two_eq_zero_or_one M with h0 | h0
      · have hm : n1 % 2 = 0 := by rw [H2.out]; omega
        rw [hm] at ha
        have HZ2 : Hid (zro p k f' (M / 2) R1 (mul p k W1 W1) = zro p k 64 N R (2 ^ (k - 8))) := by
          show _ = _
          rw [← HZ.out]
          conv => rhs; unfold zro
          rw [if_neg (by omega), if_neg (by omega)]
        clear h0 hm hMpos
        go_wp2_with fail
        refine (TM.out _ _ _ W1 W1 H3.out H3.out HW1.out HW1.out).mono ?_
        rintro e w1 ⟨rfl, hB1⟩
        have BL1 := Lib.hid (BL.out.trans (hB1.mono hs0))
        clear hB1
        go_wp2
        go_roundw
        case rel => exact ⟨f', M / 2, R1, mul p k W1 W1, r1, _, _, rfl, rfl, rfl, H1, HN2, rfl, HR1, HW2, HMf, (by show _ ≤ _; have := HF.out; omega), HM3, HZ2, BL1.out⟩
        case measure => simp [intOf]; omega
      · have hm : n1 % 2 = 1 := by rw [H2.out]; omega
        rw [hm] at ha
        have HZ2 : Hid (zro p k f' (M / 2) (mul p k R1 W1) (mul p k W1 W1) = zro p k 64 N R (2 ^ (k - 8))) := by
          show _ = _
          rw [← HZ.out]
          conv => rhs; unfold zro
          rw [if_neg (by omega), if_pos h0]
        have HR2 : Hid (mul p k R1 W1 < 2 ^ 32) := mul_lt HP.out k _ _ HW1.out
        clear h0 hm hMpos
        go_wp2_with fail
        refine (TM.out _ _ _ R1 W1 H1.out H3.out HR1.out HW1.out).mono ?_
        rintro e w1 ⟨rfl, hB1⟩
        have BL1 := Lib.hid (BL.out.trans (hB1.mono hs0))
        have BK1 : Hid (Blk w1 w.heap.size 118 [.int .u32 oz, .int .u32 pz]) := (hB1.block _ (by omega)).trans BK.out
        have hs1 := hB1.size
        have k01 : w1.cell? ⟨w.heap.size, 0, none⟩ = some (.int .u32 oz) := BK1.out.cell 0
        have k11 : w1.cell? ⟨w.heap.size, 1, none⟩ = some (.int .u32 pz) := BK1.out.cell 1
        clear hB1
        go_wp2_with fail
        refine (TM.out _ _ _ W1 W1 H3.out H3.out HW1.out HW1.out).mono ?_
        rintro e w2 ⟨rfl, hB2⟩
        have BL2 := Lib.hid (BL1.out.trans (hB2.mono (by omega)))
        clear hB2
        go_wp2
        go_roundw
        case rel => exact ⟨f', M / 2, mul p k R1 W1, mul p k W1 W1, _, _, _, rfl, rfl, rfl, rfl, HN2, rfl, HR2, HW2, HMf, (by show _ ≤ _; have := HF.out; omega), HM3, HZ2, BL2.out⟩
        case measure => simp [intOf]; omega
    · have HFn : Hid (r1 = ((zro p k 64 N R (2 ^ (k - 8)) : Nat) : Int)) := by
        show _ = _
        have hM0 : M = 0 := by have := H2.out; omega
        rw [H1.out, ← HZ.out, hM0]
        cases f
        · rfl
        · unfold zro
          rw [if_pos rfl]
      go_wp2
      go_ret
      exact ⟨by rw [← HFn.out]; rfl, BB.out⟩
end Go.Proofs.YtdnheiefbecaeaaDoor
