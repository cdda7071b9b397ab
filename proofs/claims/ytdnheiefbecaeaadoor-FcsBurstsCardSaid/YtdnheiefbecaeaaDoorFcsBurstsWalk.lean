/-
  tetherlaw02.FcsBursts is true, whatever it is asked, and writes nothing that was there.
-/
import Derived.Test.YtdnheiefbecaeaaDoorBurst
import Derived.LoopTactic
import Derived.Laws.BitsAllLaws
namespace Go.Proofs.YtdnheiefbecaeaaDoor
open Go.RowKit
set_option maxRecDepth 100000
set_option maxHeartbeats 2000000
set_option linter.unusedSimpArgs false
set_option linter.unusedVariables false

theorem burst_bit (Y i : Nat) (y : Int) (h : y ≤ 4294967295) (e : y = (Y : Int)) (hb : Y.testBit i = true) : bits .and .u32 (y / 2 ^ i) 1 = 1 := by
  subst e
  have h1 : ((Y : Int) / 2 ^ i) = ((Y / 2 ^ i : Nat) : Int) := by
    rw [Int.natCast_ediv, Int.natCast_pow]
    rfl
  rw [h1, odd_and _ (Nat.lt_of_le_of_lt (Nat.div_le_self _ _) (by omega))]
  rw [Nat.testBit_eq_decide_div_mod_eq] at hb
  have := of_decide_eq_true hb
  omega
theorem burst_none (Y i : Nat) (y : Int) (h : y ≤ 4294967295) (e : y = (Y : Int)) (hb : Y.testBit i = false) : bits .and .u32 (y / 2 ^ i) 1 = 0 := by
  subst e
  have h1 : ((Y : Int) / 2 ^ i) = ((Y / 2 ^ i : Nat) : Int) := by
    rw [Int.natCast_ediv, Int.natCast_pow]
    rfl
  rw [h1, odd_and _ (Nat.lt_of_le_of_lt (Nat.div_le_self _ _) (by omega))]
  rw [Nat.testBit_eq_decide_div_mod_eq] at hb
  have := of_decide_eq_false hb
  omega
theorem turn_val (l : List UInt8) (k : Nat) : bits .xor .u8 (byteAt l (k / 8)) (2 ^ (k % 8) % 256) = ((l.getD (k / 8) 0 ^^^ oneBit (k % 8)).toNat : Int) := by
  have h := (l.getD (k / 8) 0).toNat_lt
  have e : ((2 : Int) ^ (k % 8) % 256) = ((oneBit (k % 8)).toNat : Int) := by
    rw [oneBit_nat _ (Nat.mod_lt _ (by omega))]
    have : 2 ^ (k % 8) < 2 ^ 8 := Nat.pow_lt_pow_right (by omega) (Nat.mod_lt _ (by omega))
    rw [show ((2 : Int) ^ (k % 8)) = ((2 ^ (k % 8) : Nat) : Int) by rw [Int.natCast_pow]; rfl]
    generalize 2 ^ (k % 8) = q at *
    omega
  have h' := (oneBit (k % 8)).toNat_lt
  rw [e]
  have h2 := u8_xor (byteAt l (k / 8)) ((oneBit (k % 8)).toNat : Int) (byteAt_lo _ _) (by have := byteAt_hi l (k / 8); omega) (by omega) (by omega)
  rw [h2]
  unfold byteAt
  simp
theorem sum_ne16 (a b : List UInt8) : ((((sum16 a : Nat) : Int)) != ((sum16 b : Nat) : Int)) = decide (crc P16 65535 a ≠ crc P16 65535 b) := by
  have h1 := crc16_lt a 65535 (by omega)
  have h2 := crc16_lt b 65535 (by omega)
  unfold sum16
  rw [Bool.eq_iff_iff, bne_iff_ne, decide_eq_true_iff]
  omega
theorem sum_ne32 (a b : List UInt8) : ((((sum32 a : Nat) : Int)) != ((sum32 b : Nat) : Int)) = decide (crc P32 4294967295 a ≠ crc P32 4294967295 b) := by
  have h1 := crc32_lt a 4294967295 (by omega)
  have h2 := crc32_lt b 4294967295 (by omega)
  unfold sum32
  rw [Bool.eq_iff_iff, bne_iff_ne, decide_eq_true_iff]
  omega
theorem fcsbursts_loop (n : Nat) (x1 y : Int) (a Y : Nat) (A : Option Addr) (c : Nat) (l : List UInt8) (w : World) (hr : Rd w w.heap.size A n l) (hc : n ≤ c) (hn : c ≤ 140737488351232) (hn0 : 0 < n) (hnil : A = none → c = 0)
    (hy0 : 1 ≤ y) (hy1 : y ≤ 4294967295) (hyY : y = (Y : Int)) (ha : a < 8 * n)
    (hcase : (0 ≤ x1 ∧ x1 % (8 * (n : Int)) = (a : Int)) ∨ (x1 < 0 ∧ x1.tmod (8 * (n : Int)) = -(a : Int) ∧ 0 < a) ∨ (x1 < 0 ∧ x1.tmod (8 * (n : Int)) = (a : Int))) (h16 : Tab16 w) (h32 : Tab32 w) :
    Calls Tryd.prog 5 #[.slice A n c, .int .i64 x1, .int .u32 y] w fun e w' => e = .returned (.bool true) ∧ Below w.heap.size w w' := by
  have hl := hr.1
  obtain ⟨v1, w1, r1, o1, g1, b1⟩ := append_run (Own.nil w w.heap.size) c hr hnil (by simp; omega) (Nat.le_refl _)
  have B1 : Below w.heap.size w w1 := (Below.refl _ _).grown g1 (Nat.le_refl _) (by simp [Value.ownBlock])
  obtain ⟨v2, w2, r2, o2, g2, b2⟩ := append_run (Own.nil w1 w.heap.size) c ((hr.below B1).wide B1.size) hnil (by simp; omega) B1.size
  have B2 : Below w.heap.size w w2 := B1.grown g2 B1.size (by simp [Value.ownBlock])
  simp only [List.nil_append] at o1 o2
  have hv1 : ∃ cg, v1 = .slice (some ⟨w.heap.size, 0, none⟩) n cg ∧ n ≤ cg := by
    rcases o1.form with ⟨rfl, e⟩ | ⟨g', cap, rfl, _, _, hcap⟩
    · rw [e] at hl
      simp at hl
      omega
    · rcases b1 with e | e <;> simp [Value.ownBlock] at e
      subst e
      exact ⟨cap, by rw [hl], by omega⟩
  have hv2 : ∃ ch, v2 = .slice (some ⟨w1.heap.size, 0, none⟩) n ch ∧ n ≤ ch := by
    rcases o2.form with ⟨rfl, e⟩ | ⟨g', cap, rfl, _, _, hcap⟩
    · rw [e] at hl
      simp at hl
      omega
    · rcases b2 with e | e <;> simp [Value.ownBlock] at e
      subst e
      exact ⟨cap, by rw [hl], by omega⟩
  obtain ⟨cg, rfl, hcg⟩ := hv1
  obtain ⟨ch, rfl, hch⟩ := hv2
  obtain ⟨G, hG⟩ : ∃ G, G = w.heap.size := ⟨_, rfl⟩
  obtain ⟨H, hH⟩ : ∃ H, H = w1.heap.size := ⟨_, rfl⟩
  have hgh : G ≠ H := by
    have := (o1.block w.heap.size rfl).2
    omega
  have o12 : Own w2 w.heap.size (.slice (some ⟨w.heap.size, 0, none⟩) n cg) l := o1.grown g2 (.inr (by simp [Value.ownBlock]))
  rw [← hG] at r1 o12
  rw [← hH] at r2 o2
  rw [← hG] at o2
  have R1 := Lib.hid r1
  have R2 := Lib.hid r2
  have O1 := Lib.hid o12
  have O2 := Lib.hid o2
  have BB := Lib.hid B2
  have HR := Lib.hid hr
  have T16 := Lib.hid h16
  have T32 := Lib.hid h32
  have HL := Lib.hid hl
  have YY := Lib.hid hyY
  have GG := Lib.hid hG
  clear r1 r2 o1 o12 o2 g1 g2 b1 b2 B1 B2 hr h16 h32 hl hyY hG hH
  have hn8 : 8 * (n : Int) ≤ 1125899906809856 := by omega
  have hy3 : (y == 0) = false := by simp; omega
  have hn3 : ((n : Int) == 0) = false := by simp; omega
  rcases hcase with ⟨hx, hm⟩ | ⟨hx, hm, ha0⟩ | ⟨hx, hm⟩
  all_goals
    go_enter Tryd.func5, Tryd.ntmps5
    go_wp2_with (first
      | (at_builtin; refine wpList_app rfl (.tmp 30) (.tmp 31) rfl _ _ rfl rfl _ _ R1.out ?_)
      | (at_builtin; refine wpList_app rfl (.tmp 33) (.tmp 34) rfl _ _ rfl rfl _ _ R2.out ?_))
    go_loopw [9, 10, 11] (fun vs vl vi wr => ∃ (i : Nat) (ls ll : List UInt8) (bs bl : Bool), i ≤ 32 ∧ vi = .int .i64 i ∧ vs = .bool bs ∧ vl = .bool bl ∧ Own wr G (.slice (some ⟨G, 0, none⟩) n cg) ls ∧ Own wr G (.slice (some ⟨H, 0, none⟩) n ch) ll ∧
        Turned P16 65535 15 a l ls i bs ∧ Turned P32 4294967295 31 a l ll i bl ∧ Below w.heap.size w wr) (fun _ _ vi _ => 32 - (intOf vi).toNat)
    case atStart => exact ⟨0, l, l, false, false, by omega, rfl, rfl, rfl, O1.out, O2.out, Turned.start _ _ _ _ _, Turned.start _ _ _ _ _, BB.out⟩
    case round =>
      rename_i wr
      obtain ⟨i, ls, ll, bs, bl, hi, rfl, rfl, rfl, o1, o2, t1, t2, hB⟩ := hrel
      by_cases hlt : i < 32
      · by_cases hb : Y.testBit i = true
        · have hand : bits .and .u32 (y / 2 ^ i) 1 = 1 := burst_bit Y i y hy1 YY.out hb
          by_cases hk : a + i < 8 * n
          · have hj : (a + i) / 8 < n := by omega
            have hki : (a : Int) + (i : Int) < 8 * (n : Int) := by omega
            have c1 := o1.cell (by rw [t1.len]; exact HL.out.symm) _ hj
            have f1 := o1.unfrozen (by rw [t1.len]; exact HL.out.symm) ((a + i) / 8)
            have c2 := o2.cell (by rw [t2.len]; exact HL.out.symm) _ hj
            have f2 := o2.unfrozen (by rw [t2.len]; exact HL.out.symm) ((a + i) / 8)
            obtain ⟨z1, hz1⟩ : ∃ z, z = byteAt ls ((a + i) / 8) := ⟨_, rfl⟩
            obtain ⟨z2, hz2⟩ : ∃ z, z = byteAt ll ((a + i) / 8) := ⟨_, rfl⟩
            rw [← hz1] at c1
            rw [← hz2] at c2
            have HT1 := Lib.hid t1
            have HT2 := Lib.hid t2
            have Z1 := Lib.hid hz1
            have Z2 := Lib.hid hz2
            have P1 := Lib.hid o1
            have P2 := Lib.hid o2
            have PB := Lib.hid hB
            clear t1 t2 hz1 hz2 o1 o2 hB hb
            have k1 := P1.out.set_ (by rw [HT1.out.len]; exact HL.out.symm) ((a + i) / 8) (ls.getD ((a + i) / 8) 0 ^^^ oneBit ((a + i) % 8)) (bits .xor .u8 z1 (2 ^ ((a + i) % 8) % 256)) (by rw [Z1.out]; exact turn_val ls (a + i))
            have k2 := P2.out.grown (only_set (w := wr) (p := ⟨G, (a + i) / 8, none⟩) (.int .u8 (bits .xor .u8 z1 (2 ^ ((a + i) % 8) % 256)))) (.inr (by simpa [Value.ownBlock] using (fun e => hgh e.symm)))
            have k3 := k2.set_ (by rw [HT2.out.len]; exact HL.out.symm) ((a + i) / 8) (ll.getD ((a + i) / 8) 0 ^^^ oneBit ((a + i) % 8)) (bits .xor .u8 z2 (2 ^ ((a + i) % 8) % 256)) (by rw [Z2.out]; exact turn_val ll (a + i))
            have k4 := P2.out.set_ (by rw [HT2.out.len]; exact HL.out.symm) ((a + i) / 8) (ll.getD ((a + i) / 8) 0 ^^^ oneBit ((a + i) % 8)) (bits .xor .u8 z2 (2 ^ ((a + i) % 8) % 256)) (by rw [Z2.out]; exact turn_val ll (a + i))
            have K13 := Lib.hid (k1.grown (only_set (w := wr.setCell ⟨G, (a + i) / 8, none⟩ (.int .u8 (bits .xor .u8 z1 (2 ^ ((a + i) % 8) % 256)))) (p := ⟨H, (a + i) / 8, none⟩) (.int .u8 (bits .xor .u8 z2 (2 ^ ((a + i) % 8) % 256)))) (.inr (by simpa [Value.ownBlock] using hgh)))
            have K23 := Lib.hid k3
            have K14 := Lib.hid (P1.out.grown (only_set (w := wr) (p := ⟨H, (a + i) / 8, none⟩) (.int .u8 (bits .xor .u8 z2 (2 ^ ((a + i) % 8) % 256)))) (.inr (by simpa [Value.ownBlock] using hgh)))
            have K24 := Lib.hid k4
            have hG0 := (P1.out.block G rfl).1
            have hH0 := (P2.out.block H rfl).1
            have B2 := Lib.hid (PB.out.setCell (p := ⟨H, (a + i) / 8, none⟩) (by rw [← GG.out]; exact hH0) (.int .u8 (bits .xor .u8 z2 (2 ^ ((a + i) % 8) % 256))))
            have B1 := Lib.hid ((PB.out.setCell (p := ⟨G, (a + i) / 8, none⟩) (by rw [← GG.out]; exact hG0) (.int .u8 (bits .xor .u8 z1 (2 ^ ((a + i) % 8) % 256)))).setCell (p := ⟨H, (a + i) / 8, none⟩) (by rw [← GG.out]; exact hH0) (.int .u8 (bits .xor .u8 z2 (2 ^ ((a + i) % 8) % 256))))
            have HK := Lib.hid (show a + i < 8 * l.length by rw [HL.out]; exact hk)
            clear k1 k2 k3 k4 hG0 hH0
            by_cases h16 : i < 16
            · go_wp2
              go_roundw
              case rel => exact ⟨i + 1, turnBit ls (a + i), turnBit ll (a + i), true, true, by omega, by go_num, rfl, rfl, K13.out, K23.out, HT1.out.turn (by omega) HK.out, HT2.out.turn (by omega) HK.out, B1.out⟩
              case measure => simp [intOf]; omega
            · go_wp2
              go_roundw
              case rel => exact ⟨i + 1, ls, turnBit ll (a + i), bs, true, by omega, by go_num, rfl, rfl, K14.out, K24.out, HT1.out.on, HT2.out.turn (by omega) HK.out, B2.out⟩
              case measure => simp [intOf]; omega
          · have HT1 := Lib.hid t1
            have HT2 := Lib.hid t2
            have P1 := Lib.hid o1
            have P2 := Lib.hid o2
            have PB := Lib.hid hB
            clear t1 t2 o1 o2 hB hb
            go_wp2
            go_roundw
            case rel => exact ⟨i + 1, ls, ll, bs, bl, by omega, by go_num, rfl, rfl, P1.out, P2.out, HT1.out.on, HT2.out.on, PB.out⟩
            case measure => simp [intOf]; omega
        · have hand : bits .and .u32 (y / 2 ^ i) 1 = 0 := burst_none Y i y hy1 YY.out (by simpa using hb)
          have HT1 := Lib.hid t1
          have HT2 := Lib.hid t2
          have P1 := Lib.hid o1
          have P2 := Lib.hid o2
          have PB := Lib.hid hB
          clear t1 t2 o1 o2 hB hb
          go_wp2
          go_roundw
          case rel => exact ⟨i + 1, ls, ll, bs, bl, by omega, by go_num, rfl, rfl, P1.out, P2.out, HT1.out.on, HT2.out.on, PB.out⟩
          case measure => simp [intOf]; omega
      · have d1 := t1.told (by decide) (by decide)
        have d2 := t2.told (by decide) (by decide)
        have q1 := o1.rd (by rw [t1.len]; exact HL.out.symm) n (Nat.le_refl _)
        have q2 := o2.rd (by rw [t2.len]; exact HL.out.symm) n (Nat.le_refl _)
        rw [List.take_of_length_le (by rw [t1.len, HL.out]; exact Nat.le_refl _)] at q1
        rw [List.take_of_length_le (by rw [t2.len, HL.out]; exact Nat.le_refl _)] at q2
        have S1 := Lib.hid (fun k => sum16_any _ n cg _ ls (wr.drewN k) (q1.drewN k) hcg (by unfold maxLen; omega) (T16.out.kept (below_drewN hB k)))
        have S2 := Lib.hid (fun k => sum16_any A n c _ l (wr.drewN k) (HR.out.below (below_drewN hB k)) hc (by unfold maxLen; omega) (T16.out.kept (below_drewN hB k)))
        have S3 := Lib.hid (fun k => sum32_any _ n ch _ ll (wr.drewN k) (q2.drewN k) hch (by unfold maxLen; omega) (T32.out.kept (below_drewN hB k)))
        have S4 := Lib.hid (fun k => sum32_any A n c _ l (wr.drewN k) (HR.out.below (below_drewN hB k)) hc (by unfold maxLen; omega) (T32.out.kept (below_drewN hB k)))
        have AW := Lib.hid (fun k => awake_yes (wr.drewN k) (T16.out.kept (below_drewN hB k)) (T32.out.kept (below_drewN hB k)))
        have e1 : ((((sum16 ls : Nat) : Int)) != ((sum16 l : Nat) : Int)) = bs := by
          rw [← d1]
          exact sum_ne16 ls l
        have e2 : ((((sum32 ll : Nat) : Int)) != ((sum32 l : Nat) : Int)) = bl := by
          rw [← d2]
          exact sum_ne32 ll l
        generalize ((sum16 ls : Nat) : Int) = y1 at S1 e1
        generalize ((sum16 l : Nat) : Int) = y2 at S2 e1
        generalize ((sum32 ll : Nat) : Int) = y3 at S3 e2
        generalize ((sum32 l : Nat) : Int) = y4 at S4 e2
        have PB := Lib.hid hB
        clear d1 d2 q1 q2 t1 t2 o1 o2 hB
        go_wp2_with fail
        refine (S1.out 0).mono ?_
        rintro e w3 ⟨rfl, p1, rfl⟩
        go_wp2_with fail
        refine (S2.out _).mono ?_
        rintro e w4 ⟨rfl, p2, rfl⟩
        go_wp2_with fail
        refine (S3.out _).mono ?_
        rintro e w5 ⟨rfl, p3, rfl⟩
        go_wp2_with fail
        refine (S4.out _).mono ?_
        rintro e w6 ⟨rfl, p4, rfl⟩
        go_wp2_with fail
        refine (AW.out _).mono ?_
        rintro e w7 ⟨rfl, hB7⟩
        have B7 := Lib.hid hB7
        clear hB7
        go_wp2
        go_ret
        exact ⟨rfl, (below_drewN PB.out _).trans (B7.out.mono (below_drewN PB.out _).size)⟩

theorem fcsbursts_none (A : Option Addr) (n c : Nat) (x1 y : Int) (w : World) (hy0 : 0 ≤ y) (hy1 : y ≤ 4294967295) (hn : n ≤ c) (hc : c ≤ 140737488351232) (h : n = 0 ∨ y = 0) (h16 : Tab16 w) (h32 : Tab32 w) :
    Calls Tryd.prog 5 #[.slice A n c, .int .i64 x1, .int .u32 y] w fun e w' => e = .returned (.bool true) ∧ Below w.heap.size w w' := by
  have AW := Lib.hid (awake_yes w h16 h32)
  clear h16 h32
  by_cases hn0 : n = 0
  · subst hn0
    go_enter Tryd.func5, Tryd.ntmps5
    go_wp2_with fail
    refine (AW.out).mono ?_
    rintro e w7 ⟨rfl, hB7⟩
    have B7 := Lib.hid hB7
    clear hB7
    go_wp2
    go_ret
    exact ⟨rfl, B7.out⟩
  · obtain rfl : y = 0 := by omega
    have hn3 : ((n : Int) == 0) = false := by simp; omega
    go_enter Tryd.func5, Tryd.ntmps5
    go_wp2_with fail
    refine (AW.out).mono ?_
    rintro e w7 ⟨rfl, hB7⟩
    have B7 := Lib.hid hB7
    clear hB7
    go_wp2
    go_ret
    exact ⟨rfl, B7.out⟩

theorem fcsbursts_walk (A : Option Addr) (n c : Nat) (x1 y : Int) (l : List UInt8) (w : World) (hr : Rd w w.heap.size A n l) (hnil : A = none → c = 0) (hc : n ≤ c) (hn : c ≤ 140737488351232)
    (hy0 : 0 ≤ y) (hy1 : y ≤ 4294967295) (h16 : Tab16 w) (h32 : Tab32 w) :
    Calls Tryd.prog 5 #[.slice A n c, .int .i64 x1, .int .u32 y] w fun e w' => e = .returned (.bool true) ∧ Below w.heap.size w w' := by
  by_cases h0 : n = 0 ∨ y = 0
  · exact fcsbursts_none A n c x1 y w hy0 hy1 hc hn h0 h16 h32
  · have hn0 : 0 < n := by omega
    have hM : 0 < 8 * (n : Int) := by omega
    by_cases hx : 0 ≤ x1
    · have m0 := Int.emod_nonneg x1 (show 8 * (n : Int) ≠ 0 by omega)
      have m1 := Int.emod_lt_of_pos x1 hM
      exact fcsbursts_loop n x1 y (x1 % (8 * (n : Int))).toNat y.toNat A c l w hr hc hn hn0 hnil (by omega) hy1 (by omega) (by omega) (.inl ⟨hx, by omega⟩) h16 h32
    · have e : x1.tmod (8 * (n : Int)) = -((-x1) % (8 * (n : Int))) := by
        rw [← Int.tmod_eq_emod_of_nonneg (show 0 ≤ -x1 by omega), Int.neg_tmod, Int.neg_neg]
      have m0 := Int.emod_nonneg (-x1) (show 8 * (n : Int) ≠ 0 by omega)
      have m1 := Int.emod_lt_of_pos (-x1) hM
      generalize (-x1) % (8 * (n : Int)) = z at *
      by_cases hz : z = 0
      · exact fcsbursts_loop n x1 y 0 y.toNat A c l w hr hc hn hn0 hnil (by omega) hy1 (by omega) (by omega) (.inr (.inr ⟨by omega, by rw [e, hz]; rfl⟩)) h16 h32
      · exact fcsbursts_loop n x1 y z.toNat y.toNat A c l w hr hc hn hn0 hnil (by omega) hy1 (by omega) (by omega) (.inr (.inl ⟨by omega, by rw [e]; omega, by omega⟩)) h16 h32
end Go.Proofs.YtdnheiefbecaeaaDoor
