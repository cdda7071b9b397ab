/-
  HdlcTold: a bit that is turned is told.
-/
import Derived.Test.YtmdlpbgelgeiaaaDoorHdKnown
import Derived.Test.YtmdlpbgelgeiaaaDoorHdEncU
import Derived.Test.YtmdlpbgelgeiaaaDoorHdToldM
namespace Go.Proofs.YtmdlpbgelgeiaaaDoor
open Go.RowKit
set_option maxRecDepth 100000
set_option maxHeartbeats 4000000
set_option linter.unusedSimpArgs false
set_option linter.unusedVariables false

/-- a slice's form -/
theorem Own.sliceF {w : World} {base : Nat} {v : Value} {l : List UInt8} (h : Own w base v l) : ∃ A n c, v = .slice A n c ∧ n = l.length ∧ n ≤ c ∧ (A = none → c = 0) ∧ ∀ g o s, A = some ⟨g, o, s⟩ → base ≤ g ∧ g < w.heap.size := by
  rcases h.form with ⟨e, e2⟩ | ⟨g, cap, e, h1, h2, hc⟩
  · exact ⟨_, _, _, e, by rw [e2]; rfl, Nat.le_refl _, fun _ => rfl, fun g o s e => by cases e⟩
  · exact ⟨_, _, _, e, rfl, hc, (fun e => by cases e), fun g' o s e => by cases e; exact ⟨h1, h2⟩⟩
/-- what follows once the bit is turned -/
theorem told_chain (w W : World) (g m : Nat) (T : List UInt8) (hB : Below w.heap.size w W) (hg : w.heap.size ≤ g) (ho : Own W w.heap.size (.slice (some ⟨g, 0, none⟩) m m) T) (hm : m = T.length) (h4 : 4 ≤ T.length) (hM : T.length ≤ 16390) (hj : jdK true true T = 1) (hT : Tab16 w) :
    Calls Tryd.prog 16 #[.slice (some ⟨g, 0, none⟩) m m, .int .i64 0] W fun e w4 => ∃ v, e = .returned (.tuple #[v, .int .i64 0]) ∧
      Hid (Calls Tryd.prog 25 #[.int .i64 16384, .int .i64 0, .bool true, .bool true] w4 fun e w5 => ∃ b v6 w6 v7 w7, e = .returned (.pointer (some ⟨b, 0, none⟩)) ∧
        (Builtin.append_ #[22, 22] 22 #[.slice (some ⟨w5.heap.size, 0, none⟩) 1 1, v]).run Tryd.prog (w5.alloc (.cells #[.int .u8 126] 5)) = .ok v6 w6 ∧
        (Builtin.append_ #[22, 22] 22 #[v6, .slice (some ⟨w6.heap.size, 0, none⟩) 1 1]).run Tryd.prog (w6.alloc (.cells #[.int .u8 126] 5)) = .ok v7 w7 ∧
        Hid (Calls Tryd.prog 28 #[.pointer (some ⟨b, 0, none⟩), v7] w7 fun e w8 => ∃ A n c, e = .returned (.slice A n c) ∧ n = 0 ∧
          Hid (Calls Tryd.prog 31 #[.pointer (some ⟨b, 0, none⟩)] w8 fun e w9 => ∃ x0 x1 x2 x4 x5, e = .returned (.agg #[.int .i64 x0, .int .i64 x1, .int .i64 x2, .int .i64 1, .int .i64 x4, .int .i64 x5]) ∧
            Hid (Calls Tryd.prog 21 #[] w9 fun e w10 => e = .returned (.bool true) ∧ Below w.heap.size w w10)))) := by
  have sW := hB.size
  have hrd := ho.rdAllF
  have hm0 : mapB 0 = true := by decide
  refine (escape_any (some ⟨g, 0, none⟩) m m T 0 W hrd (by omega)).mono ?_
  rintro e w4 ⟨v, rfl, ho4, hb4⟩
  rw [if_pos hm0] at ho4 ⊢
  refine ⟨v, rfl, ?_⟩
  have s4 := hb4.size
  have hel := escL_le 0 T
  obtain ⟨Av, nv, cv, rfl, hnv, hcv, hnilv, hgv⟩ := ho4.sliceF
  refine (new_yes 16384 0 true true w4 (by decide)).mono ?_
  rintro e w5 ⟨b, M, rfl, hb5, hMM, _, hL5, hB5⟩
  obtain rfl : M = 16390 := by omega
  have s5 := hB5.size
  have ho5 := ho4.later hB5
  have hrd5 : Rd w5 w5.heap.size Av nv (escL 0 T) := ho5.rdAllF
  have hown : Own (w5.alloc (.cells #[.int .u8 126] 5)) w5.heap.size (.slice (some ⟨w5.heap.size, 0, none⟩) 1 1) [126] := own_of_blk (blk_new w5 5 [.int .u8 126]) (Nat.le_refl _) (by simp)
  obtain ⟨v6, w6, r6, o6, g6, q6⟩ := append_run hown cv (hrd5.alloc (Nat.le_refl _) _) hnilv (by rw [hnv]; simp; omega) (by simp)
  have sz6 := g6.size
  simp at sz6
  obtain ⟨v7, w7, r7, o7, g7, q7⟩ := append_run (o6.alloc (.cells #[.int .u8 126] 5)) 1 (rd_one w6 126 126 rfl) (by simp) (by simp; omega) (by simp; omega)
  have sz7 := g7.size
  simp at sz7
  refine ⟨b, v6, w6, v7, w7, rfl, r6, r7, ?_⟩
  have own6 := o6.block
  have own7 := o7.block
  have B57 : Below w5.heap.size w5 w7 := (((((Below.refl _ _).alloc (Nat.le_refl _) _).grown g6 (by simp) (fun k hk => by simp [Value.ownBlock] at hk; omega)).alloc (by omega) _).grown g7 (by simp; omega) (fun k hk => (own6 k hk).1))
  have BW : Below w.heap.size w w7 := (((hB.trans (hb4.mono (by omega))).trans (hB5.mono (by omega))).trans (B57.mono (by omega)))
  have hL7 := hL5.later B57
  obtain ⟨A7, n7, c7, rfl, hn7, hc7, hnil7, hg7⟩ := o7.sliceF
  have hline : ([126] ++ escL 0 T ++ [126] : List UInt8) = lineL 0 T := rfl
  rw [hline] at o7 hn7
  have hrd7 : Rd w7 w7.heap.size A7 n7 (lineL 0 T) := o7.rdAllF
  have hlen : (lineL 0 T).length = (escL 0 T).length + 2 := by unfold lineL; simp
  have hbw5 := Blk.lt hL5.blk
  have h0 := tab_lt hT
  refine (feed_any b 0 16390 true true (Nat.le_refl _) st0 (.slice none 0 0) A7 n7 c7 (lineL 0 T) w7 hL7 hrd7 hc7 (by omega) (hT.kept BW) (by omega) (fun _ g' o' s' e => ⟨by have := (hg7 g' o' s' e).1; omega, by simp [Value.ownBlock]⟩)).mono ?_
  rintro e w8 ⟨v8, hv8, L, rfl, hf8, _, hL8, ht8⟩
  obtain ⟨rl1, rl2⟩ := run_line 0 16390 true true T h4 hM
  rw [rl2, if_neg (by omega)] at hf8
  rw [rl1] at hL8
  obtain ⟨A8, c8, rfl⟩ := hf8.own.shape
  refine ⟨A8, _, c8, rfl, rfl, ?_⟩
  have e1 : inc st0.su = 1 := by show wrap64 (0 + 1) = 1; unfold wrap64; decide
  have hjs : jdS true true st0 T = { st0 with su := 1 } := by unfold jdS; rw [if_neg (by omega), if_pos hj, e1]
  rw [hjs] at hL8
  refine (ucounts_any b 0 16390 true true hv8 _ w8 hL8).mono ?_
  rintro e w9 ⟨rfl, hb9⟩
  refine ⟨_, _, _, _, _, rfl, ?_⟩
  have B8 : Below w.heap.size w w8 := BW.trans (ht8.toBelow w.heap.size (by omega) (by omega) (fun g e => by cases e))
  have B9 : Below w.heap.size w w9 := B8.trans (hb9.mono (by have := ht8.size; omega))
  refine (known_any w9 (hT.kept B9)).mono ?_
  rintro e w10 ⟨rfl, hb10⟩
  exact ⟨rfl, B9.trans (hb10.mono (by have := B9.size; omega))⟩
theorem hd_turn_val (l : List UInt8) (k : Nat) : bits .xor .u8 (byteAt l (k / 8)) (2 ^ (k % 8) % 256) = ((l.getD (k / 8) 0 ^^^ oneBit (k % 8)).toNat : Int) := by
  have h := (l.getD (k / 8) 0).toNat_lt
  have e : ((2 : Int) ^ (k % 8) % 256) = ((oneBit (k % 8)).toNat : Int) := by
    rw [oneBit_nat _ (Nat.mod_lt _ (by omega))]
    have : 2 ^ (k % 8) < 2 ^ 8 := Nat.pow_lt_pow_right (by omega) (Nat.mod_lt _ (by omega))
    rw [show ((2 : Int) ^ (k % 8)) = ((2 ^ (k % 8) : Nat) : Int) by rw [Int.natCast_pow]; rfl]
    generalize 2 ^ (k % 8) = q at *
    omega
  have h' := (oneBit (k % 8)).toNat_lt
  rw [e]
  have h2 := u8_xor (byteAt l (k / 8)) ((oneBit (k % 8)).toNat : Int) (byteAt_lo _ _) (by have := byteAt_hi l (k / 8); omega) (by omega) (by omega)
  rw [h2]
  unfold byteAt
  simp
theorem field_su (x0 x1 x2 x3 x4 x5 : Int) (W : World) : (Instr.field 55 (.agg #[.int .i64 x0, .int .i64 x1, .int .i64 x2, .int .i64 x3, .int .i64 x4, .int .i64 x5]) 3).run Tryd.prog W = .ok (.int .i64 x3) W := by kernel_rfl
theorem told_walk (P : Int) (A : Option Addr) (n c : Nat) (l : List UInt8) (bit : Int) (w : World) (hr : Rd w w.heap.size A n l) (hnil : A = none → c = 0) (hnc : n ≤ c) (hbit : -9223372036854775808 ≤ bit ∧ bit ≤ 9223372036854775807) (hT : Tab16 w) :
    Calls Tryd.prog 8 #[.agg #[.int .i64 P, .slice A n c], .int .i64 bit] w fun e w' => e = .returned (.bool true) ∧ Below w.heap.size w w' := by
  obtain ⟨W1, hW1⟩ : ∃ W1, w.alloc (.cells #[.int .i64 P, .slice A n c] 24) = W1 := ⟨_, rfl⟩
  have s1 : W1.heap.size = w.heap.size + 1 := by rw [← hW1]; simp
  have b1 : Below w.heap.size w W1 := by rw [← hW1]; exact (Below.refl _ _).alloc (Nat.le_refl _) _
  have hr1 : Rd W1 w.heap.size A n l := hr.below b1
  have hT1 := hT.kept b1
  by_cases he : bodyE P n 0 = 0
  · have BC := (body_ok P A n c w.heap.size l 0 false false W1 hr1 (by omega) hnil hnc he hT1).mono (R' := fun e w2 => ∃ g m, e = .returned (.tuple #[.slice (some ⟨g, 0, none⟩) m m, .int .i64 0]) ∧ Hid (m = (bodyL P false false l).length) ∧ 4 ≤ m ∧ m ≤ 16390 ∧ g < w2.heap.size ∧ Hid (w.heap.size ≤ g) ∧ Hid (Own w2 w.heap.size (.slice (some ⟨g, 0, none⟩) m m) (bodyL P false false l)) ∧ Hid (Below w.heap.size w w2)) (by
      rintro e w2 ⟨g, m, rfl, hm, ho, hb⟩
      have hg := ho.block g rfl
      have hl := hr.1
      have h4 := hdL_le P false false
      have hn := (bodyE_ok he).2.1
      have hml : 4 ≤ m ∧ m ≤ 16390 := by
        rw [hm]
        unfold bodyL sumd hdL hd1 hd2 hd3
        simp only [List.length_append, low16_length]
        simp
        omega
      refine ⟨g, m, rfl, hm, hml.1, hml.2, hg.2, ?_, own_lower ho (by omega), b1.trans (hb.mono (by omega))⟩
      show _ ≤ _
      omega)
    have HB := Lib.hid BC
    rw [← hW1] at HB
    have HT := Lib.hid hT
    clear hW1 s1 b1 hr1 hT1 BC hr hnil hnc he hT
    go_enter Tryd.func8, Tryd.ntmps8
    go_upto_region 4 with (go_at_call 14; refine HB.out.mono ?_; rintro e w2 ⟨g, m, rfl, HM, m4, mM, hgl, HG, HO, HBW⟩)
    have CC := Lib.hid (hdcount_any bit (8 * m) w2 hbit (by omega) (by omega))
    have n4 : (4 : Int) ≤ (m : Int) := by omega
    have n5 : (m : Int) ≤ 16390 := by omega
    rw [show ((8 * m : Nat) : Int) = 8 * (m : Int) by omega] at CC
    go_upto_region 7 with (go_at_call 32; refine CC.out.mono ?_; rintro e w3 ⟨⟨j, rfl, hj⟩, rfl⟩)
    obtain ⟨B, hBe⟩ : ∃ B, B = bodyL P false false l := ⟨_, rfl⟩
    rw [← hBe] at HO HM
    have hj8 : j / 8 < m := by omega
    obtain ⟨y, hy⟩ : ∃ y, y = byteAt B (j / 8) := ⟨_, rfl⟩
    have cy : w2.cell? ⟨g, j / 8, none⟩ = some (.int .u8 y) := by rw [hy]; exact HO.out.cell HM.out (j / 8) hj8
    have fy := HO.out.unfrozen HM.out (j / 8)
    have y0 : 0 ≤ y := by rw [hy]; exact byteAt_lo _ _
    have y1 : y ≤ 255 := by rw [hy]; exact byteAt_hi _ _
    have j0 : 0 ≤ (j : Int) := by omega
    have j1 : (j : Int) ≤ 131120 := by omega
    have hT' : Hid (Own (w2.setCell ⟨g, j / 8, none⟩ (.int .u8 (bits .xor .u8 y (2 ^ (j % 8) % 256)))) w.heap.size (.slice (some ⟨g, 0, none⟩) m m) (turnBit B j)) := HO.out.set_ HM.out (j / 8) _ _ (by rw [hy]; exact hd_turn_val B j)
    have hBt : Below w.heap.size w (w2.setCell ⟨g, j / 8, none⟩ (.int .u8 (bits .xor .u8 y (2 ^ (j % 8) % 256)))) := HBW.out.setCell (p := ⟨g, j / 8, none⟩) HG.out _
    have hjd : jdK true true (turnBit B j) = 1 := by
      unfold jdK
      rw [if_pos]
      rw [hBe]
      exact turned_sum _ j (by have := HM.out; rw [hBe] at this; show j < 8 * (bodyL P false false l).length; omega)
    have TC := Lib.hid (told_chain w _ g m (turnBit B j) hBt HG.out hT'.out (by rw [turnBit_length]; exact HM.out) (by rw [turnBit_length]; have := HM.out; omega) (by rw [turnBit_length]; have := HM.out; omega) hjd HT.out)
    obtain ⟨x, hx⟩ : ∃ x : Int, x = bits .xor .u8 y (2 ^ (j % 8) % 256) := ⟨_, rfl⟩
    have FD := field_su
    clear hBe hy hBt hjd
    go_wp2_with (first
      | (go_at_call 16; refine TC.out.mono ?_; rintro e w4 ⟨v, rfl, NC⟩)
      | (go_at_call 25; refine NC.out.mono ?_; rintro e w5 ⟨b, v6, w6, v7, w7, rfl, r6, r7, FC⟩; have R6 := Lib.hid r6; have R7 := Lib.hid r7; clear r6 r7)
      | (at_builtin; refine wpList_app rfl (.tmp 56) (.tmp 57) rfl _ _ rfl rfl _ _ R6.out ?_)
      | (at_builtin; refine wpList_app rfl (.tmp 59) (.tmp 60) rfl _ _ rfl rfl _ _ R7.out ?_)
      | (go_at_call 28; refine FC.out.mono ?_; rintro e w8 ⟨A8, n8, c8, rfl, rfl, CC8⟩)
      | (go_at_call 31; refine CC8.out.mono ?_; rintro e w9 ⟨x0, x1, x2, x4, x5, rfl, KC⟩)
      | (go_at_call 21; refine KC.out.mono ?_; rintro e w10 ⟨rfl, hb10⟩))
    go_ret
    exact ⟨rfl, hb10⟩
  · have BC := (body_bad P A n c 0 false false W1 he).mono (R' := fun e w2 => e = .returned (.tuple #[.slice none 0 0, .int .i64 (bodyE P n 0)]) ∧ Hid (Calls Tryd.prog 21 #[] w2 fun e w3 => e = .returned (.bool true) ∧ Hid (Below w.heap.size w w3))) (by
      rintro e w2 ⟨rfl, hb⟩
      have B2 : Below w.heap.size w w2 := b1.trans (hb.mono (by omega))
      refine ⟨rfl, ?_⟩
      refine (known_any w2 (hT.kept B2)).mono ?_
      rintro e w3 ⟨rfl, hb3⟩
      exact ⟨rfl, B2.trans (hb3.mono B2.size)⟩)
    have HB := Lib.hid BC
    rw [← hW1] at HB
    have hne : (bodyE P n 0 != 0) = true := by simpa using he
    obtain ⟨E, hE⟩ : ∃ E, E = bodyE P n 0 := ⟨_, rfl⟩
    rw [← hE] at HB hne
    clear hW1 s1 b1 hr1 hT1 BC hr hnil hnc he hT hE
    go_enter Tryd.func8, Tryd.ntmps8
    go_wp2_with (first
      | (go_at_call 14; refine HB.out.mono ?_; rintro e w2 ⟨rfl, KC⟩)
      | (go_at_call 21; refine KC.out.mono ?_; rintro e w3 ⟨rfl, HB3⟩))
    go_ret
    exact ⟨rfl, HB3.out⟩
end Go.Proofs.YtmdlpbgelgeiaaaDoor
