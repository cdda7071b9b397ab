/-
  The laws MeterNil, MeterNumbers, MeterOrders.
-/
import Derived.Test.YtplmflgmfffdhaaDoorMeKnown
namespace Go.Proofs.YtplmflgmfffdhaaDoor
open Go.RowKit
set_option maxRecDepth 100000
set_option maxHeartbeats 8000000
set_option linter.unusedSimpArgs false
set_option linter.unusedVariables false

theorem meternil_walk (n : Int) (o : Bool) (w : World) : Calls Tryd.prog 8 #[.int .i64 n, .bool o] w fun e w' => e = .returned (.bool true) ∧ Below w.heap.size w w' := by
  have EQ : ∀ W, (Op.equalIn 10000 50 (.agg #[.int .i64 0, .int .i64 0, .int .i64 0, .int .i64 0]) (.agg #[.int .i64 0, .int .i64 0, .int .i64 0, .int .i64 0])).run Tryd.prog W = .ok true W := fun _ => by kernel_rfl
  have NN : (FloatKind.f64.format.order NC NC != some .eq) = true := isN_NC
  have T1 : Hid (∀ W, Calls Tryd.prog 32 #[.float .f64 NC] W fun e w' => e = .returned (.float .f64 NC) ∧ W = w') := fun W => by
    have := rtold_any NC W
    rw [toldF_nan isN_NC] at this
    exact this
  have G1 : Hid (∀ W, Calls Tryd.prog 31 #[.pointer none, .bool o] W fun e w' => e = .returned (.float .f64 NC) ∧ Below W.heap.size W w') := fun W => by
    have := meGain_of (.pointer none) o 0 0 0 0 W (counts_nil o W)
    rw [show gainT 0 0 = NC by decide +kernel] at this
    exact this
  have L1 : Hid (∀ W, Calls Tryd.prog 30 #[.pointer none, .bool o] W fun e w' => e = .returned (.float .f64 NC) ∧ Below W.heap.size W w') := fun W => by
    have := meLoss_of (.pointer none) o 0 0 0 0 W (counts_nil o W)
    rw [show lossT 0 0 = NC by decide +kernel] at this
    exact this
  have B1 : Hid (∀ W, Calls Tryd.prog 11 #[.float .f64 NC, .float .f64 NC] W fun e w' => e = .returned (.bool true) ∧ W = w') := fun W => by
    have := bits_any NC NC W
    rw [show ((NC : Int) == (NC : Int)) = true by simp] at this
    exact this
  go_enter Tryd.func8, Tryd.ntmps8
  go_wp2_with (first | (go_at_call 29; refine (counts_nil _ _).mono ?_; rintro e w1 ⟨rfl, hb⟩; have BA := Lib.hid (hb.alloc hb.size (.cells #[.int .i64 0, .int .i64 0, .int .i64 0, .int .i64 0] 50)); clear hb) | (go_at_call 33; refine (rate_nil _ _).mono ?_; rintro e w' ⟨rfl, rfl⟩) | (go_at_call 32; (with_reducible refine (T1.out _).mono ?_); rintro e w' ⟨rfl, rfl⟩) | (go_at_call 22; refine (add_nil _ _ _ _).mono ?_; rintro e w' ⟨rfl, rfl⟩) | (go_at_call 24; refine (lose_nil _ _).mono ?_; rintro e w' ⟨rfl, rfl⟩) | (go_at_call 26; refine (clock_nil _ _).mono ?_; rintro e w' ⟨rfl, rfl⟩) | (go_at_call 11; (with_reducible refine (B1.out _).mono ?_); rintro e w' ⟨rfl, rfl⟩) | (go_at_call 31; (with_reducible refine (G1.out _).mono ?_); rintro e w2 ⟨rfl, hb⟩; have BB := Lib.hid (mto BA.out hb); clear hb) | (go_at_call 30; (with_reducible refine (L1.out _).mono ?_); rintro e w3 ⟨rfl, hb⟩; have BC := Lib.hid (mto BB.out hb); clear hb) | (go_at_call 34; refine (smooth_nil _ _).mono ?_; rintro e w' ⟨rfl, rfl⟩) | (go_at_call 16; refine (known_any _).mono ?_; rintro e w4 ⟨rfl, hb⟩; have BD := Lib.hid (mto BC.out hb); clear hb))
  go_ret
  exact ⟨rfl, BD.out⟩
theorem bits_same (a : Nat) (w : World) : Calls Tryd.prog 11 #[.float .f64 a, .float .f64 a] w fun e w' => e = .returned (.bool true) ∧ w = w' := by
  have := bits_any a a w
  rw [show ((a : Int) == (a : Int)) = true by simp] at this
  exact this
theorem bits_diff {a b : Nat} (h : a ≠ b) (w : World) : Calls Tryd.prog 11 #[.float .f64 a, .float .f64 b] w fun e w' => e = .returned (.bool false) ∧ w = w' := by
  have := bits_any a b w
  rw [show ((a : Int) == (b : Int)) = false by simp; omega] at this
  exact this
theorem meternumbers_walk (a b : Nat) (parts : Int) (w : World) (ha : Word a) (hb : Word b) : Calls Tryd.prog 3 #[.float .f64 a, .float .f64 b, .int .i64 parts] w fun e w' => e = .returned (.bool true) ∧ Below w.heap.size w w' := by
  have M1 := Lib.hid (mean_any a b parts)
  have M2 := Lib.hid (rmean_any a b parts)
  have R1 := Lib.hid (ratio_any a b)
  have R2 := Lib.hid (rratio_any a b)
  have O1 := Lib.hid (fun W => order_any a b W ha hb)
  have O2 := Lib.hid (fun W => rorder_any a b W ha hb)
  have BS := Lib.hid bits_same
  obtain ⟨x, hx⟩ : ∃ x, meanW a b parts = x := ⟨_, rfl⟩
  obtain ⟨e, he⟩ : ∃ e, meanE parts = e := ⟨_, rfl⟩
  obtain ⟨q, hq⟩ : ∃ q, quoT a b = q := ⟨_, rfl⟩
  obtain ⟨z, hz⟩ : ∃ z, ordV a b = z := ⟨_, rfl⟩
  rw [hx, he] at M1 M2
  rw [hq] at R1 R2
  rw [hz] at O1 O2
  clear hx he hq hz ha hb
  have D0 : ∀ n m, Below w.heap.size w ((w.drewN n).drewN m) := fun n m => mdrewN (mdrewN (Below.refl _ _) n) m
  have HD := Lib.hid D0
  clear D0
  go_enter Tryd.func3, Tryd.ntmps3
  go_wp2_with (first | (go_at_call 9; refine (M1.out _).mono ?_; rintro r w1 ⟨rfl, n1, h1⟩; have B1 : Hid (Below w.heap.size w w1) := (by show Below _ _ _; rw [h1]; exact mdrewN (Below.refl _ _) n1); clear h1) | (go_at_call 10; refine (M2.out _).mono ?_; rintro r w2 ⟨rfl, n2, h2⟩; have B2 : Hid (Below w.heap.size w w2) := (by show Below _ _ _; rw [h2]; exact mdrewN B1.out n2); clear h2) | (go_at_call 12; refine (R1.out _).mono ?_; rintro r w3 ⟨rfl, n3, h3⟩; have B3 : Hid (Below w.heap.size w w3) := (by show Below _ _ _; rw [h3]; exact mdrewN B2.out n3); clear h3) | (go_at_call 13; refine (R2.out _).mono ?_; rintro r w4 ⟨rfl, n4, h4⟩; have B4 : Hid (Below w.heap.size w w4) := (by show Below _ _ _; rw [h4]; exact mdrewN B3.out n4); clear h4) | (go_at_call 11; refine (BS.out _ _).mono ?_; rintro r w' ⟨rfl, rfl⟩) | (go_at_call 14; refine (O1.out _).mono ?_; rintro r w' ⟨rfl, rfl⟩) | (go_at_call 15; refine (O2.out _).mono ?_; rintro r w' ⟨rfl, rfl⟩) | (go_at_call 16; refine (known_any _).mono ?_; rintro r w5 ⟨rfl, hb⟩; have B5 := Lib.hid (mto B4.out hb); clear hb))
  go_ret
  exact ⟨rfl, B5.out⟩
theorem ord_vals (a b : Nat) : -1 ≤ ordV a b ∧ ordV a b ≤ 1 ∧ (ordV a b = 0 ↔ keyF a = keyF b) ∧ (ordV a b < 0 ↔ keyF a < keyF b) := by
  rw [ord_key]
  split
  · omega
  · split <;> omega
theorem meterorders_walk (a b c : Nat) (w : World) (ha : Word a) (hb : Word b) (hc : Word c) : Calls Tryd.prog 5 #[.float .f64 a, .float .f64 b, .float .f64 c] w fun e w' => e = .returned (.bool true) ∧ Below w.heap.size w w' := by
  have O1 := Lib.hid (fun W => order_any a b W ha hb)
  have O2 := Lib.hid (fun W => order_any b a W hb ha)
  have O3 := Lib.hid (fun W => order_any b c W hb hc)
  have O4 := Lib.hid (fun W => order_any a c W ha hc)
  have O5 := Lib.hid (fun W => order_any a a W ha ha)
  obtain ⟨x1, x2, x3, x4⟩ := ord_vals a b
  obtain ⟨y1, y2, y3, y4⟩ := ord_vals b a
  obtain ⟨z1, z2, z3, z4⟩ := ord_vals b c
  obtain ⟨u1, u2, u3, u4⟩ := ord_vals a c
  obtain ⟨v1, v2, v3, v4⟩ := ord_vals a a
  have hz := ord_zero ha hb
  have v0 : ordV a a = 0 := v3.2 rfl
  rw [v0] at O5
  obtain ⟨x, hx⟩ : ∃ x, ordV a b = x := ⟨_, rfl⟩
  obtain ⟨y, hy⟩ : ∃ y, ordV b a = y := ⟨_, rfl⟩
  obtain ⟨z, hzz⟩ : ∃ z, ordV b c = z := ⟨_, rfl⟩
  obtain ⟨u, hu⟩ : ∃ u, ordV a c = u := ⟨_, rfl⟩
  rw [hx] at O1 x1 x2 x3 x4
  rw [hy] at O2 y1 y2 y3 y4
  rw [hzz] at O3 z1 z2 z3 z4
  rw [hu] at O4 u1 u2 u3 u4
  have hxy : y = -x := by omega
  have t1 : 0 < x ∨ 0 < z ∨ u ≤ 0 := by omega
  have t2 : x < 0 ∨ z < 0 ∨ 0 ≤ u := by omega
  have e0 : x = 0 ↔ (a = b ∨ (isN a = true ∧ isN b = true)) := x3.trans hz
  subst hxy
  have A1 : (FloatKind.f64.format.order a a != some .eq) = isN a := rfl
  have B1 : (FloatKind.f64.format.order b b != some .eq) = isN b := rfl
  have cx : x = -1 ∨ x = 0 ∨ x = 1 := by omega
  have cz : z = -1 ∨ z = 0 ∨ z = 1 := by omega
  have cu : u = -1 ∨ u = 0 ∨ u = 1 := by omega
  clear x1 x2 x3 x4 y1 y2 y3 y4 z1 z2 z3 z4 u1 u2 u3 u4 v1 v2 v3 v4 v0 hx hy hzz hu hz ha hb hc
  by_cases hab : a = b
  · have hx0 : x = 0 := e0.2 (.inl hab)
    subst hx0
    subst hab
    have BS := Lib.hid (bits_same a)
    clear e0 cx A1 B1
    rcases cz with rfl | rfl | rfl <;> rcases cu with rfl | rfl | rfl
    all_goals first
      | (exfalso; omega)
      | (clear t1 t2
         go_enter Tryd.func5, Tryd.ntmps5
         go_wp2_with (first | (go_at_call 14; ((with_reducible refine (O5.out _).mono ?_); rintro r w' ⟨rfl, rfl⟩)) | (go_at_call 14; ((with_reducible refine (O3.out _).mono ?_); rintro r w' ⟨rfl, rfl⟩)) | (go_at_call 11; (with_reducible refine (BS.out _).mono ?_); rintro r w' ⟨rfl, rfl⟩) | (go_at_call 16; refine (known_any _).mono ?_; rintro r w5 ⟨rfl, hb⟩; have B5 := Lib.hid hb; clear hb))
         go_ret
         exact ⟨rfl, B5.out⟩)
  · have BS := Lib.hid (bits_diff hab)
    have e1 : x = 0 ↔ (isN a = true ∧ isN b = true) := e0.trans ⟨fun h => h.elim (fun h => absurd h hab) id, .inr⟩
    clear e0 hab
    rcases na : isN a with _ | _ <;> rcases nb : isN b with _ | _ <;> rw [na, nb] at e1 <;> rw [na] at A1 <;> rw [nb] at B1 <;> simp at e1
    all_goals
      clear na nb
      rcases cx with rfl | rfl | rfl <;> rcases cz with rfl | rfl | rfl <;> rcases cu with rfl | rfl | rfl
      all_goals first
        | (exfalso; omega)
        | (clear t1 t2 e1
           go_enter Tryd.func5, Tryd.ntmps5
           go_wp2_with (first | (go_at_call 14; ((with_reducible refine (O1.out _).mono ?_); rintro r w' ⟨rfl, rfl⟩)) | (go_at_call 14; ((with_reducible refine (O2.out _).mono ?_); rintro r w' ⟨rfl, rfl⟩)) | (go_at_call 14; ((with_reducible refine (O3.out _).mono ?_); rintro r w' ⟨rfl, rfl⟩)) | (go_at_call 14; ((with_reducible refine (O4.out _).mono ?_); rintro r w' ⟨rfl, rfl⟩)) | (go_at_call 14; ((with_reducible refine (O5.out _).mono ?_); rintro r w' ⟨rfl, rfl⟩)) | (go_at_call 11; (with_reducible refine (BS.out _).mono ?_); rintro r w' ⟨rfl, rfl⟩) | (go_at_call 16; refine (known_any _).mono ?_; rintro r w5 ⟨rfl, hb⟩; have B5 := Lib.hid hb; clear hb))
           go_ret
           exact ⟨rfl, B5.out⟩)
end Go.Proofs.YtplmflgmfffdhaaDoor
