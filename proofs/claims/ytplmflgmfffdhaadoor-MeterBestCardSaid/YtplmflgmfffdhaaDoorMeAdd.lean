/-
  What is counted: Add, Lose.
-/
import Derived.Test.YtplmflgmfffdhaaDoorMeClock
import Derived.Deep.CutRange
namespace Go.Proofs.YtplmflgmfffdhaaDoor
open Go.RowKit
set_option maxRecDepth 100000
set_option maxHeartbeats 8000000
set_option linter.unusedSimpArgs false
set_option linter.unusedVariables false

theorem add_nil (o : Bool) (b k : Int) (w : World) : Calls Tryd.prog 22 #[.pointer none, .bool o, .int .i64 b, .int .i64 k] w fun e w' => e = .returned (.int .i64 2) ∧ w = w' := by
  go_enter Tryd.func22, Tryd.ntmps22
  go_wp2
  go_ret
  exact ⟨rfl, rfl⟩
theorem lose_nil (o : Bool) (w : World) : Calls Tryd.prog 24 #[.pointer none, .bool o] w fun e w' => e = .returned (.int .i64 2) ∧ w = w' := by
  go_enter Tryd.func24, Tryd.ntmps24
  go_wp2
  go_ret
  exact ⟨rfl, rfl⟩
theorem rate_nil (o : Bool) (w : World) : Calls Tryd.prog 33 #[.pointer none, .bool o] w fun e w' => e = .returned (.float .f64 NC) ∧ w = w' := by
  go_enter Tryd.func33, Tryd.ntmps33
  go_wp2_with (go_at_call 45; refine (none_any _).mono ?_; rintro e w' ⟨rfl, rfl⟩)
  go_ret
  exact ⟨rfl, rfl⟩
theorem smooth_nil (o : Bool) (w : World) : Calls Tryd.prog 34 #[.pointer none, .bool o] w fun e w' => e = .returned (.float .f64 NC) ∧ w = w' := by
  go_enter Tryd.func34, Tryd.ntmps34
  go_wp2_with (go_at_call 45; refine (none_any _).mono ?_; rintro e w' ⟨rfl, rfl⟩)
  go_ret
  exact ⟨rfl, rfl⟩
theorem gr4d (W : World) (g i j k l : Nat) (a b c d : Value) (n : Nat) : W.grownBy (((((W.setCell ⟨g, i, none⟩ a).setCell ⟨g, j, none⟩ b).setCell ⟨g, k, none⟩ c).setCell ⟨g, l, none⟩ d).drewN n) (some g) := by
  have h := mgtrans (mgtrans (mgtrans (mgset W g i a) (mgset (W.setCell ⟨g, i, none⟩ a) g j b)) (mgset ((W.setCell ⟨g, i, none⟩ a).setCell ⟨g, j, none⟩ b) g k c)) (mgset (((W.setCell ⟨g, i, none⟩ a).setCell ⟨g, j, none⟩ b).setCell ⟨g, k, none⟩ c) g l d)
  exact ⟨h.os, h.tape, h.output, h.size, h.block⟩
/-- one way's counts are others -/
def setCt (x : MeS) (o : Bool) (p b k l : Int) : MeS := if o then { x with b0 := p, b1 := b, b2 := k, b3 := l } else { x with a0 := p, a1 := b, a2 := k, a3 := l }

theorem add_out (g : Nat) (x : MeS) (b k : Int) (w : World) (hx : MeB w g x) (h1 : 0 ≤ b ∧ b ≤ 1099511627776) (h2 : 0 ≤ k ∧ k ≤ 1099511627776) (q0 : 0 ≤ x.b0 ∧ x.b0 + 1 ≤ 1152921504606846976) (q1 : 0 ≤ x.b1 ∧ x.b1 + b ≤ 1152921504606846976) (q2 : 0 ≤ x.b2 ∧ x.b2 + k ≤ 1152921504606846976) :
    Calls Tryd.prog 22 #[.pointer (some ⟨g, 0, none⟩), .bool true, .int .i64 b, .int .i64 k] w fun e w' => e = .returned (.int .i64 0) ∧ MeG w w' g (setCt x true (x.b0 + 1) (x.b1 + b) (x.b2 + k) x.b3) := by
  have c0 : w.cell? ⟨g, 5, none⟩ = some (.int .i64 x.b0) := hx.cell 5
  have f0 : w.frozen? ⟨g, 5, none⟩ = false := hx.frozen 5
  have c1 : w.cell? ⟨g, 6, none⟩ = some (.int .i64 x.b1) := hx.cell 6
  have f1 : w.frozen? ⟨g, 6, none⟩ = false := hx.frozen 6
  have c2 : w.cell? ⟨g, 7, none⟩ = some (.int .i64 x.b2) := hx.cell 7
  have f2 : w.frozen? ⟨g, 7, none⟩ = false := hx.frozen 7
  have c3 : w.cell? ⟨g, 8, none⟩ = some (.int .i64 x.b3) := hx.cell 8
  have f3 : w.frozen? ⟨g, 8, none⟩ = false := hx.frozen 8
  have lg : g < w.heap.size := hx.lt
  have n1 : w.heap.size ≠ g := by omega
  have n2 : g ≠ w.heap.size := by omega
  obtain ⟨V, hV⟩ : ∃ V, w.alloc (.cells #[.int .i64 (x.b0 + 1), .int .i64 (x.b1 + b), .int .i64 (x.b2 + k), .int .i64 (x.b3)] 50) = V := ⟨_, rfl⟩
  have hBV : Below w.heap.size w V := by rw [← hV]; exact (Below.refl _ _).alloc (Nat.le_refl _) _
  have hXV : MeB V g x := hx.below hBV
  have hnew : Blk V w.heap.size 50 [.int .i64 (x.b0 + 1), .int .i64 (x.b1 + b), .int .i64 (x.b2 + k), .int .i64 (x.b3)] := by rw [← hV]; exact mblk_new w _ _
  have WY : Hid (∀ W, Calls Tryd.prog 46 #[.bool true] W fun e w' => e = .returned (.int .i64 1) ∧ W = w') := fun W => way_any true W
  have HV := Lib.hid hV
  have HB := Lib.hid hBV
  have HX := Lib.hid hXV
  have e0 : V.cell? ⟨w.heap.size, 0, none⟩ = some (.int .i64 (x.b0 + 1)) := hnew.cell 0
  have e1 : V.cell? ⟨w.heap.size, 1, none⟩ = some (.int .i64 (x.b1 + b)) := hnew.cell 1
  have e2 : V.cell? ⟨w.heap.size, 2, none⟩ = some (.int .i64 (x.b2 + k)) := hnew.cell 2
  have e3 : V.cell? ⟨w.heap.size, 3, none⟩ = some (.int .i64 (x.b3)) := hnew.cell 3
  have g0 : V.cell? ⟨g, 5, none⟩ = some (.int .i64 x.b0) := hXV.cell 5
  have k0 : V.frozen? ⟨g, 5, none⟩ = false := hXV.frozen 5
  have g1 : V.cell? ⟨g, 6, none⟩ = some (.int .i64 x.b1) := hXV.cell 6
  have k1 : V.frozen? ⟨g, 6, none⟩ = false := hXV.frozen 6
  have g2 : V.cell? ⟨g, 7, none⟩ = some (.int .i64 x.b2) := hXV.cell 7
  have k2 : V.frozen? ⟨g, 7, none⟩ = false := hXV.frozen 7
  have g3 : V.cell? ⟨g, 8, none⟩ = some (.int .i64 x.b3) := hXV.cell 8
  have k3 : V.frozen? ⟨g, 8, none⟩ = false := hXV.frozen 8
  obtain ⟨b1, b2⟩ := h1
  obtain ⟨k1, k2⟩ := h2
  obtain ⟨q3, q4⟩ := q0
  obtain ⟨q5, q6⟩ := q1
  obtain ⟨q7, q8⟩ := q2
  clear hx hV hBV hXV hnew
  go_enter Tryd.func22, Tryd.ntmps22
  go_upto_region 5 with (fail)
  go_region_held3 (fun w' => w'.cell? ⟨g, 5, none⟩ = some (.int .i64 x.b0) ∧ w'.cell? ⟨g, 6, none⟩ = some (.int .i64 x.b1) ∧ w'.cell? ⟨g, 7, none⟩ = some (.int .i64 x.b2) ∧ w'.cell? ⟨g, 8, none⟩ = some (.int .i64 x.b3)) (go_keep) ((go_at_call 46; (with_reducible refine (WY.out _).mono ?_); rintro e W2 ⟨rfl, rfl⟩))
  all_goals
    go_upto_region 9 with (fail)
    rw [HV.out]
    obtain ⟨V1, hV1⟩ : ∃ V1, V1 = V.drew := ⟨_, rfl⟩
    have HV1 := Lib.hid hV1
    clear hV1
    go_cut [54] from 47 to 54 (fun z W => z = .bool false ∧ V.drew = W)
    case first =>
      go_wp2
      all_goals
        go_meet
        case rel => exact ⟨by first | rfl | (congr 1; simp; omega), rfl⟩
    case rest =>
    obtain ⟨rfl, rfl⟩ := hcut
    clear HV1
    go_upto_region 11 with (fail)
    go_region_held3 (fun w' => w'.cell? ⟨w.heap.size, 0, none⟩ = some (.int .i64 (x.b0 + 1)) ∧ w'.cell? ⟨w.heap.size, 1, none⟩ = some (.int .i64 (x.b1 + b)) ∧ w'.cell? ⟨w.heap.size, 2, none⟩ = some (.int .i64 (x.b2 + k)) ∧ w'.cell? ⟨w.heap.size, 3, none⟩ = some (.int .i64 (x.b3))) (go_keep) ((go_at_call 46; (with_reducible refine (WY.out _).mono ?_); rintro e W2 ⟨rfl, rfl⟩))
    all_goals
      go_wp2_with fail
      go_ret
      exact ⟨rfl, (by exact ((((HX.out.set_ 5 (.int .i64 (x.b0 + 1))).set_ 6 (.int .i64 (x.b1 + b))).set_ 7 (.int .i64 (x.b2 + k))).set_ 8 (.int .i64 (x.b3)))), mgtrans (mgsome HB.out) (by exact gr4d _ _ _ _ _ _ _ _ _ _ 2)⟩
theorem add_in (g : Nat) (x : MeS) (b k : Int) (w : World) (hx : MeB w g x) (h1 : 0 ≤ b ∧ b ≤ 1099511627776) (h2 : 0 ≤ k ∧ k ≤ 1099511627776) (q0 : 0 ≤ x.a0 ∧ x.a0 + 1 ≤ 1152921504606846976) (q1 : 0 ≤ x.a1 ∧ x.a1 + b ≤ 1152921504606846976) (q2 : 0 ≤ x.a2 ∧ x.a2 + k ≤ 1152921504606846976) :
    Calls Tryd.prog 22 #[.pointer (some ⟨g, 0, none⟩), .bool false, .int .i64 b, .int .i64 k] w fun e w' => e = .returned (.int .i64 0) ∧ MeG w w' g (setCt x false (x.a0 + 1) (x.a1 + b) (x.a2 + k) x.a3) := by
  have c0 : w.cell? ⟨g, 1, none⟩ = some (.int .i64 x.a0) := hx.cell 1
  have f0 : w.frozen? ⟨g, 1, none⟩ = false := hx.frozen 1
  have c1 : w.cell? ⟨g, 2, none⟩ = some (.int .i64 x.a1) := hx.cell 2
  have f1 : w.frozen? ⟨g, 2, none⟩ = false := hx.frozen 2
  have c2 : w.cell? ⟨g, 3, none⟩ = some (.int .i64 x.a2) := hx.cell 3
  have f2 : w.frozen? ⟨g, 3, none⟩ = false := hx.frozen 3
  have c3 : w.cell? ⟨g, 4, none⟩ = some (.int .i64 x.a3) := hx.cell 4
  have f3 : w.frozen? ⟨g, 4, none⟩ = false := hx.frozen 4
  have lg : g < w.heap.size := hx.lt
  have n1 : w.heap.size ≠ g := by omega
  have n2 : g ≠ w.heap.size := by omega
  obtain ⟨V, hV⟩ : ∃ V, w.alloc (.cells #[.int .i64 (x.a0 + 1), .int .i64 (x.a1 + b), .int .i64 (x.a2 + k), .int .i64 (x.a3)] 50) = V := ⟨_, rfl⟩
  have hBV : Below w.heap.size w V := by rw [← hV]; exact (Below.refl _ _).alloc (Nat.le_refl _) _
  have hXV : MeB V g x := hx.below hBV
  have hnew : Blk V w.heap.size 50 [.int .i64 (x.a0 + 1), .int .i64 (x.a1 + b), .int .i64 (x.a2 + k), .int .i64 (x.a3)] := by rw [← hV]; exact mblk_new w _ _
  have WY : Hid (∀ W, Calls Tryd.prog 46 #[.bool false] W fun e w' => e = .returned (.int .i64 0) ∧ W = w') := fun W => way_any false W
  have HV := Lib.hid hV
  have HB := Lib.hid hBV
  have HX := Lib.hid hXV
  have e0 : V.cell? ⟨w.heap.size, 0, none⟩ = some (.int .i64 (x.a0 + 1)) := hnew.cell 0
  have e1 : V.cell? ⟨w.heap.size, 1, none⟩ = some (.int .i64 (x.a1 + b)) := hnew.cell 1
  have e2 : V.cell? ⟨w.heap.size, 2, none⟩ = some (.int .i64 (x.a2 + k)) := hnew.cell 2
  have e3 : V.cell? ⟨w.heap.size, 3, none⟩ = some (.int .i64 (x.a3)) := hnew.cell 3
  have g0 : V.cell? ⟨g, 1, none⟩ = some (.int .i64 x.a0) := hXV.cell 1
  have k0 : V.frozen? ⟨g, 1, none⟩ = false := hXV.frozen 1
  have g1 : V.cell? ⟨g, 2, none⟩ = some (.int .i64 x.a1) := hXV.cell 2
  have k1 : V.frozen? ⟨g, 2, none⟩ = false := hXV.frozen 2
  have g2 : V.cell? ⟨g, 3, none⟩ = some (.int .i64 x.a2) := hXV.cell 3
  have k2 : V.frozen? ⟨g, 3, none⟩ = false := hXV.frozen 3
  have g3 : V.cell? ⟨g, 4, none⟩ = some (.int .i64 x.a3) := hXV.cell 4
  have k3 : V.frozen? ⟨g, 4, none⟩ = false := hXV.frozen 4
  obtain ⟨b1, b2⟩ := h1
  obtain ⟨k1, k2⟩ := h2
  obtain ⟨q3, q4⟩ := q0
  obtain ⟨q5, q6⟩ := q1
  obtain ⟨q7, q8⟩ := q2
  clear hx hV hBV hXV hnew
  go_enter Tryd.func22, Tryd.ntmps22
  go_upto_region 5 with (fail)
  go_region_held3 (fun w' => w'.cell? ⟨g, 1, none⟩ = some (.int .i64 x.a0) ∧ w'.cell? ⟨g, 2, none⟩ = some (.int .i64 x.a1) ∧ w'.cell? ⟨g, 3, none⟩ = some (.int .i64 x.a2) ∧ w'.cell? ⟨g, 4, none⟩ = some (.int .i64 x.a3)) (go_keep) ((go_at_call 46; (with_reducible refine (WY.out _).mono ?_); rintro e W2 ⟨rfl, rfl⟩))
  all_goals
    go_upto_region 9 with (fail)
    rw [HV.out]
    obtain ⟨V1, hV1⟩ : ∃ V1, V1 = V.drew := ⟨_, rfl⟩
    have HV1 := Lib.hid hV1
    clear hV1
    go_cut [54] from 47 to 54 (fun z W => z = .bool false ∧ V.drew = W)
    case first =>
      go_wp2
      all_goals
        go_meet
        case rel => exact ⟨by first | rfl | (congr 1; simp; omega), rfl⟩
    case rest =>
    obtain ⟨rfl, rfl⟩ := hcut
    clear HV1
    go_upto_region 11 with (fail)
    go_region_held3 (fun w' => w'.cell? ⟨w.heap.size, 0, none⟩ = some (.int .i64 (x.a0 + 1)) ∧ w'.cell? ⟨w.heap.size, 1, none⟩ = some (.int .i64 (x.a1 + b)) ∧ w'.cell? ⟨w.heap.size, 2, none⟩ = some (.int .i64 (x.a2 + k)) ∧ w'.cell? ⟨w.heap.size, 3, none⟩ = some (.int .i64 (x.a3))) (go_keep) ((go_at_call 46; (with_reducible refine (WY.out _).mono ?_); rintro e W2 ⟨rfl, rfl⟩))
    all_goals
      go_wp2_with fail
      go_ret
      exact ⟨rfl, (by exact ((((HX.out.set_ 1 (.int .i64 (x.a0 + 1))).set_ 2 (.int .i64 (x.a1 + b))).set_ 3 (.int .i64 (x.a2 + k))).set_ 4 (.int .i64 (x.a3)))), mgtrans (mgsome HB.out) (by exact gr4d _ _ _ _ _ _ _ _ _ _ 2)⟩
theorem add_bad (g : Nat) (o : Bool) (b k : Int) (w : World) (h : ¬ ((0 ≤ b ∧ b ≤ 1099511627776) ∧ (0 ≤ k ∧ k ≤ 1099511627776))) : Calls Tryd.prog 22 #[.pointer (some ⟨g, 0, none⟩), .bool o, .int .i64 b, .int .i64 k] w fun e w' => e = .returned (.int .i64 1) ∧ w = w' := by
  have hc : b < 0 ∨ (0 ≤ b ∧ 1099511627776 < b) ∨ (0 ≤ b ∧ b ≤ 1099511627776 ∧ k < 0) ∨ (0 ≤ b ∧ b ≤ 1099511627776 ∧ 0 ≤ k ∧ 1099511627776 < k) := by omega
  clear h
  rcases hc with h | ⟨h, h2⟩ | ⟨h, h2, h3⟩ | ⟨h, h2, h3, h4⟩
  all_goals
    go_enter Tryd.func22, Tryd.ntmps22
    go_wp2
    go_ret
    exact ⟨rfl, rfl⟩
theorem full_out (g : Nat) (x : MeS) (b k : Int) (w : World) (hx : MeB w g x) (h1 : 0 ≤ b ∧ b ≤ 1099511627776) (h2 : 0 ≤ k ∧ k ≤ 1099511627776) (q0 : 0 ≤ x.b0 ∧ x.b0 ≤ 1152921504606846976) (q1 : 0 ≤ x.b1 ∧ x.b1 ≤ 1152921504606846976) (q2 : 0 ≤ x.b2 ∧ x.b2 ≤ 1152921504606846976) (hf : ¬ (x.b0 + 1 ≤ 1152921504606846976 ∧ x.b1 + b ≤ 1152921504606846976 ∧ x.b2 + k ≤ 1152921504606846976)) :
    Calls Tryd.prog 22 #[.pointer (some ⟨g, 0, none⟩), .bool true, .int .i64 b, .int .i64 k] w fun e w' => e = .returned (.int .i64 7) ∧ Below w.heap.size w w' := by
  have c0 : w.cell? ⟨g, 5, none⟩ = some (.int .i64 x.b0) := hx.cell 5
  have c1 : w.cell? ⟨g, 6, none⟩ = some (.int .i64 x.b1) := hx.cell 6
  have c2 : w.cell? ⟨g, 7, none⟩ = some (.int .i64 x.b2) := hx.cell 7
  have c3 : w.cell? ⟨g, 8, none⟩ = some (.int .i64 x.b3) := hx.cell 8
  have lg : g < w.heap.size := hx.lt
  have n1 : w.heap.size ≠ g := by omega
  have n2 : g ≠ w.heap.size := by omega
  have WY : Hid (∀ W, Calls Tryd.prog 46 #[.bool true] W fun e w' => e = .returned (.int .i64 1) ∧ W = w') := fun W => way_any true W
  obtain ⟨p, hp⟩ : ∃ p, x.b0 = p := ⟨_, rfl⟩
  obtain ⟨q, hq⟩ : ∃ q, x.b1 = q := ⟨_, rfl⟩
  obtain ⟨r, hr⟩ : ∃ r, x.b2 = r := ⟨_, rfl⟩
  obtain ⟨l, hl⟩ : ∃ l, x.b3 = l := ⟨_, rfl⟩
  rw [hp] at c0 q0 hf
  rw [hq] at c1 q1 hf
  rw [hr] at c2 q2 hf
  rw [hl] at c3
  obtain ⟨b1, b2⟩ := h1
  obtain ⟨k1, k2⟩ := h2
  obtain ⟨q3, q4⟩ := q0
  obtain ⟨q5, q6⟩ := q1
  obtain ⟨q7, q8⟩ := q2
  have HF := Lib.hid hf
  clear hx hp hq hr hl hf
  go_enter Tryd.func22, Tryd.ntmps22
  go_upto_region 5 with (fail)
  go_region_held3 (fun w' => w'.cell? ⟨g, 5, none⟩ = some (.int .i64 p) ∧ w'.cell? ⟨g, 6, none⟩ = some (.int .i64 q) ∧ w'.cell? ⟨g, 7, none⟩ = some (.int .i64 r) ∧ w'.cell? ⟨g, 8, none⟩ = some (.int .i64 l)) (go_keep) ((go_at_call 46; (with_reducible refine (WY.out _).mono ?_); rintro e W2 ⟨rfl, rfl⟩))
  all_goals
    go_upto_region 9 with (fail)
    go_cut [54] from 47 to 54 (fun z W => z = .bool true ∧ Hid (Below w.heap.size w W))
    case first =>
      go_wp2
      all_goals
        go_meet
        case rel => exact ⟨by have := HF.out; first | rfl | (congr 1; simp; omega), ((Below.refl _ _).alloc (Nat.le_refl _) _).drew⟩
    case rest =>
    obtain ⟨rfl, hB⟩ := hcut
    go_wp2_with fail
    go_ret
    exact ⟨rfl, hB.out⟩
theorem lose_out (g : Nat) (x : MeS) (w : World) (hx : MeB w g x) (q : 0 ≤ x.b3 ∧ x.b3 < 1152921504606846976) : Calls Tryd.prog 24 #[.pointer (some ⟨g, 0, none⟩), .bool true] w fun e w' => e = .returned (.int .i64 0) ∧ MeG w w' g (setCt x true x.b0 x.b1 x.b2 (x.b3 + 1)) := by
  have c3 : w.cell? ⟨g, 8, none⟩ = some (.int .i64 x.b3) := hx.cell 8
  have f3 : w.frozen? ⟨g, 8, none⟩ = false := hx.frozen 8
  have WY : Hid (∀ n, Calls Tryd.prog 46 #[.bool true] (w.drewN n) fun e w' => e = .returned (.int .i64 1) ∧ w' = w.drewN n) := fun n => (way_any true (w.drewN n)).mono fun _ _ ⟨a, b⟩ => ⟨a, b.symm⟩
  have PT : Hid (∀ n, MeG w ((w.setCell ⟨g, 8, none⟩ (.int .i64 (x.b3 + 1))).drewN n) g (setCt x true x.b0 x.b1 x.b2 (x.b3 + 1))) := fun n => ⟨hx.set_ 8 (.int .i64 (x.b3 + 1)), mgtrans (mgset w g 8 (.int .i64 (x.b3 + 1))) (mgdrew _ n g)⟩
  obtain ⟨q1, q2⟩ := q
  clear hx
  go_enter Tryd.func24, Tryd.ntmps24
  go_wp2
  go_quiet ((go_at_call 46; exact Calls.quiet_of_same (WY.out _)))
  go_wp2_with fail
  go_ret
  exact ⟨rfl, PT.out _⟩
theorem lost_out (g : Nat) (x : MeS) (w : World) (hx : MeB w g x) (q : 1152921504606846976 ≤ x.b3) : Calls Tryd.prog 24 #[.pointer (some ⟨g, 0, none⟩), .bool true] w fun e w' => e = .returned (.int .i64 7) ∧ ∃ n, w' = w.drewN n := by
  have c3 : w.cell? ⟨g, 8, none⟩ = some (.int .i64 x.b3) := hx.cell 8
  have WY : Hid (∀ n, Calls Tryd.prog 46 #[.bool true] (w.drewN n) fun e w' => e = .returned (.int .i64 1) ∧ w' = w.drewN n) := fun n => (way_any true (w.drewN n)).mono fun _ _ ⟨a, b⟩ => ⟨a, b.symm⟩
  clear hx
  go_enter Tryd.func24, Tryd.ntmps24
  go_wp2
  go_quiet ((go_at_call 46; exact Calls.quiet_of_same (WY.out _)))
  go_wp2_with fail
  go_ret
  exact ⟨rfl, _, rfl⟩
theorem full_in (g : Nat) (x : MeS) (b k : Int) (w : World) (hx : MeB w g x) (h1 : 0 ≤ b ∧ b ≤ 1099511627776) (h2 : 0 ≤ k ∧ k ≤ 1099511627776) (q0 : 0 ≤ x.a0 ∧ x.a0 ≤ 1152921504606846976) (q1 : 0 ≤ x.a1 ∧ x.a1 ≤ 1152921504606846976) (q2 : 0 ≤ x.a2 ∧ x.a2 ≤ 1152921504606846976) (hf : ¬ (x.a0 + 1 ≤ 1152921504606846976 ∧ x.a1 + b ≤ 1152921504606846976 ∧ x.a2 + k ≤ 1152921504606846976)) :
    Calls Tryd.prog 22 #[.pointer (some ⟨g, 0, none⟩), .bool false, .int .i64 b, .int .i64 k] w fun e w' => e = .returned (.int .i64 7) ∧ Below w.heap.size w w' := by
  have c0 : w.cell? ⟨g, 1, none⟩ = some (.int .i64 x.a0) := hx.cell 1
  have c1 : w.cell? ⟨g, 2, none⟩ = some (.int .i64 x.a1) := hx.cell 2
  have c2 : w.cell? ⟨g, 3, none⟩ = some (.int .i64 x.a2) := hx.cell 3
  have c3 : w.cell? ⟨g, 4, none⟩ = some (.int .i64 x.a3) := hx.cell 4
  have lg : g < w.heap.size := hx.lt
  have n1 : w.heap.size ≠ g := by omega
  have n2 : g ≠ w.heap.size := by omega
  have WY : Hid (∀ W, Calls Tryd.prog 46 #[.bool false] W fun e w' => e = .returned (.int .i64 0) ∧ W = w') := fun W => way_any false W
  obtain ⟨p, hp⟩ : ∃ p, x.a0 = p := ⟨_, rfl⟩
  obtain ⟨q, hq⟩ : ∃ q, x.a1 = q := ⟨_, rfl⟩
  obtain ⟨r, hr⟩ : ∃ r, x.a2 = r := ⟨_, rfl⟩
  obtain ⟨l, hl⟩ : ∃ l, x.a3 = l := ⟨_, rfl⟩
  rw [hp] at c0 q0 hf
  rw [hq] at c1 q1 hf
  rw [hr] at c2 q2 hf
  rw [hl] at c3
  obtain ⟨b1, b2⟩ := h1
  obtain ⟨k1, k2⟩ := h2
  obtain ⟨q3, q4⟩ := q0
  obtain ⟨q5, q6⟩ := q1
  obtain ⟨q7, q8⟩ := q2
  have HF := Lib.hid hf
  clear hx hp hq hr hl hf
  go_enter Tryd.func22, Tryd.ntmps22
  go_upto_region 5 with (fail)
  go_region_held3 (fun w' => w'.cell? ⟨g, 1, none⟩ = some (.int .i64 p) ∧ w'.cell? ⟨g, 2, none⟩ = some (.int .i64 q) ∧ w'.cell? ⟨g, 3, none⟩ = some (.int .i64 r) ∧ w'.cell? ⟨g, 4, none⟩ = some (.int .i64 l)) (go_keep) ((go_at_call 46; (with_reducible refine (WY.out _).mono ?_); rintro e W2 ⟨rfl, rfl⟩))
  all_goals
    go_upto_region 9 with (fail)
    go_cut [54] from 47 to 54 (fun z W => z = .bool true ∧ Hid (Below w.heap.size w W))
    case first =>
      go_wp2
      all_goals
        go_meet
        case rel => exact ⟨by have := HF.out; first | rfl | (congr 1; simp; omega), ((Below.refl _ _).alloc (Nat.le_refl _) _).drew⟩
    case rest =>
    obtain ⟨rfl, hB⟩ := hcut
    go_wp2_with fail
    go_ret
    exact ⟨rfl, hB.out⟩
theorem lose_in (g : Nat) (x : MeS) (w : World) (hx : MeB w g x) (q : 0 ≤ x.a3 ∧ x.a3 < 1152921504606846976) : Calls Tryd.prog 24 #[.pointer (some ⟨g, 0, none⟩), .bool false] w fun e w' => e = .returned (.int .i64 0) ∧ MeG w w' g (setCt x false x.a0 x.a1 x.a2 (x.a3 + 1)) := by
  have c3 : w.cell? ⟨g, 4, none⟩ = some (.int .i64 x.a3) := hx.cell 4
  have f3 : w.frozen? ⟨g, 4, none⟩ = false := hx.frozen 4
  have WY : Hid (∀ n, Calls Tryd.prog 46 #[.bool false] (w.drewN n) fun e w' => e = .returned (.int .i64 0) ∧ w' = w.drewN n) := fun n => (way_any false (w.drewN n)).mono fun _ _ ⟨a, b⟩ => ⟨a, b.symm⟩
  have PT : Hid (∀ n, MeG w ((w.setCell ⟨g, 4, none⟩ (.int .i64 (x.a3 + 1))).drewN n) g (setCt x false x.a0 x.a1 x.a2 (x.a3 + 1))) := fun n => ⟨hx.set_ 4 (.int .i64 (x.a3 + 1)), mgtrans (mgset w g 4 (.int .i64 (x.a3 + 1))) (mgdrew _ n g)⟩
  obtain ⟨q1, q2⟩ := q
  clear hx
  go_enter Tryd.func24, Tryd.ntmps24
  go_wp2
  go_quiet ((go_at_call 46; exact Calls.quiet_of_same (WY.out _)))
  go_wp2_with fail
  go_ret
  exact ⟨rfl, PT.out _⟩
theorem lost_in (g : Nat) (x : MeS) (w : World) (hx : MeB w g x) (q : 1152921504606846976 ≤ x.a3) : Calls Tryd.prog 24 #[.pointer (some ⟨g, 0, none⟩), .bool false] w fun e w' => e = .returned (.int .i64 7) ∧ ∃ n, w' = w.drewN n := by
  have c3 : w.cell? ⟨g, 4, none⟩ = some (.int .i64 x.a3) := hx.cell 4
  have WY : Hid (∀ n, Calls Tryd.prog 46 #[.bool false] (w.drewN n) fun e w' => e = .returned (.int .i64 0) ∧ w' = w.drewN n) := fun n => (way_any false (w.drewN n)).mono fun _ _ ⟨a, b⟩ => ⟨a, b.symm⟩
  clear hx
  go_enter Tryd.func24, Tryd.ntmps24
  go_wp2
  go_quiet ((go_at_call 46; exact Calls.quiet_of_same (WY.out _)))
  go_wp2_with fail
  go_ret
  exact ⟨rfl, _, rfl⟩
end Go.Proofs.YtplmflgmfffdhaaDoor
