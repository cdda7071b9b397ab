/-
  The clock of a meter is moved.
-/
import Derived.Test.YtplmflgmfffdhaaDoorMeLate
import Derived.Deep.RegionLaw
namespace Go.Proofs.YtplmflgmfffdhaaDoor
open Go.RowKit
set_option maxRecDepth 100000
set_option maxHeartbeats 8000000
set_option linter.unusedSimpArgs false
set_option linter.unusedVariables false
attribute [local go_sem] run_store_float

theorem mgdrew (W : World) (n g : Nat) : W.grownBy (W.drewN n) (some g) := ⟨rfl, rfl, rfl, Nat.le_refl _, fun _ _ _ => rfl⟩
theorem clock_nil (n : Int) (w : World) : Calls Tryd.prog 26 #[.pointer none, .int .i64 n] w fun e w' => e = .returned (.int .i64 2) ∧ w = w' := by
  go_enter Tryd.func26, Tryd.ntmps26
  go_wp2
  go_ret
  exact ⟨rfl, rfl⟩
def smK (x : MeS) (u v : Nat) (k : Nat) : MeS := { x with s := (if k = 0 then x.s else u), t := (if k = 2 then v else x.t) }
def clkX (x : MeS) (now : Int) (u v : Nat) : MeS := ⟨now, x.a0, x.a1, x.a2, x.a3, x.b0, x.b1, x.b2, x.b3, x.a0, x.a1, x.a2, x.a3, x.b0, x.b1, x.b2, x.b3, u, v⟩
def MeG (w W : World) (g : Nat) (x : MeS) : Prop := MeB W g x ∧ w.grownBy W (some g)
theorem MeG.set_s {w W : World} {g : Nat} {x : MeS} {u v : Nat} (h : MeG w W g (smK x u v 0)) (n : Nat) : MeG w ((W.drewN n).setCell ⟨g, 17, none⟩ (.float .f64 u)) g (smK x u v 1) := by
  refine ⟨?_, mgtrans h.2 (mgtrans (mgdrew W n g) (mgset (W.drewN n) _ _ _))⟩
  have h2 : Blk (W.drewN n) g _ _ := h.1
  exact h2.set_ 17 (.float .f64 u)
theorem MeG.set_t {w W : World} {g : Nat} {x : MeS} {u v : Nat} (h : MeG w W g (smK x u v 1)) (n : Nat) : MeG w ((W.drewN n).setCell ⟨g, 18, none⟩ (.float .f64 v)) g (smK x u v 2) := by
  refine ⟨?_, mgtrans h.2 (mgtrans (mgdrew W n g) (mgset (W.drewN n) _ _ _))⟩
  have h2 : Blk (W.drewN n) g _ _ := h.1
  exact h2.set_ 18 (.float .f64 v)
theorem clock_no (g : Nat) (x : MeS) (now : Int) (w : World) (hx : MeB w g x) (h : now < x.n ∨ 1099511627776 < now) : Calls Tryd.prog 26 #[.pointer (some ⟨g, 0, none⟩), .int .i64 now] w fun e w' => e = .returned (.int .i64 1) ∧ w = w' := by
  have h0 : w.cell? ⟨g, 0, none⟩ = some (.int .i64 x.n) := hx.cell 0
  clear hx
  obtain ⟨z, hz⟩ : ∃ z, x.n = z := ⟨_, rfl⟩
  rw [hz] at h0 h
  clear hz
  by_cases h1 : now < z
  · clear h
    go_enter Tryd.func26, Tryd.ntmps26
    go_wp2
    go_ret
    exact ⟨rfl, rfl⟩
  · have h2 : 1099511627776 < now := by omega
    clear h
    go_enter Tryd.func26, Tryd.ntmps26
    go_wp2
    go_ret
    exact ⟨rfl, rfl⟩
theorem clock_same (g : Nat) (x : MeS) (w : World) (hx : MeB w g x) (h : x.n ≤ 1099511627776) : Calls Tryd.prog 26 #[.pointer (some ⟨g, 0, none⟩), .int .i64 x.n] w fun e w' => e = .returned (.int .i64 0) ∧ w = w' := by
  have h0 : w.cell? ⟨g, 0, none⟩ = some (.int .i64 x.n) := hx.cell 0
  clear hx
  obtain ⟨z, hz⟩ : ∃ z, x.n = z := ⟨_, rfl⟩
  rw [hz] at h0 h ⊢
  clear hz
  go_enter Tryd.func26, Tryd.ntmps26
  go_wp2
  go_ret
  exact ⟨rfl, rfl⟩
theorem clock_yes (g : Nat) (x : MeS) (now : Int) (p q : Nat) (w : World) (hx : MeB w g x) (h1 : x.n < now) (h2 : now ≤ 1099511627776) (h3 : 0 ≤ x.n)
    (hL : ∀ W, MeB W g x → Calls Tryd.prog 48 #[.pointer (some ⟨g, 0, none⟩), .int .i64 (now - x.n)] W fun e w' => e = .returned (.agg #[.float .f64 p, .float .f64 q]) ∧ Below W.heap.size W w') :
    Calls Tryd.prog 26 #[.pointer (some ⟨g, 0, none⟩), .int .i64 now] w fun e w' => e = .returned (.int .i64 0) ∧ MeG w w' g (clkX x now (meanW x.s p 8) (meanW x.t q 8)) := by
  have h0 : w.cell? ⟨g, 0, none⟩ = some (.int .i64 x.n) := hx.cell 0
  have I0 : ∀ W, (Instr.index 63 (.agg #[.float .f64 p, .float .f64 q]) (.int .i64 0)).run Tryd.prog W = .ok (.float .f64 p) W := fun _ => by kernel_rfl
  have I1 : ∀ W, (Instr.index 63 (.agg #[.float .f64 p, .float .f64 q]) (.int .i64 1)).run Tryd.prog W = .ok (.float .f64 q) W := fun _ => by kernel_rfl
  have M0 : Hid (∀ W, Calls Tryd.prog 9 #[.float .f64 x.s, .float .f64 p, .int .i64 8] W fun e w' => e = .returned (.tuple #[.float .f64 (meanW x.s p 8), .int .i64 0]) ∧ ∃ n, w' = W.drewN n) := fun W => mean_any x.s p 8 W
  have M1 : Hid (∀ W, Calls Tryd.prog 9 #[.float .f64 x.t, .float .f64 q, .int .i64 8] W fun e w' => e = .returned (.tuple #[.float .f64 (meanW x.t q 8), .int .i64 0]) ∧ ∃ n, w' = W.drewN n) := fun W => mean_any x.t q 8 W
  have LA : Hid (Calls Tryd.prog 48 #[.pointer (some ⟨g, 0, none⟩), .int .i64 (now - x.n)] w fun e w' => e = .returned (.agg #[.float .f64 p, .float .f64 q]) ∧ Hid (MeG w w' g x)) := by
    refine (hL w hx).mono ?_
    rintro e w' ⟨rfl, hb⟩
    exact ⟨rfl, hx.below hb, mgsome hb⟩
  obtain ⟨u, hu⟩ : ∃ u, meanW x.s p 8 = u := ⟨_, rfl⟩
  obtain ⟨v, hv⟩ : ∃ v, meanW x.t q 8 = v := ⟨_, rfl⟩
  rw [hu] at M0 ⊢
  rw [hv] at M1 ⊢
  have E0 : smK x u v 0 = x := rfl
  have G0 : Hid (∀ W, Hid (MeG w W g x) → Hid (MeG w W g (smK x u v 0))) := fun W h => h
  obtain ⟨z, hz⟩ : ∃ z, x.n = z := ⟨_, rfl⟩
  rw [hz] at h0 h1 h3 LA
  have HZ := Lib.hid hz
  clear hx hL hu hv E0 hz
  go_enter Tryd.func26, Tryd.ntmps26
  go_wp2_with (go_at_call 48; refine LA.out.mono ?_; rintro e w1 ⟨rfl, G1⟩)
  go_loopw [33] (fun i wr => ∃ k : Nat, i = .int .i64 k ∧ k ≤ 2 ∧ Hid (MeG w wr g (smK x u v k))) (fun i _ => 2 - (intOf i).toNat)
  case atStart => exact ⟨0, rfl, by omega, G0.out _ G1⟩
  case round =>
    rename_i wr
    obtain ⟨k, rfl, hk, hG⟩ := hrel
    clear G1 G0 h0
    have hcs : k = 0 ∨ k = 1 ∨ k = 2 := by omega
    rcases hcs with rfl | rfl | rfl
    · have c17 : wr.cell? ⟨g, 17, none⟩ = some (.float .f64 x.s) := hG.out.1.cell 17
      have f17 : wr.frozen? ⟨g, 17, none⟩ = false := hG.out.1.frozen 17
      have PT : Hid (∀ n, MeG w ((wr.drewN n).setCell ⟨g, 17, none⟩ (.float .f64 u)) g (smK x u v 1)) := fun n => hG.out.set_s n
      clear hG
      go_upto_region 10 with (fail)
      go_region_law (go_simp; go_at_call 9; refine (M0.out _).mono ?_; rintro e W3 ⟨rfl, n, rfl⟩)
      all_goals
        go_wp2_with fail
        go_roundw
        case rel => exact ⟨1, rfl, by omega, by first | exact PT.out _ | exact PT.out (1 + _)⟩
        case measure => simp [intOf]
    · have c18 : wr.cell? ⟨g, 18, none⟩ = some (.float .f64 x.t) := hG.out.1.cell 18
      have f18 : wr.frozen? ⟨g, 18, none⟩ = false := hG.out.1.frozen 18
      have PT : Hid (∀ n, MeG w ((wr.drewN n).setCell ⟨g, 18, none⟩ (.float .f64 v)) g (smK x u v 2)) := fun n => hG.out.set_t n
      clear hG
      go_upto_region 10 with (fail)
      go_region_law (go_simp; go_at_call 9; refine (M1.out _).mono ?_; rintro e W3 ⟨rfl, n, rfl⟩)
      all_goals
        go_wp2_with fail
        go_roundw
        case rel => exact ⟨2, rfl, by omega, by first | exact PT.out _ | exact PT.out (1 + _)⟩
        case measure => simp [intOf]
    · have c0 : wr.cell? ⟨g, 0, none⟩ = some (.int .i64 x.n) := hG.out.1.cell 0
      have c1 : wr.cell? ⟨g, 1, none⟩ = some (.int .i64 x.a0) := hG.out.1.cell 1
      have c2 : wr.cell? ⟨g, 2, none⟩ = some (.int .i64 x.a1) := hG.out.1.cell 2
      have c3 : wr.cell? ⟨g, 3, none⟩ = some (.int .i64 x.a2) := hG.out.1.cell 3
      have c4 : wr.cell? ⟨g, 4, none⟩ = some (.int .i64 x.a3) := hG.out.1.cell 4
      have c5 : wr.cell? ⟨g, 5, none⟩ = some (.int .i64 x.b0) := hG.out.1.cell 5
      have c6 : wr.cell? ⟨g, 6, none⟩ = some (.int .i64 x.b1) := hG.out.1.cell 6
      have c7 : wr.cell? ⟨g, 7, none⟩ = some (.int .i64 x.b2) := hG.out.1.cell 7
      have c8 : wr.cell? ⟨g, 8, none⟩ = some (.int .i64 x.b3) := hG.out.1.cell 8
      have c9 : wr.cell? ⟨g, 9, none⟩ = some (.int .i64 x.c0) := hG.out.1.cell 9
      have c10 : wr.cell? ⟨g, 10, none⟩ = some (.int .i64 x.c1) := hG.out.1.cell 10
      have c11 : wr.cell? ⟨g, 11, none⟩ = some (.int .i64 x.c2) := hG.out.1.cell 11
      have c12 : wr.cell? ⟨g, 12, none⟩ = some (.int .i64 x.c3) := hG.out.1.cell 12
      have c13 : wr.cell? ⟨g, 13, none⟩ = some (.int .i64 x.d0) := hG.out.1.cell 13
      have c14 : wr.cell? ⟨g, 14, none⟩ = some (.int .i64 x.d1) := hG.out.1.cell 14
      have c15 : wr.cell? ⟨g, 15, none⟩ = some (.int .i64 x.d2) := hG.out.1.cell 15
      have c16 : wr.cell? ⟨g, 16, none⟩ = some (.int .i64 x.d3) := hG.out.1.cell 16
      have f0 : wr.frozen? ⟨g, 0, none⟩ = false := hG.out.1.frozen 0
      have f9 : wr.frozen? ⟨g, 9, none⟩ = false := hG.out.1.frozen 9
      have f10 : wr.frozen? ⟨g, 10, none⟩ = false := hG.out.1.frozen 10
      have f11 : wr.frozen? ⟨g, 11, none⟩ = false := hG.out.1.frozen 11
      have f12 : wr.frozen? ⟨g, 12, none⟩ = false := hG.out.1.frozen 12
      have f13 : wr.frozen? ⟨g, 13, none⟩ = false := hG.out.1.frozen 13
      have f14 : wr.frozen? ⟨g, 14, none⟩ = false := hG.out.1.frozen 14
      have f15 : wr.frozen? ⟨g, 15, none⟩ = false := hG.out.1.frozen 15
      have f16 : wr.frozen? ⟨g, 16, none⟩ = false := hG.out.1.frozen 16
      have PT : Hid (MeG w (((((((((wr.setCell ⟨g, 0, none⟩ (.int .i64 now)).setCell ⟨g, 9, none⟩ (.int .i64 x.a0)).setCell ⟨g, 10, none⟩ (.int .i64 x.a1)).setCell ⟨g, 11, none⟩ (.int .i64 x.a2)).setCell ⟨g, 12, none⟩ (.int .i64 x.a3)).setCell ⟨g, 13, none⟩ (.int .i64 x.b0)).setCell ⟨g, 14, none⟩ (.int .i64 x.b1)).setCell ⟨g, 15, none⟩ (.int .i64 x.b2)).setCell ⟨g, 16, none⟩ (.int .i64 x.b3)) g (clkX x now u v)) := ⟨(((((((((hG.out.1.set_ 0 (.int .i64 now)).set_ 9 (.int .i64 x.a0)).set_ 10 (.int .i64 x.a1)).set_ 11 (.int .i64 x.a2)).set_ 12 (.int .i64 x.a3)).set_ 13 (.int .i64 x.b0)).set_ 14 (.int .i64 x.b1)).set_ 15 (.int .i64 x.b2)).set_ 16 (.int .i64 x.b3)), mgtrans hG.out.2 (mgtrans (mgtrans (mgtrans (mgtrans (mgtrans (mgtrans (mgtrans (mgtrans (mgset _ _ _ _) (mgset _ _ _ _)) (mgset _ _ _ _)) (mgset _ _ _ _)) (mgset _ _ _ _)) (mgset _ _ _ _)) (mgset _ _ _ _)) (mgset _ _ _ _)) (mgset _ _ _ _))⟩
      clear hG
      go_wp2
      go_ret
      exact ⟨rfl, PT.out⟩
end Go.Proofs.YtplmflgmfffdhaaDoor
