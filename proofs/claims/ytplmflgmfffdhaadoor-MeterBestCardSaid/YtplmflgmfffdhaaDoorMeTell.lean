/-
  What a meter tells, and what is counted.
-/
import Derived.Test.YtplmflgmfffdhaaDoorMeObj
namespace Go.Proofs.YtplmflgmfffdhaaDoor
open Go.RowKit
set_option maxRecDepth 100000
set_option maxHeartbeats 4000000
set_option linter.unusedSimpArgs false
set_option linter.unusedVariables false

theorem counts_any (g : Nat) (x : MeS) (o : Bool) (w : World) (hx : MeB w g x) : Calls Tryd.prog 29 #[.pointer (some ⟨g, 0, none⟩), .bool o] w fun e w' => e = .returned (.agg #[.int .i64 (ct x o).1, .int .i64 (ct x o).2.1, .int .i64 (ct x o).2.2.1, .int .i64 (ct x o).2.2.2]) ∧ Below w.heap.size w w' := by
  cases o
  · exact counts_in g x w hx
  · exact counts_out g x w hx
def gainT (b k : Int) : Nat := quoT (floatOfInt .f64 (wrap64 (b - k))) (floatOfInt .f64 b)
def lossT (l p : Int) : Nat := quoT (floatOfInt .f64 l) (floatOfInt .f64 (wrap64 (l + p)))
theorem meRate_any (g : Nat) (x : MeS) (o : Bool) (w : World) (hx : MeB w g x) : Calls Tryd.prog 33 #[.pointer (some ⟨g, 0, none⟩), .bool o] w fun e w' => e = .returned (.float .f64 (rateT (ct x o).2.1 x.n)) ∧ Below w.heap.size w w' := by
  have h0 : w.cell? ⟨g, 0, none⟩ = some (.int .i64 x.n) := hx.cell 0
  have lg : g < w.heap.size := hx.lt
  have C1 : Hid (Calls Tryd.prog 29 #[.pointer (some ⟨g, 0, none⟩), .bool o] w.drew fun e w' => e = .returned (.agg #[.int .i64 (ct x o).1, .int .i64 (ct x o).2.1, .int .i64 (ct x o).2.2.1, .int .i64 (ct x o).2.2.2]) ∧ w'.cell? ⟨g, 0, none⟩ = some (.int .i64 x.n) ∧ Hid (Below w.heap.size w w')) := by
    refine (counts_any g x o w.drew hx).mono ?_
    rintro e w' ⟨rfl, hb⟩
    have h2 : MeB w.drew g x := hx
    have h1 := (h2.below hb).cell 0
    exact ⟨rfl, h1, mto (mdrewN (Below.refl _ _) 1) hb⟩
  have R : Hid (∀ W, Hid (Below w.heap.size w W) → W.cell? ⟨g, 0, none⟩ = some (.int .i64 x.n) → Calls Tryd.prog 53 #[.int .i64 (ct x o).2.1, .int .i64 x.n] W fun e w' => e = .returned (.float .f64 (rateT (ct x o).2.1 x.n)) ∧ w'.cell? ⟨g, 0, none⟩ = some (.int .i64 x.n) ∧ Hid (Below w.heap.size w w')) := by
    show ∀ W, _ → _ → _
    intro W hb hc
    refine (rate_any _ _ W).mono ?_
    rintro e w' ⟨rfl, n, rfl⟩
    exact ⟨rfl, hc, mdrewN hb.out n⟩
  obtain ⟨c, hc⟩ : ∃ c, ct x o = c := ⟨_, rfl⟩
  obtain ⟨p, b, k, l⟩ := c
  rw [hc] at C1 R ⊢
  obtain ⟨z, hz⟩ : ∃ z, x.n = z := ⟨_, rfl⟩
  rw [hz] at h0 C1 R ⊢
  simp only at C1 R ⊢
  obtain ⟨q, hq⟩ : ∃ q, rateT b z = q := ⟨_, rfl⟩
  rw [hq] at R ⊢
  have FD : ∀ W, (Instr.field 50 (.agg #[.int .i64 p, .int .i64 b, .int .i64 k, .int .i64 l]) 1).run Tryd.prog W = .ok (.int .i64 b) W := fun _ => by kernel_rfl
  clear hx hc hz hq
  go_enter Tryd.func33, Tryd.ntmps33
  go_wp2
  go_region_held3 (fun w' => w'.cell? ⟨g, 0, none⟩ = some (.int .i64 z)) (go_keep) (first | (go_at_call 29; (with_reducible refine C1.out.mono ?_); rintro e W2 ⟨rfl, k2, B2⟩) | (go_at_call 53; (with_reducible refine (R.out _ B2 k2).mono ?_); rintro e W3 ⟨rfl, k3, B3⟩))
  go_wp2_with fail
  go_ret
  exact ⟨rfl, B3.out⟩

theorem smooth_out (g : Nat) (x : MeS) (w : World) (hx : MeB w g x) : Calls Tryd.prog 34 #[.pointer (some ⟨g, 0, none⟩), .bool true] w fun e w' => e = .returned (.float .f64 x.t) ∧ ∃ n, w' = w.drewN n := by
  have h0 : w.cell? ⟨g, 18, none⟩ = some (.float .f64 x.t) := hx.cell 18
  clear hx
  have WY : Hid (∀ n, Calls Tryd.prog 46 #[.bool true] (w.drewN n) fun e w' => e = .returned (.int .i64 1) ∧ w' = w.drewN n) := fun n => (way_any true (w.drewN n)).mono fun _ _ ⟨a, b⟩ => ⟨a, b.symm⟩
  go_enter Tryd.func34, Tryd.ntmps34
  go_wp2
  go_quiet ((go_at_call 46; exact Calls.quiet_of_same (WY.out _)))
  go_wp2_with fail
  go_ret
  exact ⟨rfl, _, rfl⟩
theorem smooth_in (g : Nat) (x : MeS) (w : World) (hx : MeB w g x) : Calls Tryd.prog 34 #[.pointer (some ⟨g, 0, none⟩), .bool false] w fun e w' => e = .returned (.float .f64 x.s) ∧ ∃ n, w' = w.drewN n := by
  have h0 : w.cell? ⟨g, 17, none⟩ = some (.float .f64 x.s) := hx.cell 17
  clear hx
  have WY : Hid (∀ n, Calls Tryd.prog 46 #[.bool false] (w.drewN n) fun e w' => e = .returned (.int .i64 0) ∧ w' = w.drewN n) := fun n => (way_any false (w.drewN n)).mono fun _ _ ⟨a, b⟩ => ⟨a, b.symm⟩
  go_enter Tryd.func34, Tryd.ntmps34
  go_wp2
  go_quiet ((go_at_call 46; exact Calls.quiet_of_same (WY.out _)))
  go_wp2_with fail
  go_ret
  exact ⟨rfl, _, rfl⟩
theorem smooth_any (g : Nat) (x : MeS) (o : Bool) (w : World) (hx : MeB w g x) : Calls Tryd.prog 34 #[.pointer (some ⟨g, 0, none⟩), .bool o] w fun e w' => e = .returned (.float .f64 (smo x o)) ∧ ∃ n, w' = w.drewN n := by
  cases o
  · exact smooth_in g x w hx
  · exact smooth_out g x w hx

theorem meGain_of (v : Value) (o : Bool) (p b k l : Int) (w : World) (hC : Calls Tryd.prog 29 #[v, .bool o] w fun e w' => e = .returned (.agg #[.int .i64 p, .int .i64 b, .int .i64 k, .int .i64 l]) ∧ Below w.heap.size w w') :
    Calls Tryd.prog 31 #[v, .bool o] w fun e w' => e = .returned (.float .f64 (gainT b k)) ∧ Below w.heap.size w w' := by
  have HC := Lib.hid hC
  clear hC
  unfold gainT
  have C1 := cv64 (wrap64 (b - k))
  have C2 := cv64 b
  obtain ⟨u, hu⟩ : ∃ u, wrap64 (b - k) = u := ⟨_, rfl⟩
  rw [hu] at C1 ⊢
  obtain ⟨X, hX⟩ : ∃ X, floatOfInt .f64 u = X := ⟨_, rfl⟩
  obtain ⟨Y, hY⟩ : ∃ Y, floatOfInt .f64 b = Y := ⟨_, rfl⟩
  rw [hX] at C1 ⊢
  rw [hY] at C2 ⊢
  clear hX hY
  go_enter Tryd.func31, Tryd.ntmps31
  go_wp2_with (first | (go_at_call 29; refine HC.out.mono ?_; rintro e w1 ⟨rfl, hb⟩; have B1 := Lib.hid hb; clear hb) | (go_at_call 12; refine (ratio_any _ _ _).mono ?_; rintro e w' ⟨rfl, n, rfl⟩))
  go_ret
  exact ⟨rfl, mdrewN (B1.out.alloc B1.out.size _) n⟩
theorem meLoss_of (v : Value) (o : Bool) (p b k l : Int) (w : World) (hC : Calls Tryd.prog 29 #[v, .bool o] w fun e w' => e = .returned (.agg #[.int .i64 p, .int .i64 b, .int .i64 k, .int .i64 l]) ∧ Below w.heap.size w w') :
    Calls Tryd.prog 30 #[v, .bool o] w fun e w' => e = .returned (.float .f64 (lossT l p)) ∧ Below w.heap.size w w' := by
  have HC := Lib.hid hC
  clear hC
  unfold lossT
  have C1 := cv64 (wrap64 (l + p))
  have C2 := cv64 l
  obtain ⟨u, hu⟩ : ∃ u, wrap64 (l + p) = u := ⟨_, rfl⟩
  rw [hu] at C1 ⊢
  obtain ⟨X, hX⟩ : ∃ X, floatOfInt .f64 u = X := ⟨_, rfl⟩
  obtain ⟨Y, hY⟩ : ∃ Y, floatOfInt .f64 l = Y := ⟨_, rfl⟩
  rw [hX] at C1 ⊢
  rw [hY] at C2 ⊢
  clear hX hY
  go_enter Tryd.func30, Tryd.ntmps30
  go_wp2_with (first | (go_at_call 29; refine HC.out.mono ?_; rintro e w1 ⟨rfl, hb⟩; have B1 := Lib.hid hb; clear hb) | (go_at_call 12; refine (ratio_any _ _ _).mono ?_; rintro e w' ⟨rfl, n, rfl⟩))
  go_ret
  exact ⟨rfl, mdrewN (B1.out.alloc B1.out.size _) n⟩
end Go.Proofs.YtplmflgmfffdhaaDoor
