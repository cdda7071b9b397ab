/-
  A track of phase: New, Do, Open, At, Proved, Passes, Times, Same; of one that is not there too.
-/
import Derived.Test.YtandakinbcfleaaPhEq
import Derived.Test.YtandakinbcfleaaPhPass
namespace Go.Proofs.Ytandakinbcfleaa
open Go.RowKit
set_option maxRecDepth 100000
set_option maxHeartbeats 4000000
set_option linter.unusedSimpArgs false
set_option linter.unusedVariables false

theorem phNew_any (w : World) : Calls Try.prog 18 #[] w fun e w' => e = .returned (.pointer (some ⟨w.heap.size, 0, none⟩)) ∧ TrB w' w.heap.size phZ ∧ Below w.heap.size w w' := by
  go_enter Try.func18, Try.ntmps18
  go_wp2
  go_ret
  exact ⟨rfl, blk_new w _ (phC phZ), (Below.refl _ _).alloc (Nat.le_refl _) _⟩
theorem phDo_nil (e : Int) (w : World) : Calls Try.prog 22 #[.pointer none, .int .i64 e] w fun r w' => r = .returned (.int .i64 2) ∧ w = w' := by
  go_enter Try.func22, Try.ntmps22
  go_wp2
  go_ret
  exact ⟨rfl, rfl⟩
theorem phOpen_nil (a b : Bool) (w : World) : Calls Try.prog 23 #[.pointer none, .bool a, .bool b] w fun r w' => r = .returned (.int .i64 2) ∧ w = w' := by
  go_enter Try.func23, Try.ntmps23
  go_wp2
  go_ret
  exact ⟨rfl, rfl⟩
theorem phAt_nil (w : World) : Calls Try.prog 21 #[.pointer none] w fun r w' => r = .returned (.int .i64 0) ∧ w = w' := by
  go_enter Try.func21, Try.ntmps21
  go_wp2
  go_ret
  exact ⟨rfl, rfl⟩
theorem phProved_nil (w : World) : Calls Try.prog 25 #[.pointer none] w fun r w' => r = .returned (.tuple #[.bool false, .bool false]) ∧ w = w' := by
  go_enter Try.func25, Try.ntmps25
  go_wp2
  go_ret2
  exact ⟨rfl, rfl⟩
theorem phPass_nil (n : Int) (w : World) : Calls Try.prog 24 #[.pointer none, .int .i64 n] w fun r w' => r = .returned (.bool false) ∧ w = w' := by
  go_enter Try.func24, Try.ntmps24
  go_wp2_with (first | (go_at_call 21; refine (phAt_nil _).mono ?_; rintro e w' ⟨rfl, rfl⟩) | (go_at_call 15; refine (passes_any 0 n _).mono ?_; rintro e w' ⟨rfl, rfl⟩))
  go_ret
  exact ⟨rfl, rfl⟩
theorem phTimes_nil (w : World) : Calls Try.prog 26 #[.pointer none] w fun r w' => r = .returned (.agg #[.int .i64 0, .int .i64 0, .int .i64 0, .int .i64 0, .int .i64 0]) ∧ Below w.heap.size w w' := by
  go_enter Try.func26, Try.ntmps26
  go_wp2
  exact bodyPost_ret (v := .agg #[.int .i64 0, .int .i64 0, .int .i64 0, .int .i64 0, .int .i64 0]) (by simp [results, Try.results26, go_sem]) rfl ⟨rfl, (Below.refl _ _).alloc (Nat.le_refl _) _⟩
theorem phAt_any (g : Nat) (x : PhS) (w : World) (hx : TrB w g x) : Calls Try.prog 21 #[.pointer (some ⟨g, 0, none⟩)] w fun r w' => r = .returned (.int .i64 x.s) ∧ w = w' := by
  have c0 : w.cell? ⟨g, 0, none⟩ = some (.int .i64 x.s) := hx.cell 0
  clear hx
  go_enter Try.func21, Try.ntmps21
  go_wp2
  go_ret
  exact ⟨rfl, rfl⟩
theorem phPass_any (g : Nat) (x : PhS) (n : Int) (w : World) (hx : TrB w g x) : Calls Try.prog 24 #[.pointer (some ⟨g, 0, none⟩), .int .i64 n] w fun r w' => r = .returned (.bool (passB x.s n)) ∧ w = w' := by
  have HX := Lib.hid hx
  clear hx
  go_enter Try.func24, Try.ntmps24
  go_wp2_with (first | (go_at_call 21; refine (phAt_any g x _ HX.out).mono ?_; rintro e w' ⟨rfl, rfl⟩) | (go_at_call 15; refine (passes_any _ n _).mono ?_; rintro e w' ⟨rfl, rfl⟩))
  go_ret
  exact ⟨rfl, rfl⟩
theorem phProved_any (g : Nat) (x : PhS) (w : World) (hx : TrB w g x) : Calls Try.prog 25 #[.pointer (some ⟨g, 0, none⟩)] w fun r w' => r = .returned (.tuple #[.bool x.pt, .bool x.pm]) ∧ ∃ n, w' = w.drewN n := by
  have c3 : w.cell? ⟨g, 3, none⟩ = some (.bool x.pt) := hx.cell 3
  have c4 : w.cell? ⟨g, 4, none⟩ = some (.bool x.pm) := hx.cell 4
  clear hx
  go_enter Try.func25, Try.ntmps25
  go_wp2
  go_region
  go_wp2
  go_ret2
  exact ⟨rfl, 1, rfl⟩
theorem phTimes_any (g : Nat) (x : PhS) (w : World) (hx : TrB w g x) : Calls Try.prog 26 #[.pointer (some ⟨g, 0, none⟩)] w fun r w' => r = .returned (.agg #[.int .i64 x.t0, .int .i64 x.t1, .int .i64 x.t2, .int .i64 x.t3, .int .i64 x.t4]) ∧ Below w.heap.size w w' := by
  have c5 : w.cell? ⟨g, 5, none⟩ = some (.int .i64 x.t0) := hx.cell 5
  have c6 : w.cell? ⟨g, 6, none⟩ = some (.int .i64 x.t1) := hx.cell 6
  have c7 : w.cell? ⟨g, 7, none⟩ = some (.int .i64 x.t2) := hx.cell 7
  have c8 : w.cell? ⟨g, 8, none⟩ = some (.int .i64 x.t3) := hx.cell 8
  have c9 : w.cell? ⟨g, 9, none⟩ = some (.int .i64 x.t4) := hx.cell 9
  have lg : g < w.heap.size := hx.lt
  clear hx
  go_enter Try.func26, Try.ntmps26
  go_wp2
  exact bodyPost_ret (v := .agg #[.int .i64 x.t0, .int .i64 x.t1, .int .i64 x.t2, .int .i64 x.t3, .int .i64 x.t4]) (by simp [results, Try.results26, go_sem]) rfl ⟨rfl, (Below.refl _ _).alloc (Nat.le_refl _) _⟩
/-- four stores of false: all is forgotten -/
theorem forget_row {w : World} {g : Nat} {x : PhS} (hx : TrB w g x) : TrB ((((w.setCell ⟨g, 1, none⟩ (.bool false)).setCell ⟨g, 2, none⟩ (.bool false)).setCell ⟨g, 3, none⟩ (.bool false)).setCell ⟨g, 4, none⟩ (.bool false)) g (phForget x) :=
  (((hx.set_ 1 (.bool false)).set_ 2 (.bool false)).set_ 3 (.bool false)).set_ 4 (.bool false)
theorem must_row {w : World} {g : Nat} {x : PhS} (a b : Bool) (hx : TrB w g x) : TrB ((((w.setCell ⟨g, 1, none⟩ (.bool a)).setCell ⟨g, 2, none⟩ (.bool b)).setCell ⟨g, 3, none⟩ (.bool false)).setCell ⟨g, 4, none⟩ (.bool false)) g (phMust x a b) :=
  (((hx.set_ 1 (.bool a)).set_ 2 (.bool b)).set_ 3 (.bool false)).set_ 4 (.bool false)
theorem g4 (w : World) (g : Nat) (a b c d : Value) : w.grownBy ((((w.setCell ⟨g, 1, none⟩ a).setCell ⟨g, 2, none⟩ b).setCell ⟨g, 3, none⟩ c).setCell ⟨g, 4, none⟩ d) (some g) := gtrans' (gtrans' (gtrans' (gset' _ _ _ _) (gset' _ _ _ _)) (gset' _ _ _ _)) (gset' _ _ _ _)
theorem phDo_any (g : Nat) (x : PhS) (e k : Int) (w : World) (hx : TrB w g x) (ho : PhOk x k) (hk : k < 1000000000) :
    Calls Try.prog 22 #[.pointer (some ⟨g, 0, none⟩), .int .i64 e] w (PhR w g (phDE x e) (phDX x e)) := by
  by_cases h56 : e = 5 ∨ e = 6
  · have e1 : phDE x e = phPE x := if_pos h56
    have e2 : phDX x e = phPX x e := if_pos h56
    rw [e1, e2]
    clear e1 e2
    rcases h56 with rfl | rfl
    · have HP := Lib.hid (phProve_any g x 0 k w hx ho hk (.inl rfl))
      clear hx ho
      go_enter Try.func22, Try.ntmps22
      go_wp2_with (go_at_call 36; refine HP.out.mono ?_; rintro r w' ⟨rfl, hx, hg⟩; have HX := Lib.hid hx; have HG := Lib.hid hg; clear hx hg)
      go_ret
      exact ⟨rfl, HX.out, HG.out⟩
    · have HP := Lib.hid (phProve_any g x 1 k w hx ho hk (.inr rfl))
      clear hx ho
      go_enter Try.func22, Try.ntmps22
      go_wp2_with (go_at_call 36; refine HP.out.mono ?_; rintro r w' ⟨rfl, hx, hg⟩; have HX := Lib.hid hx; have HG := Lib.hid hg; clear hx hg)
      go_ret
      exact ⟨rfl, HX.out, HG.out⟩
  · have e1 : phDE x e = nxPE x.s e := if_neg h56
    have e2 : phDX x e = if nxPE x.s e = 0 then phIn (if e = 0 ∨ e = 1 ∨ e = 3 ∨ e = 4 then phForget x else x) (nxPS x.s e) else x := if_neg h56
    have c0 : w.cell? ⟨g, 0, none⟩ = some (.int .i64 x.s) := hx.cell 0
    have t5 : (e == 5) = false := by simp; omega
    have t6 : (e == 6) = false := by simp; omega
    have HN := Lib.hid (phNext_any x.s e w)
    have hb := nxPS_bounds x.s e
    rw [e1, e2]
    obtain ⟨s, hs⟩ : ∃ s, x.s = s := ⟨_, rfl⟩
    rw [hs] at c0 HN hb ⊢
    obtain ⟨q, hq⟩ : ∃ q, nxPS s e = q := ⟨_, rfl⟩
    obtain ⟨z, hz⟩ : ∃ z, nxPE s e = z := ⟨_, rfl⟩
    rw [hq, hz] at HN ⊢
    rw [hq] at hb
    have HX := Lib.hid hx
    have HO := Lib.hid ho
    clear hx ho e1 e2 hs hq hz h56
    by_cases hz0 : z = 0
    · subst hz0
      rw [if_pos rfl]
      by_cases hf : e = 0 ∨ e = 1 ∨ e = 3 ∨ e = 4
      · rw [if_pos hf]
        have HC : Hid (∀ w2, TrB w2 g x → Calls Try.prog 37 #[.pointer (some ⟨g, 0, none⟩), .int .i64 q] ((((w2.setCell ⟨g, 1, none⟩ (.bool false)).setCell ⟨g, 2, none⟩ (.bool false)).setCell ⟨g, 3, none⟩ (.bool false)).setCell ⟨g, 4, none⟩ (.bool false)) fun e w' => e = .returned (.tuple #[]) ∧ TrB w' g (phIn (phForget x) q) ∧ w2.grownBy w' (some g)) := by
          show ∀ w2, _ → _
          intro w2 h2
          refine (phEnter_any g (phForget x) q k _ (forget_row h2) (phForget_ok HO.out) hk hb).mono ?_
          rintro r w' ⟨rfl, h3, h4⟩
          exact ⟨rfl, h3, gtrans' (g4 _ _ _ _ _ _) h4⟩
        rcases hf with rfl | rfl | rfl | rfl
        all_goals
          clear t5 t6
          go_enter Try.func22, Try.ntmps22
          go_wp2_with (first | (go_at_call 9; refine HN.out.mono ?_; rintro r w2 ⟨rfl, hb2⟩; have x2 := HX.out.below hb2; have c1 : w2.cell? ⟨g, 1, none⟩ = some (.bool x.mt) := x2.cell 1; have c2 : w2.cell? ⟨g, 2, none⟩ = some (.bool x.mm) := x2.cell 2; have c3 : w2.cell? ⟨g, 3, none⟩ = some (.bool x.pt) := x2.cell 3; have c4 : w2.cell? ⟨g, 4, none⟩ = some (.bool x.pm) := x2.cell 4; have f1 : w2.frozen? ⟨g, 1, none⟩ = false := x2.frozen 1; have f2 : w2.frozen? ⟨g, 2, none⟩ = false := x2.frozen 2; have f3 : w2.frozen? ⟨g, 3, none⟩ = false := x2.frozen 3; have f4 : w2.frozen? ⟨g, 4, none⟩ = false := x2.frozen 4; have X2 := Lib.hid x2; have HB2 := Lib.hid hb2; clear x2 hb2) | (go_at_call 37; refine (HC.out _ X2.out).mono ?_; rintro r w3 ⟨rfl, hx3, hg3⟩; have HX3 := Lib.hid hx3; have HG3 := Lib.hid hg3; clear hx3 hg3))
          go_ret
          exact ⟨rfl, HX3.out, gtrans' (gsome' HB2.out) HG3.out⟩
      · rw [if_neg hf]
        have u0 : (e == 0) = false := by simp; omega
        have u1 : (e == 1) = false := by simp; omega
        have u3 : (e == 3) = false := by simp; omega
        have u4 : (e == 4) = false := by simp; omega
        have HC : Hid (∀ w2, TrB w2 g x → Calls Try.prog 37 #[.pointer (some ⟨g, 0, none⟩), .int .i64 q] w2 fun e w' => e = .returned (.tuple #[]) ∧ TrB w' g (phIn x q) ∧ w2.grownBy w' (some g)) := fun w2 h2 => phEnter_any g x q k w2 h2 HO.out hk hb
        clear hf
        go_enter Try.func22, Try.ntmps22
        go_wp2_with (first | (go_at_call 9; refine HN.out.mono ?_; rintro r w2 ⟨rfl, hb2⟩; have X2 := Lib.hid (HX.out.below hb2); have HB2 := Lib.hid hb2; clear hb2) | (go_at_call 37; refine (HC.out _ X2.out).mono ?_; rintro r w3 ⟨rfl, hx3, hg3⟩; have HX3 := Lib.hid hx3; have HG3 := Lib.hid hg3; clear hx3 hg3))
        go_ret
        exact ⟨rfl, HX3.out, gtrans' (gsome' HB2.out) HG3.out⟩
    · rw [if_neg hz0]
      have ht : (z != 0) = true := by simpa using hz0
      clear hz0
      go_enter Try.func22, Try.ntmps22
      go_wp2_with (go_at_call 9; refine HN.out.mono ?_; rintro r w2 ⟨rfl, hb2⟩; have X2 := Lib.hid (HX.out.below hb2); have HB2 := Lib.hid hb2; clear hb2)
      go_ret
      exact ⟨rfl, X2.out, gsome' HB2.out⟩
theorem phOpen_any (g : Nat) (x : PhS) (a b : Bool) (k : Int) (w : World) (hx : TrB w g x) (ho : PhOk x k) (hk : k < 1000000000) :
    Calls Try.prog 23 #[.pointer (some ⟨g, 0, none⟩), .bool a, .bool b] w (PhR w g (phOE x) (phOX x a b)) := by
  have c0 : w.cell? ⟨g, 0, none⟩ = some (.int .i64 x.s) := hx.cell 0
  by_cases h1 : x.s = 1
  · have e1 : phOE x = 0 := if_pos (.inl h1)
    have e2 : phOX x a b = phIn (phMust x a b) (phAt (phMust x a b)) := if_pos h1
    rw [e1, e2]
    rw [h1] at c0
    have c1 : w.cell? ⟨g, 1, none⟩ = some (.bool x.mt) := hx.cell 1
    have c2 : w.cell? ⟨g, 2, none⟩ = some (.bool x.mm) := hx.cell 2
    have c3 : w.cell? ⟨g, 3, none⟩ = some (.bool x.pt) := hx.cell 3
    have c4 : w.cell? ⟨g, 4, none⟩ = some (.bool x.pm) := hx.cell 4
    have f1 : w.frozen? ⟨g, 1, none⟩ = false := hx.frozen 1
    have f2 : w.frozen? ⟨g, 2, none⟩ = false := hx.frozen 2
    have f3 : w.frozen? ⟨g, 3, none⟩ = false := hx.frozen 3
    have f4 : w.frozen? ⟨g, 4, none⟩ = false := hx.frozen 4
    have A0 := phAt_bounds (phMust x a b)
    have HM := Lib.hid (must_row a b hx)
    have HO := Lib.hid (phMust_ok a b ho)
    obtain ⟨y, hy⟩ : ∃ y, phMust x a b = y := ⟨_, rfl⟩
    rw [hy] at A0 HM HO ⊢
    have HC : Hid (∀ w2, TrB w2 g y → Calls Try.prog 37 #[.pointer (some ⟨g, 0, none⟩), .int .i64 (phAt y)] w2 fun e w' => e = .returned (.tuple #[]) ∧ TrB w' g (phIn y (phAt y)) ∧ w2.grownBy w' (some g)) := fun w2 h2 => phEnter_any g y (phAt y) k w2 h2 HO.out hk A0
    clear hx ho h1 e1 e2 hy
    go_enter Try.func23, Try.ntmps23
    go_wp2_with (first | (go_at_call 38; refine (phOpened_any g y _ HM.out).mono ?_; rintro e w2 ⟨rfl, hb2⟩; have X2 := Lib.hid (HM.out.below hb2); have HB2 := Lib.hid hb2; clear hb2) | (go_at_call 37; refine (HC.out _ X2.out).mono ?_; rintro e w3 ⟨rfl, hx3, hg3⟩; have HX3 := Lib.hid hx3; have HG3 := Lib.hid hg3; clear hx3 hg3))
    go_ret
    exact ⟨rfl, HX3.out, gtrans' (gtrans' (g4 _ _ _ _ _ _) (gsome' HB2.out)) HG3.out⟩
  · have e2 : phOX x a b = x := if_neg h1
    rw [e2]
    have HX := Lib.hid hx
    by_cases h4 : x.s = 4
    · have e1 : phOE x = 0 := if_pos (.inr h4)
      rw [e1]
      rw [h4] at c0
      clear hx ho h1 h4 e1 e2
      go_enter Try.func23, Try.ntmps23
      go_wp2
      go_ret
      exact ⟨rfl, HX.out, World.grownBy.refl _ _⟩
    · have e1 : phOE x = 290 := if_neg (fun h => h.elim h1 h4)
      rw [e1]
      have t1 : (x.s == 1) = false := by simpa using h1
      have t4 : (x.s == 4) = false := by simpa using h4
      clear hx ho h1 h4 e1 e2
      go_enter Try.func23, Try.ntmps23
      go_wp2
      go_ret
      exact ⟨rfl, HX.out, World.grownBy.refl _ _⟩
end Go.Proofs.Ytandakinbcfleaa
