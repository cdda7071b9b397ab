/-
  tetherref26's track: to, forget, whole, Do, Open.
-/
import Derived.Test.YtandakinbcfleaaPhRef
import Derived.Test.YtandakinbcfleaaPhSame
namespace Go.Proofs.Ytandakinbcfleaa
open Go.RowKit
set_option maxRecDepth 100000
set_option maxHeartbeats 4000000
set_option linter.unusedSimpArgs false
set_option linter.unusedVariables false

def PhRR (w : World) (g : Nat) (z : Int) (y : PhS) (e : Ending) (w' : World) : Prop := e = .returned (.int .i64 z) ∧ RrB w' g y ∧ w.grownBy w' (some g)
theorem rto_any (g : Nat) (x : PhS) (p k : Int) (w : World) (hx : RrB w g x) (ho : PhOk x k) (hk : k < 1000000000) (hp : 0 ≤ p ∧ p ≤ 4) :
    Calls Try.prog 41 #[.pointer (some ⟨g, 0, none⟩), .int .i64 p] w fun e w' => e = .returned (.tuple #[]) ∧ RrB w' g (phIn x p) ∧ w.grownBy w' (some g) := by
  obtain ⟨s, mt, mm, pt, pm, t0, t1, t2, t3, t4⟩ := x
  have c0 : w.cell? ⟨g, 0, none⟩ = some (.int .i64 s) := hx.cell 0
  have f0 : w.frozen? ⟨g, 0, none⟩ = false := hx.frozen 0
  by_cases hs : s = p
  · subst hs
    have HX := Lib.hid hx
    clear hx ho
    go_enter Try.func41, Try.ntmps41
    go_wp2
    go_end0
    refine ⟨rfl, ?_, gset' _ _ _ _⟩
    unfold phIn
    rw [if_pos rfl]
    have h2 := HX.out.set_ 0 (.int .i64 s)
    simp [phC] at h2
    simp [RrB, phC]
    exact h2
  · have hps : (s != p) = true := by simp; omega
    have e : phIn ⟨s, mt, mm, pt, pm, t0, t1, t2, t3, t4⟩ p = ⟨p, mt, mm, pt, pm, t0 + (if p = 0 then 1 else 0), t1 + (if p = 1 then 1 else 0), t2 + (if p = 2 then 1 else 0), t3 + (if p = 3 then 1 else 0), t4 + (if p = 4 then 1 else 0)⟩ := if_neg hs
    rw [e]
    have c5 : w.cell? ⟨g, 5, none⟩ = some (.int .i64 t0) := hx.cell 5
    have f5 : w.frozen? ⟨g, 5, none⟩ = false := hx.frozen 5
    have c6 : w.cell? ⟨g, 6, none⟩ = some (.int .i64 t1) := hx.cell 6
    have f6 : w.frozen? ⟨g, 6, none⟩ = false := hx.frozen 6
    have c7 : w.cell? ⟨g, 7, none⟩ = some (.int .i64 t2) := hx.cell 7
    have f7 : w.frozen? ⟨g, 7, none⟩ = false := hx.frozen 7
    have c8 : w.cell? ⟨g, 8, none⟩ = some (.int .i64 t3) := hx.cell 8
    have f8 : w.frozen? ⟨g, 8, none⟩ = false := hx.frozen 8
    have c9 : w.cell? ⟨g, 9, none⟩ = some (.int .i64 t4) := hx.cell 9
    have f9 : w.frozen? ⟨g, 9, none⟩ = false := hx.frozen 9
    unfold PhOk at ho
    simp only at ho
    obtain ⟨q0, ⟨q1, q2⟩, ⟨q3, q4⟩, ⟨q5, q6⟩, ⟨q7, q8⟩, q9, q10⟩ := ho
    have HX := Lib.hid hx
    clear hx e hs
    have hcs : p = 0 ∨ p = 1 ∨ p = 2 ∨ p = 3 ∨ p = 4 := by omega
    rcases hcs with rfl | rfl | rfl | rfl | rfl
    all_goals
      go_enter Try.func41, Try.ntmps41
      go_wp2
      go_region
      go_wp2
      go_end0
    · refine ⟨rfl, ?_, gdrew' (gtrans' (gset' _ _ _ _) (gset' _ _ _ _))⟩
      have h2 := (HX.out.set_ 5 (.int .i64 (t0 + 1))).set_ 0 (.int .i64 0)
      simp [phC] at h2
      simp [RrB, phC]
      exact h2
    · refine ⟨rfl, ?_, gdrew' (gtrans' (gset' _ _ _ _) (gset' _ _ _ _))⟩
      have h2 := (HX.out.set_ 6 (.int .i64 (t1 + 1))).set_ 0 (.int .i64 1)
      simp [phC] at h2
      simp [RrB, phC]
      exact h2
    · refine ⟨rfl, ?_, gdrew' (gtrans' (gset' _ _ _ _) (gset' _ _ _ _))⟩
      have h2 := (HX.out.set_ 7 (.int .i64 (t2 + 1))).set_ 0 (.int .i64 2)
      simp [phC] at h2
      simp [RrB, phC]
      exact h2
    · refine ⟨rfl, ?_, gdrew' (gtrans' (gset' _ _ _ _) (gset' _ _ _ _))⟩
      have h2 := (HX.out.set_ 8 (.int .i64 (t3 + 1))).set_ 0 (.int .i64 3)
      simp [phC] at h2
      simp [RrB, phC]
      exact h2
    · refine ⟨rfl, ?_, gdrew' (gtrans' (gset' _ _ _ _) (gset' _ _ _ _))⟩
      have h2 := (HX.out.set_ 9 (.int .i64 (t4 + 1))).set_ 0 (.int .i64 4)
      simp [phC] at h2
      simp [RrB, phC]
      exact h2
theorem rforget_any (g : Nat) (x : PhS) (w : World) (hx : RrB w g x) :
    Calls Try.prog 42 #[.pointer (some ⟨g, 0, none⟩)] w fun e w' => e = .returned (.tuple #[]) ∧ RrB w' g (phForget x) ∧ w.grownBy w' (some g) := by
  have c1 : w.cell? ⟨g, 1, none⟩ = some (.bool x.mt) := hx.cell 1
  have c2 : w.cell? ⟨g, 2, none⟩ = some (.bool x.mm) := hx.cell 2
  have c3 : w.cell? ⟨g, 3, none⟩ = some (.bool x.pt) := hx.cell 3
  have c4 : w.cell? ⟨g, 4, none⟩ = some (.bool x.pm) := hx.cell 4
  have f1 : w.frozen? ⟨g, 1, none⟩ = false := hx.frozen 1
  have f2 : w.frozen? ⟨g, 2, none⟩ = false := hx.frozen 2
  have f3 : w.frozen? ⟨g, 3, none⟩ = false := hx.frozen 3
  have f4 : w.frozen? ⟨g, 4, none⟩ = false := hx.frozen 4
  have HX := Lib.hid hx
  clear hx
  go_enter Try.func42, Try.ntmps42
  go_wp2
  go_end0
  exact ⟨rfl, (((HX.out.set_ 1 (.bool false)).set_ 2 (.bool false)).set_ 3 (.bool false)).set_ 4 (.bool false), g4 _ _ _ _ _ _⟩
theorem rwhole_any (g : Nat) (x : PhS) (w : World) (hx : RrB w g x) :
    Calls Try.prog 40 #[.pointer (some ⟨g, 0, none⟩)] w fun e w' => e = .returned (.bool (phOk x)) ∧ w = w' := by
  obtain ⟨s, mt, mm, pt, pm, t0, t1, t2, t3, t4⟩ := x
  have c1 : w.cell? ⟨g, 1, none⟩ = some (.bool mt) := hx.cell 1
  have c2 : w.cell? ⟨g, 2, none⟩ = some (.bool mm) := hx.cell 2
  have c3 : w.cell? ⟨g, 3, none⟩ = some (.bool pt) := hx.cell 3
  have c4 : w.cell? ⟨g, 4, none⟩ = some (.bool pm) := hx.cell 4
  clear hx
  cases mt <;> cases mm <;> cases pt <;> cases pm
  all_goals
    unfold phOk
    simp only [Bool.not_false, Bool.not_true, Bool.true_or, Bool.false_or, Bool.or_true, Bool.or_false, Bool.and_true, Bool.and_false, Bool.and_self]
    go_enter Try.func40, Try.ntmps40
    go_wp2
    go_ret
    exact ⟨rfl, rfl⟩
theorem told_row {w : World} {g : Nat} {x : PhS} (a b : Bool) (hx : RrB w g x) : Blk ((w.setCell ⟨g, 3, none⟩ (.bool a)).setCell ⟨g, 4, none⟩ (.bool b)) g 36 (phC ⟨x.s, x.mt, x.mm, a, b, x.t0, x.t1, x.t2, x.t3, x.t4⟩) :=
  (hx.set_ 3 (.bool a)).set_ 4 (.bool b)
theorem phTold_form (x : PhS) (e : Int) : phTold x e = ⟨x.s, x.mt, x.mm, if e = 5 then true else x.pt, if e = 6 then true else x.pm, x.t0, x.t1, x.t2, x.t3, x.t4⟩ := rfl
theorem rdo_told (g : Nat) (x : PhS) (e k : Int) (w : World) (hx : RrB w g x) (ho : PhOk x k) (hk : k < 1000000000) (h56 : e = 5 ∨ e = 6) (h2 : x.s = 2) :
    Calls Try.prog 34 #[.pointer (some ⟨g, 0, none⟩), .int .i64 e] w (PhRR w g 0 (phIn (phTold x e) (phAt (phTold x e)))) := by
  have c0 : w.cell? ⟨g, 0, none⟩ = some (.int .i64 2) := by rw [← h2]; exact hx.cell 0
  have c3 : w.cell? ⟨g, 3, none⟩ = some (.bool x.pt) := hx.cell 3
  have f3 : w.frozen? ⟨g, 3, none⟩ = false := hx.frozen 3
  have c4 : w.cell? ⟨g, 4, none⟩ = some (.bool x.pm) := hx.cell 4
  have f4 : w.frozen? ⟨g, 4, none⟩ = false := hx.frozen 4
  have HT : RrB ((w.setCell ⟨g, 3, none⟩ (.bool (if e = 5 then true else x.pt))).setCell ⟨g, 4, none⟩ (.bool (if e = 6 then true else x.pm))) g (phTold x e) := told_row _ _ hx
  have hs : (phTold x e).s = 2 := h2
  have HO := phTold_ok e ho
  obtain ⟨y, hy⟩ : ∃ y, phTold x e = y := ⟨_, rfl⟩
  rw [hy] at HT hs HO ⊢
  obtain ⟨a, ha⟩ : ∃ a, x.pt = a := ⟨_, rfl⟩
  obtain ⟨b, hb⟩ : ∃ b, x.pm = b := ⟨_, rfl⟩
  rw [ha] at c3 HT
  rw [hb] at c4 HT
  have HW : ∀ W, RrB W g y → Hid (Calls Try.prog 40 #[.pointer (some ⟨g, 0, none⟩)] W fun e w' => e = .returned (.bool (phOk y)) ∧ W = w') := fun W h => rwhole_any g y W h
  have HC : ∀ W, RrB W g y → Hid (Calls Try.prog 41 #[.pointer (some ⟨g, 0, none⟩), .int .i64 3] W fun e w' => e = .returned (.tuple #[]) ∧ RrB w' g (phIn y 3) ∧ W.grownBy w' (some g)) := fun W h => rto_any g y 3 k W h HO hk (by omega)
  have e2 : phIn y 2 = y := if_pos hs
  clear hx ho HO ha hb hy h2 hs
  unfold phAt
  rcases h56 with rfl | rfl
  all_goals
    cases a <;> cases b
    all_goals
      simp only [if_true, show ((5 : Int) = 6) = False by simp, show ((6 : Int) = 5) = False by simp, if_false] at HT
      have H1 := HW _ HT
      have H2 := HC _ HT
      have H3 := Lib.hid HT
      clear HW HC HT
      cases hw : phOk y
      · rw [hw] at H1
        simp only [Bool.false_eq_true, if_false]
        have HE := Lib.hid e2
        clear e2 hw H2
        go_enter Try.func34, Try.ntmps34
        go_wp2_with (go_at_call 40; refine H1.out.mono ?_; rintro r w' ⟨rfl, rfl⟩)
        go_ret
        exact ⟨rfl, by rw [HE.out]; exact H3.out, gtrans' (gset' _ _ _ _) (gset' _ _ _ _)⟩
      · rw [hw] at H1
        simp only [if_true]
        clear e2 hw
        go_enter Try.func34, Try.ntmps34
        go_wp2_with (first | (go_at_call 40; refine H1.out.mono ?_; rintro r w' ⟨rfl, rfl⟩) | (go_at_call 41; refine H2.out.mono ?_; rintro r w3 ⟨rfl, hx3, hg3⟩; have HX3 := Lib.hid hx3; have HG3 := Lib.hid hg3; clear hx3 hg3))
        go_ret
        exact ⟨rfl, HX3.out, gtrans' (gtrans' (gset' _ _ _ _) (gset' _ _ _ _)) HG3.out⟩
theorem nxPE_out {s e : Int} (h : ¬ (0 ≤ e ∧ e ≤ 8)) : nxPE s e = 1 := by
  unfold nxPE
  rw [show okPE s e = false from decide_eq_false fun h2 => h ⟨h2.2.2.1, h2.2.2.2⟩]
  rfl
theorem rdo_any (g : Nat) (x : PhS) (e k : Int) (w : World) (hx : RrB w g x) (ho : PhOk x k) (hk : k < 1000000000) :
    Calls Try.prog 34 #[.pointer (some ⟨g, 0, none⟩), .int .i64 e] w (PhRR w g (phDE x e) (phDX x e)) := by
  have hs : x.s = 0 ∨ x.s = 1 ∨ x.s = 2 ∨ x.s = 3 ∨ x.s = 4 := by have := ho.1; omega
  have c0 : w.cell? ⟨g, 0, none⟩ = some (.int .i64 x.s) := hx.cell 0
  by_cases h56 : e = 5 ∨ e = 6
  · have e1 : phDE x e = phPE x := if_pos h56
    have e2 : phDX x e = phPX x e := if_pos h56
    by_cases h2 : x.s = 2
    · have e3 : phPE x = 0 := by unfold phPE; rw [h2]; rfl
      have e4 : phPX x e = phIn (phTold x e) (phAt (phTold x e)) := if_pos h2
      rw [e1, e2, e3, e4]
      exact rdo_told g x e k w hx ho hk h56 h2
    · have e4 : phPX x e = x := if_neg h2
      rw [e1, e2, e4]
      have HX := Lib.hid hx
      have e3 : phPE x = if x.s = 0 ∨ x.s = 1 then 290 else 0 := rfl
      obtain ⟨s, hss⟩ : ∃ s, x.s = s := ⟨_, rfl⟩
      rw [hss] at c0 e3 hs h2
      obtain ⟨z, hz⟩ : ∃ z, phPE x = z := ⟨_, rfl⟩
      rw [hz] at e3 ⊢
      clear hx e1 e2 e4 hss hz ho
      rcases hs with rfl | rfl | rfl | rfl | rfl
      case inr.inr.inl => exact absurd rfl h2
      all_goals
        subst e3
        rcases h56 with rfl | rfl
        all_goals
          go_enter Try.func34, Try.ntmps34
          go_wp2
          go_ret
          exact ⟨rfl, HX.out, World.grownBy.refl _ _⟩
  · have e1 : phDE x e = nxPE x.s e := if_neg h56
    have e2 : phDX x e = if nxPE x.s e = 0 then phIn (if e = 0 ∨ e = 1 ∨ e = 3 ∨ e = 4 then phForget x else x) (nxPS x.s e) else x := if_neg h56
    rw [e1, e2]
    by_cases hin : 0 ≤ e ∧ e ≤ 8
    · obtain ⟨h0, h8⟩ := hin
      have t5 : (e == 5) = false := by simp; omega
      have t6 : (e == 6) = false := by simp; omega
      have HN := Lib.hid (rphNext_any x.s e w)
      have hb := nxPS_bounds x.s e
      obtain ⟨s, hs2⟩ : ∃ s, x.s = s := ⟨_, rfl⟩
      rw [hs2] at c0 HN hb ⊢
      obtain ⟨q, hq⟩ : ∃ q, nxPS s e = q := ⟨_, rfl⟩
      obtain ⟨z, hz⟩ : ∃ z, nxPE s e = z := ⟨_, rfl⟩
      rw [hq, hz] at HN ⊢
      rw [hq] at hb
      have HX := Lib.hid hx
      have HO := Lib.hid ho
      clear hx ho e1 e2 hs2 hq hz h56 hs
      by_cases hz0 : z = 0
      · subst hz0
        rw [if_pos rfl]
        by_cases hf : e = 0 ∨ e = 1 ∨ e = 3 ∨ e = 4
        · rw [if_pos hf]
          have HF := Lib.hid (rforget_any g x w HX.out)
          have HC : Hid (∀ w2, RrB w2 g (phForget x) → Calls Try.prog 41 #[.pointer (some ⟨g, 0, none⟩), .int .i64 q] w2 fun e w' => e = .returned (.tuple #[]) ∧ RrB w' g (phIn (phForget x) q) ∧ w2.grownBy w' (some g)) := fun w2 h2 => rto_any g (phForget x) q k w2 h2 (phForget_ok HO.out) hk hb
          rcases hf with rfl | rfl | rfl | rfl
          all_goals
            clear t5 t6
            go_enter Try.func34, Try.ntmps34
            go_wp2_with (first | (go_at_call 10; refine HN.out.mono ?_; rintro r w2 ⟨rfl, rfl⟩) | (go_at_call 42; refine HF.out.mono ?_; rintro r w2 ⟨rfl, hx2, hg2⟩; have HX2 := Lib.hid hx2; have HG2 := Lib.hid hg2; clear hx2 hg2) | (go_at_call 41; refine (HC.out _ HX2.out).mono ?_; rintro r w3 ⟨rfl, hx3, hg3⟩; have HX3 := Lib.hid hx3; have HG3 := Lib.hid hg3; clear hx3 hg3))
            go_ret
            exact ⟨rfl, HX3.out, gtrans' HG2.out HG3.out⟩
        · rw [if_neg hf]
          have u0 : (e == 0) = false := by simp; omega
          have u1 : (e == 1) = false := by simp; omega
          have u3 : (e == 3) = false := by simp; omega
          have u4 : (e == 4) = false := by simp; omega
          have HC := Lib.hid (rto_any g x q k w HX.out HO.out hk hb)
          clear hf
          go_enter Try.func34, Try.ntmps34
          go_wp2_with (first | (go_at_call 10; refine HN.out.mono ?_; rintro r w2 ⟨rfl, rfl⟩) | (go_at_call 41; refine HC.out.mono ?_; rintro r w3 ⟨rfl, hx3, hg3⟩; have HX3 := Lib.hid hx3; have HG3 := Lib.hid hg3; clear hx3 hg3))
          go_ret
          exact ⟨rfl, HX3.out, HG3.out⟩
      · rw [if_neg hz0]
        have ht : (z != 0) = true := by simpa using hz0
        clear hz0
        go_enter Try.func34, Try.ntmps34
        go_wp2_with (go_at_call 10; refine HN.out.mono ?_; rintro r w2 ⟨rfl, rfl⟩)
        go_ret
        exact ⟨rfl, HX.out, World.grownBy.refl _ _⟩
    · rw [nxPE_out hin, if_neg (by omega)]
      have HX := Lib.hid hx
      have hc : e < 0 ∨ (0 ≤ e ∧ 8 < e) := by omega
      clear hx ho e1 e2 h56 hs hin
      rcases hc with h | ⟨h, h2⟩
      all_goals
        go_enter Try.func34, Try.ntmps34
        go_wp2
        go_ret
        exact ⟨rfl, HX.out, World.grownBy.refl _ _⟩
theorem ropen_any (g : Nat) (x : PhS) (a b : Bool) (k : Int) (w : World) (hx : RrB w g x) (ho : PhOk x k) (hk : k < 1000000000) :
    Calls Try.prog 35 #[.pointer (some ⟨g, 0, none⟩), .bool a, .bool b] w (PhRR w g (phOE x) (phOX x a b)) := by
  have c0 : w.cell? ⟨g, 0, none⟩ = some (.int .i64 x.s) := hx.cell 0
  by_cases h1 : x.s = 1
  · have e1 : phOE x = 0 := if_pos (.inl h1)
    have e2 : phOX x a b = phIn (phMust x a b) (phAt (phMust x a b)) := if_pos h1
    rw [e1, e2]
    rw [h1] at c0
    have HF := Lib.hid (rforget_any g x w hx)
    have HM : Hid (∀ W, RrB W g (phForget x) → RrB ((W.setCell ⟨g, 1, none⟩ (.bool a)).setCell ⟨g, 2, none⟩ (.bool b)) g (phMust x a b)) := fun W h => (h.set_ 1 (.bool a)).set_ 2 (.bool b)
    have HO := phMust_ok a b ho
    have hs : (phMust x a b).s = 1 := h1
    have hw : phOk (phIn (phMust x a b) 2) = phOk (phMust x a b) := by unfold phIn; rw [if_neg (by omega)]; rfl
    have e5 : (phIn (phMust x a b) 2) = ⟨2, a, b, false, false, x.t0, x.t1, x.t2 + 1, x.t3, x.t4⟩ := by
      unfold phIn
      rw [if_neg (by omega)]
      simp [phMust]
    have e6 : phIn (phMust x a b) 3 = ⟨3, a, b, false, false, x.t0, x.t1, x.t2, x.t3 + 1, x.t4⟩ := by
      unfold phIn
      rw [if_neg (by omega)]
      simp [phMust]
    have e7 : phIn (phMust x a b) 3 = phIn ⟨1, a, b, false, false, x.t0, x.t1, x.t2, x.t3, x.t4⟩ 3 := by
      rw [e6]
      simp [phIn]
    have HO7 : PhOk ⟨1, a, b, false, false, x.t0, x.t1, x.t2, x.t3, x.t4⟩ k := by
      have h2 := HO
      unfold PhOk at h2 ⊢
      simp only [phMust] at h2 ⊢
      omega
    have H2 : Hid (∀ W, RrB W g (phMust x a b) → Calls Try.prog 41 #[.pointer (some ⟨g, 0, none⟩), .int .i64 2] W fun e w' => e = .returned (.tuple #[]) ∧ RrB w' g (phIn (phMust x a b) 2) ∧ W.grownBy w' (some g)) := fun W h => rto_any g _ 2 k W h HO hk (by omega)
    have HW : Hid (∀ W, RrB W g (phIn (phMust x a b) 2) → Calls Try.prog 40 #[.pointer (some ⟨g, 0, none⟩)] W fun e w' => e = .returned (.bool (phOk (phMust x a b))) ∧ W = w') := fun W h => by
      have := rwhole_any g _ W h
      rw [hw] at this
      exact this
    have H3 : Hid (∀ W, RrB W g (phIn (phMust x a b) 2) → Calls Try.prog 41 #[.pointer (some ⟨g, 0, none⟩), .int .i64 3] ((W.setCell ⟨g, 7, none⟩ (.int .i64 x.t2)).drew.setCell ⟨g, 0, none⟩ (.int .i64 1)) fun e w' => e = .returned (.tuple #[]) ∧ RrB w' g (phIn (phMust x a b) 3) ∧ W.grownBy w' (some g)) := by
      show ∀ W, _ → _
      intro W h
      rw [e5] at h
      have h2 : RrB ((W.setCell ⟨g, 7, none⟩ (.int .i64 x.t2)).drew.setCell ⟨g, 0, none⟩ (.int .i64 1)) g ⟨1, a, b, false, false, x.t0, x.t1, x.t2, x.t3, x.t4⟩ := by
        have h3 : Blk (W.setCell ⟨g, 7, none⟩ (.int .i64 x.t2)).drew g 36 _ := h.set_ 7 (.int .i64 x.t2)
        exact h3.set_ 0 (.int .i64 1)
      refine (rto_any g _ 3 k _ h2 HO7 hk (by omega)).mono ?_
      rintro r w' ⟨rfl, h4, h5⟩
      exact ⟨rfl, by rw [e7]; exact h4, gtrans' (gtrans' (gdrew' (gset' _ _ _ _)) (gset' _ _ _ _)) h5⟩
    have B2 : 0 ≤ x.t2 ∧ x.t2 ≤ k := ho.2.2.2.1
    have HC : ∀ W, RrB W g (phIn (phMust x a b) 2) → W.cell? ⟨g, 7, none⟩ = some (.int .i64 (x.t2 + 1)) ∧ W.frozen? ⟨g, 7, none⟩ = false ∧ W.cell? ⟨g, 0, none⟩ = some (.int .i64 2) ∧ W.frozen? ⟨g, 0, none⟩ = false := by
      intro W h
      rw [e5] at h
      exact ⟨h.cell 7, h.frozen 7, h.cell 0, h.frozen 0⟩
    have HCC := Lib.hid HC
    have hF : ∀ W, RrB W g (phForget x) → W.cell? ⟨g, 1, none⟩ = some (.bool false) ∧ W.frozen? ⟨g, 1, none⟩ = false ∧ W.cell? ⟨g, 2, none⟩ = some (.bool false) ∧ W.frozen? ⟨g, 2, none⟩ = false := fun W h => ⟨h.cell 1, h.frozen 1, h.cell 2, h.frozen 2⟩
    have HFC := Lib.hid hF
    unfold phAt
    obtain ⟨y, hy⟩ : ∃ y, phMust x a b = y := ⟨_, rfl⟩
    rw [hy] at HM H2 HW H3 HCC ⊢
    obtain ⟨u, hu⟩ : ∃ u, x.t2 = u := ⟨_, rfl⟩
    rw [hu] at H3 HCC B2
    obtain ⟨B3, B4⟩ := B2
    clear hx ho h1 e1 e2 hy hs hw e5 e6 e7 HO HO7 HC hF hu
    cases hok : phOk y
    · rw [hok] at HW
      simp only [Bool.false_eq_true, if_false]
      clear hok H3
      go_enter Try.func35, Try.ntmps35
      go_wp2_with (first | (go_at_call 42; refine HF.out.mono ?_; rintro r w2 ⟨rfl, hx2, hg2⟩; obtain ⟨c1, f1, c2, f2⟩ := HFC.out _ hx2; have X2 := Lib.hid (HM.out _ hx2); have HG2 := Lib.hid hg2; clear hx2 hg2) | (go_at_call 41; refine (H2.out _ X2.out).mono ?_; rintro r w3 ⟨rfl, hx3, hg3⟩; have X3 := Lib.hid hx3; have HG3 := Lib.hid hg3; clear hx3 hg3) | (go_at_call 40; refine (HW.out _ X3.out).mono ?_; rintro r w4 ⟨rfl, rfl⟩))
      go_ret
      exact ⟨rfl, X3.out, gtrans' (gtrans' HG2.out (gtrans' (gset' _ _ _ _) (gset' _ _ _ _))) HG3.out⟩
    · rw [hok] at HW
      simp only [if_true]
      clear hok
      go_enter Try.func35, Try.ntmps35
      go_wp2_with (first | (go_at_call 42; refine HF.out.mono ?_; rintro r w2 ⟨rfl, hx2, hg2⟩; obtain ⟨c1, f1, c2, f2⟩ := HFC.out _ hx2; have X2 := Lib.hid (HM.out _ hx2); have HG2 := Lib.hid hg2; clear hx2 hg2) | (go_at_call 41; refine (H2.out _ X2.out).mono ?_; rintro r w3 ⟨rfl, hx3, hg3⟩; obtain ⟨c7, f7, c0', f0'⟩ := HCC.out _ hx3; have X3 := Lib.hid hx3; have HG3 := Lib.hid hg3; clear hx3 hg3) | (go_at_call 40; refine (HW.out _ X3.out).mono ?_; rintro r w4 ⟨rfl, rfl⟩))
      go_region
      go_wp2_with (go_at_call 41; refine (H3.out _ X3.out).mono ?_; rintro r w5 ⟨rfl, hx5, hg5⟩; have X5 := Lib.hid hx5; have HG5 := Lib.hid hg5; clear hx5 hg5)
      go_ret
      exact ⟨rfl, X5.out, gtrans' (gtrans' (gtrans' HG2.out (gtrans' (gset' _ _ _ _) (gset' _ _ _ _))) HG3.out) HG5.out⟩
  · have e2 : phOX x a b = x := if_neg h1
    rw [e2]
    have HX := Lib.hid hx
    by_cases h4 : x.s = 4
    · have e1 : phOE x = 0 := if_pos (.inr h4)
      rw [e1]
      rw [h4] at c0
      clear hx ho h1 h4 e1 e2
      go_enter Try.func35, Try.ntmps35
      go_wp2
      go_ret
      exact ⟨rfl, HX.out, World.grownBy.refl _ _⟩
    · have e1 : phOE x = 290 := if_neg (fun h => h.elim h1 h4)
      rw [e1]
      have t1 : (x.s == 1) = false := by simpa using h1
      have t4 : (x.s == 4) = false := by simpa using h4
      clear hx ho h1 h4 e1 e2
      go_enter Try.func35, Try.ntmps35
      go_wp2
      go_ret
      exact ⟨rfl, HX.out, World.grownBy.refl _ _⟩
end Go.Proofs.Ytandakinbcfleaa
