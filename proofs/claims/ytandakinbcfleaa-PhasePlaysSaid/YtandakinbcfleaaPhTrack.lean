/-
  A track of phase: enter, opened, prove.
-/
import Derived.Test.YtandakinbcfleaaPhNxt
import Derived.RegionTactic
import Derived.BigRegion
namespace Go.Proofs.Ytandakinbcfleaa
open Go.RowKit
set_option maxRecDepth 100000
set_option maxHeartbeats 4000000
set_option linter.unusedSimpArgs false
set_option linter.unusedVariables false

def TrB (w : World) (g : Nat) (x : PhS) : Prop := Blk w g 62 (phC x)
def RrB (w : World) (g : Nat) (x : PhS) : Prop := Blk w g 36 (phC x)
theorem gset' (w : World) (g i : Nat) (z : Value) : w.grownBy (w.setCell ⟨g, i, none⟩ z) (some g) := only_set (p := ⟨g, i, none⟩) z
theorem gtrans' {a b c : World} {row : Option Nat} (h : a.grownBy b row) (k : b.grownBy c row) : a.grownBy c row :=
  ⟨k.os.trans h.os, k.tape.trans h.tape, k.output.trans h.output, Nat.le_trans h.size k.size, fun i hi hne => (k.block i (Nat.lt_of_lt_of_le hi h.size) hne).trans (h.block i hi hne)⟩
theorem gdrew' {a b : World} {row : Option Nat} (h : a.grownBy b row) : a.grownBy b.drew row := ⟨h.os, h.tape, h.output, h.size, h.block⟩
theorem gsome' {a b : World} {g : Nat} (h : Below a.heap.size a b) : a.grownBy b (some g) := ⟨h.os, h.tape, h.output, h.size, fun i hi _ => h.block i hi⟩
theorem phEnter_any (g : Nat) (x : PhS) (p k : Int) (w : World) (hx : TrB w g x) (ho : PhOk x k) (hk : k < 1000000000) (hp : 0 ≤ p ∧ p ≤ 4) :
    Calls Try.prog 37 #[.pointer (some ⟨g, 0, none⟩), .int .i64 p] w fun e w' => e = .returned (.tuple #[]) ∧ TrB w' g (phIn x p) ∧ w.grownBy w' (some g) := by
  obtain ⟨s, mt, mm, pt, pm, t0, t1, t2, t3, t4⟩ := x
  have c0 : w.cell? ⟨g, 0, none⟩ = some (.int .i64 s) := hx.cell 0
  by_cases hs : s = p
  · subst hs
    have HX := Lib.hid hx
    clear hx ho
    go_enter Try.func37, Try.ntmps37
    go_wp2
    go_end0
    refine ⟨rfl, ?_, World.grownBy.refl _ _⟩
    unfold phIn
    rw [if_pos rfl]
    exact HX.out
  · have hps : (p != s) = true := by simp; omega
    have e : phIn ⟨s, mt, mm, pt, pm, t0, t1, t2, t3, t4⟩ p = ⟨p, mt, mm, pt, pm, t0 + (if p = 0 then 1 else 0), t1 + (if p = 1 then 1 else 0), t2 + (if p = 2 then 1 else 0), t3 + (if p = 3 then 1 else 0), t4 + (if p = 4 then 1 else 0)⟩ := if_neg hs
    rw [e]
    have f0 : w.frozen? ⟨g, 0, none⟩ = false := hx.frozen 0
    have c5 : w.cell? ⟨g, 5, none⟩ = some (.int .i64 t0) := hx.cell 5
    have f5 : w.frozen? ⟨g, 5, none⟩ = false := hx.frozen 5
    have c6 : w.cell? ⟨g, 6, none⟩ = some (.int .i64 t1) := hx.cell 6
    have f6 : w.frozen? ⟨g, 6, none⟩ = false := hx.frozen 6
    have c7 : w.cell? ⟨g, 7, none⟩ = some (.int .i64 t2) := hx.cell 7
    have f7 : w.frozen? ⟨g, 7, none⟩ = false := hx.frozen 7
    have c8 : w.cell? ⟨g, 8, none⟩ = some (.int .i64 t3) := hx.cell 8
    have f8 : w.frozen? ⟨g, 8, none⟩ = false := hx.frozen 8
    have c9 : w.cell? ⟨g, 9, none⟩ = some (.int .i64 t4) := hx.cell 9
    have f9 : w.frozen? ⟨g, 9, none⟩ = false := hx.frozen 9
    unfold PhOk at ho
    simp only at ho
    obtain ⟨q0, ⟨q1, q2⟩, ⟨q3, q4⟩, ⟨q5, q6⟩, ⟨q7, q8⟩, q9, q10⟩ := ho
    have HX := Lib.hid hx
    clear hx e hs
    have hcs : p = 0 ∨ p = 1 ∨ p = 2 ∨ p = 3 ∨ p = 4 := by omega
    rcases hcs with rfl | rfl | rfl | rfl | rfl
    all_goals
      go_enter Try.func37, Try.ntmps37
      go_wp2
      go_region
      go_end0
    · refine ⟨rfl, ?_, gdrew' (gtrans' (gset' _ _ _ _) (gset' _ _ _ _))⟩
      have h2 := (HX.out.set_ 0 (.int .i64 0)).set_ 5 (.int .i64 (t0 + 1))
      simp [phC] at h2
      simp [TrB, phC]
      exact h2
    · refine ⟨rfl, ?_, gdrew' (gtrans' (gset' _ _ _ _) (gset' _ _ _ _))⟩
      have h2 := (HX.out.set_ 0 (.int .i64 1)).set_ 6 (.int .i64 (t1 + 1))
      simp [phC] at h2
      simp [TrB, phC]
      exact h2
    · refine ⟨rfl, ?_, gdrew' (gtrans' (gset' _ _ _ _) (gset' _ _ _ _))⟩
      have h2 := (HX.out.set_ 0 (.int .i64 2)).set_ 7 (.int .i64 (t2 + 1))
      simp [phC] at h2
      simp [TrB, phC]
      exact h2
    · refine ⟨rfl, ?_, gdrew' (gtrans' (gset' _ _ _ _) (gset' _ _ _ _))⟩
      have h2 := (HX.out.set_ 0 (.int .i64 3)).set_ 8 (.int .i64 (t3 + 1))
      simp [phC] at h2
      simp [TrB, phC]
      exact h2
    · refine ⟨rfl, ?_, gdrew' (gtrans' (gset' _ _ _ _) (gset' _ _ _ _))⟩
      have h2 := (HX.out.set_ 0 (.int .i64 4)).set_ 9 (.int .i64 (t4 + 1))
      simp [phC] at h2
      simp [TrB, phC]
      exact h2
theorem phOpened_any (g : Nat) (x : PhS) (w : World) (hx : TrB w g x) :
    Calls Try.prog 38 #[.pointer (some ⟨g, 0, none⟩)] w fun e w' => e = .returned (.int .i64 (phAt x)) ∧ Below w.heap.size w w' := by
  obtain ⟨s, mt, mm, pt, pm, t0, t1, t2, t3, t4⟩ := x
  have c1 : w.cell? ⟨g, 1, none⟩ = some (.bool mt) := hx.cell 1
  have c2 : w.cell? ⟨g, 2, none⟩ = some (.bool mm) := hx.cell 2
  have c3 : w.cell? ⟨g, 3, none⟩ = some (.bool pt) := hx.cell 3
  have c4 : w.cell? ⟨g, 4, none⟩ = some (.bool pm) := hx.cell 4
  have lg : g < w.heap.size := hx.lt
  have E1 : ∀ W, (Op.equalIn 10000 60 (.agg #[.bool false, .bool false]) (.agg #[.bool false, .bool false])).run Try.prog W = .ok true W := fun _ => by kernel_rfl
  have E2 : ∀ W, (Op.equalIn 10000 60 (.agg #[.bool true, .bool false]) (.agg #[.bool false, .bool false])).run Try.prog W = .ok false W := fun _ => by kernel_rfl
  have E3 : ∀ W, (Op.equalIn 10000 60 (.agg #[.bool false, .bool true]) (.agg #[.bool false, .bool false])).run Try.prog W = .ok false W := fun _ => by kernel_rfl
  have E4 : ∀ W, (Op.equalIn 10000 60 (.agg #[.bool true, .bool true]) (.agg #[.bool false, .bool false])).run Try.prog W = .ok false W := fun _ => by kernel_rfl
  clear hx
  cases mt <;> cases mm <;> cases pt <;> cases pm
  all_goals
    unfold phAt phOk
    simp only [Bool.not_false, Bool.not_true, Bool.true_or, Bool.false_or, Bool.or_true, Bool.or_false, Bool.and_true, Bool.and_false, Bool.and_self, if_true, Bool.false_eq_true, if_false]
    go_enter Try.func38, Try.ntmps38
    go_wp2
    go_region
    go_wp2
    go_ret
    exact ⟨rfl, ((Below.refl _ _).alloc (Nat.le_refl _) _).drew⟩
theorem TrB.below {w w' : World} {g : Nat} {x : PhS} (h : TrB w g x) (hb : Below w.heap.size w w') : TrB w' g x := Blk.below h hb h.lt
theorem TrB.row {w w' : World} {g g' : Nat} {x : PhS} (h : TrB w g x) (hb : w.grownBy w' (some g')) (hne : g ≠ g') : TrB w' g x := Blk.grown h hb (fun e => hne (by injection e with e; exact e.symm))
theorem RrB.below {w w' : World} {g : Nat} {x : PhS} (h : RrB w g x) (hb : Below w.heap.size w w') : RrB w' g x := Blk.below h hb h.lt
theorem RrB.row {w w' : World} {g g' : Nat} {x : PhS} (h : RrB w g x) (hb : w.grownBy w' (some g')) (hne : g ≠ g') : RrB w' g x := Blk.grown h hb (fun e => hne (by injection e with e; exact e.symm))
/-- what a call of a track leaves -/
def PhR (w : World) (g : Nat) (z : Int) (y : PhS) (e : Ending) (w' : World) : Prop := e = .returned (.int .i64 z) ∧ TrB w' g y ∧ w.grownBy w' (some g)
theorem phProve_any (g : Nat) (x : PhS) (d k : Int) (w : World) (hx : TrB w g x) (ho : PhOk x k) (hk : k < 1000000000) (hd : d = 0 ∨ d = 1) :
    Calls Try.prog 36 #[.pointer (some ⟨g, 0, none⟩), .int .i64 d] w (PhR w g (phPE x) (phPX x (5 + d))) := by
  have hs : x.s = 0 ∨ x.s = 1 ∨ x.s = 2 ∨ x.s = 3 ∨ x.s = 4 := by have := ho.1; omega
  have c0 : w.cell? ⟨g, 0, none⟩ = some (.int .i64 x.s) := hx.cell 0
  have c3 : w.cell? ⟨g, 3, none⟩ = some (.bool x.pt) := hx.cell 3
  have f3 : w.frozen? ⟨g, 3, none⟩ = false := hx.frozen 3
  have c4 : w.cell? ⟨g, 4, none⟩ = some (.bool x.pm) := hx.cell 4
  have f4 : w.frozen? ⟨g, 4, none⟩ = false := hx.frozen 4
  by_cases h2 : x.s = 2
  · have e1 : phPE x = 0 := by unfold phPE; rw [h2]; rfl
    have e2 : phPX x (5 + d) = phIn (phTold x (5 + d)) (phAt (phTold x (5 + d))) := if_pos h2
    rw [e1, e2]
    rw [h2] at c0
    have HT : ∀ w1, w1 = w.setCell ⟨g, 3 + d.toNat, none⟩ (.bool true) → Hid (TrB w1 g (phTold x (5 + d))) ∧ w.grownBy w1 (some g) := by
      intro w1 hw1
      subst hw1
      refine ⟨?_, gset' _ _ _ _⟩
      rcases hd with rfl | rfl
      · have h3 := hx.set_ 3 (.bool true)
        simp [phC] at h3
        show TrB _ _ _
        simp [TrB, phC, phTold]
        exact h3
      · have h3 := hx.set_ 4 (.bool true)
        simp [phC] at h3
        show TrB _ _ _
        simp [TrB, phC, phTold]
        exact h3
    have HO := Lib.hid (phTold_ok (5 + d) ho)
    obtain ⟨y, hy⟩ : ∃ y, phTold x (5 + d) = y := ⟨_, rfl⟩
    rw [hy] at HT HO ⊢
    have A0 := phAt_bounds y
    clear hx ho hs h2 e1 e2 hy
    rcases hd with rfl | rfl
    · obtain ⟨H1, H2⟩ := HT _ rfl
      have H3 := Lib.hid H2
      clear HT H2
      have HC : Hid (∀ w2, Below (w.setCell ⟨g, 3, none⟩ (.bool true)).heap.size (w.setCell ⟨g, 3, none⟩ (.bool true)) w2 → Calls Try.prog 37 #[.pointer (some ⟨g, 0, none⟩), .int .i64 (phAt y)] w2 fun e w' => e = .returned (.tuple #[]) ∧ TrB w' g (phIn y (phAt y)) ∧ w2.grownBy w' (some g)) :=
        fun w2 hb => phEnter_any g y (phAt y) k w2 (H1.out.below hb) HO.out hk A0
      go_enter Try.func36, Try.ntmps36
      go_wp2_with (first | (go_at_call 38; refine (phOpened_any g y _ H1.out).mono ?_; rintro e w2 ⟨rfl, hb2⟩; have HB2 := Lib.hid hb2; clear hb2) | (go_at_call 37; refine (HC.out _ HB2.out).mono ?_; rintro e w3 ⟨rfl, hx3, hg3⟩; have HX3 := Lib.hid hx3; have HG3 := Lib.hid hg3; clear hx3 hg3))
      go_ret
      exact ⟨rfl, HX3.out, gtrans' (gtrans' H3.out (gsome' HB2.out)) HG3.out⟩
    · obtain ⟨H1, H2⟩ := HT _ rfl
      have H3 := Lib.hid H2
      clear HT H2
      have HC : Hid (∀ w2, Below (w.setCell ⟨g, 4, none⟩ (.bool true)).heap.size (w.setCell ⟨g, 4, none⟩ (.bool true)) w2 → Calls Try.prog 37 #[.pointer (some ⟨g, 0, none⟩), .int .i64 (phAt y)] w2 fun e w' => e = .returned (.tuple #[]) ∧ TrB w' g (phIn y (phAt y)) ∧ w2.grownBy w' (some g)) :=
        fun w2 hb => phEnter_any g y (phAt y) k w2 (H1.out.below hb) HO.out hk A0
      go_enter Try.func36, Try.ntmps36
      go_wp2_with (first | (go_at_call 38; refine (phOpened_any g y _ H1.out).mono ?_; rintro e w2 ⟨rfl, hb2⟩; have HB2 := Lib.hid hb2; clear hb2) | (go_at_call 37; refine (HC.out _ HB2.out).mono ?_; rintro e w3 ⟨rfl, hx3, hg3⟩; have HX3 := Lib.hid hx3; have HG3 := Lib.hid hg3; clear hx3 hg3))
      go_ret
      exact ⟨rfl, HX3.out, gtrans' (gtrans' H3.out (gsome' HB2.out)) HG3.out⟩
  · have e2 : phPX x (5 + d) = x := if_neg h2
    rw [e2]
    have HX := Lib.hid hx
    have e1 : phPE x = if x.s = 0 ∨ x.s = 1 then 290 else 0 := rfl
    obtain ⟨s, hss⟩ : ∃ s, x.s = s := ⟨_, rfl⟩
    rw [hss] at c0 e1 hs h2
    obtain ⟨z, hz⟩ : ∃ z, phPE x = z := ⟨_, rfl⟩
    rw [hz] at e1 ⊢
    clear hx e2 hss hz ho
    rcases hs with rfl | rfl | rfl | rfl | rfl
    · subst e1
      go_enter Try.func36, Try.ntmps36
      go_wp2
      go_ret
      exact ⟨rfl, HX.out, World.grownBy.refl _ _⟩
    · subst e1
      go_enter Try.func36, Try.ntmps36
      go_wp2
      go_ret
      exact ⟨rfl, HX.out, World.grownBy.refl _ _⟩
    · exact absurd rfl h2
    · subst e1
      go_enter Try.func36, Try.ntmps36
      go_wp2
      go_ret
      exact ⟨rfl, HX.out, World.grownBy.refl _ _⟩
    · subst e1
      go_enter Try.func36, Try.ntmps36
      go_wp2
      go_ret
      exact ⟨rfl, HX.out, World.grownBy.refl _ _⟩
end Go.Proofs.Ytandakinbcfleaa
