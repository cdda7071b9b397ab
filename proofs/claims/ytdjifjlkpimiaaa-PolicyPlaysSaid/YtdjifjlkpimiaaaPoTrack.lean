/-
  A policy in memory; its small deeds: dial, hang, want, drop, run, use.
-/
import Derived.Test.YtdjifjlkpimiaaaPoMath
import Derived.RegionTactic
import Derived.BigRegion
namespace Go.Proofs.Ytdjifjlkpimiaaa
open Go.RowKit
set_option maxRecDepth 100000
set_option maxHeartbeats 1000000
set_option linter.unusedSimpArgs false
set_option linter.unusedVariables false

def PoB (w : World) (g : Nat) (x : PoS) : Prop := Blk w g 58 (poC x)
theorem gset' (w : World) (g i : Nat) (z : Value) : w.grownBy (w.setCell ⟨g, i, none⟩ z) (some g) := only_set (p := ⟨g, i, none⟩) z
theorem gtrans' {a b c : World} {row : Option Nat} (h : a.grownBy b row) (k : b.grownBy c row) : a.grownBy c row :=
  ⟨k.os.trans h.os, k.tape.trans h.tape, k.output.trans h.output, Nat.le_trans h.size k.size, fun i hi hne => (k.block i (Nat.lt_of_lt_of_le hi h.size) hne).trans (h.block i hi hne)⟩
theorem gdrew' {a b : World} {row : Option Nat} (h : a.grownBy b row) : a.grownBy b.drew row := ⟨h.os, h.tape, h.output, h.size, h.block⟩
theorem gsome' {a b : World} {g : Nat} (h : Below a.heap.size a b) : a.grownBy b (some g) := ⟨h.os, h.tape, h.output, h.size, fun i hi _ => h.block i hi⟩
theorem gdrewN {a b : World} {row : Option Nat} (h : a.grownBy b row) (n : Nat) : a.grownBy (b.drewN n) row := ⟨h.os, h.tape, h.output, h.size, h.block⟩
theorem galloc' {a b : World} {row : Option Nat} (h : a.grownBy b row) (d : Obj) : a.grownBy (b.alloc d) row :=
  ⟨h.os, h.tape, h.output, by have := h.size; simp; omega, fun i hi hne => (Below.heap_alloc _ _ _ (Nat.lt_of_lt_of_le hi h.size)).trans (h.block i hi hne)⟩
theorem PoB.below {w w' : World} {g : Nat} {x : PoS} (h : PoB w g x) (hb : Below w.heap.size w w') : PoB w' g x := Blk.below h hb h.lt
theorem PoB.row {w w' : World} {g g' : Nat} {x : PoS} (h : PoB w g x) (hb : w.grownBy w' (some g')) (hne : g ≠ g') : PoB w' g x := Blk.grown h hb (fun e => hne (by injection e with e; exact e.symm))
theorem PoB.alloc {w : World} {g : Nat} {x : PoS} (h : PoB w g x) (d : Obj) : PoB (w.alloc d) g x := h.below ((Below.refl _ _).alloc (Nat.le_refl _) _)
theorem ownI_one {W : World} {base : Nat} (z : Int) (hb : base ≤ W.heap.size) : OwnI (W.alloc (.cells #[.int .i64 z] 3)) base (.slice (some ⟨W.heap.size, 0, none⟩) 1 1) [z] :=
  ⟨rfl, .inr ⟨W.heap.size, 1, _, rfl, hb, blk_new W 3 [.int .i64 z], Nat.le_refl _, by decide, rfl, rfl⟩⟩
/-- what a deed leaves: the policy, and a row of its own -/
def PoR (w : World) (g : Nat) (y : PoS) (l : List Int) (e : Ending) (w' : World) : Prop := ∃ v, e = .returned v ∧ OwnI w' w.heap.size v l ∧ PoB w' g y ∧ w.grownBy w' (some g)
theorem por_one {w W : World} {g k : Nat} {y : PoS} (z : Int) (hk : k = W.heap.size) (hy : PoB W g y) (hg : w.grownBy W (some g)) :
    PoR w g y [z] (.returned (.slice (some ⟨k, 0, none⟩) 1 1)) (W.alloc (.cells #[.int .i64 z] 3)) := by
  subst hk
  exact ⟨_, rfl, ownI_one z hg.size, hy.alloc _, galloc' hg _⟩
theorem por_none {w W : World} {g : Nat} {y : PoS} (hy : PoB W g y) (hg : w.grownBy W (some g)) : PoR w g y [] (.returned (.slice none 0 0)) W :=
  ⟨_, rfl, OwnI.nil _ _, hy, hg⟩
theorem PoR.from {w W w' : World} {g : Nat} {y : PoS} {l : List Int} {e : Ending} (h : PoR W g y l e w') (hg : w.grownBy W (some g)) : PoR w g y l e w' := by
  obtain ⟨v, he, ho, hy, hk⟩ := h
  exact ⟨v, he, ho.wide hg.size, hy, gtrans' hg hk⟩

theorem want_any (g : Nat) (x : PoS) (w : World) (hx : PoB w g x) :
    Calls Try.prog 70 #[.pointer (some ⟨g, 0, none⟩)] w fun e w' => e = .returned (.tuple #[]) ∧ w' = w.setCell ⟨g, 0, none⟩ (.bool true) := by
  have c0 : w.cell? ⟨g, 0, none⟩ = some (.bool x.wa) := hx.cell 0
  have f0 : w.frozen? ⟨g, 0, none⟩ = false := hx.frozen 0
  clear hx
  go_enter Try.func70, Try.ntmps70
  go_wp2
  go_end0
  exact ⟨rfl, rfl⟩
theorem forgo_any (g : Nat) (x : PoS) (w : World) (hx : PoB w g x) :
    Calls Try.prog 69 #[.pointer (some ⟨g, 0, none⟩)] w fun e w' => e = .returned (.tuple #[]) ∧ w' = w.setCell ⟨g, 0, none⟩ (.bool false) := by
  have c0 : w.cell? ⟨g, 0, none⟩ = some (.bool x.wa) := hx.cell 0
  have f0 : w.frozen? ⟨g, 0, none⟩ = false := hx.frozen 0
  clear hx
  go_enter Try.func69, Try.ntmps69
  go_wp2
  go_end0
  exact ⟨rfl, rfl⟩
theorem urge_any (g : Nat) (x : PoS) (w : World) (hx : PoB w g x) :
    Calls Try.prog 71 #[.pointer (some ⟨g, 0, none⟩)] w fun e w' => e = .returned (.tuple #[]) ∧ w' = (w.setCell ⟨g, 0, none⟩ (.bool true)).setCell ⟨g, 1, none⟩ (.int .i64 0) := by
  have c1 : w.cell? ⟨g, 1, none⟩ = some (.int .i64 x.fa) := hx.cell 1
  have f1 : w.frozen? ⟨g, 1, none⟩ = false := hx.frozen 1
  have HX := Lib.hid hx
  clear hx
  go_enter Try.func71, Try.ntmps71
  go_wp2_with (go_at_call 70; refine (want_any g x w HX.out).mono ?_; rintro e w1 ⟨rfl, rfl⟩)
  go_end0
  exact ⟨rfl, rfl⟩
theorem succeed_any (g : Nat) (x : PoS) (w : World) (hx : PoB w g x) :
    Calls Try.prog 72 #[.pointer (some ⟨g, 0, none⟩)] w fun e w' => e = .returned (.tuple #[]) ∧ w' = (w.setCell ⟨g, 1, none⟩ (.int .i64 0)).setCell ⟨g, 2, none⟩ (.string wyNone) := by
  have c1 : w.cell? ⟨g, 1, none⟩ = some (.int .i64 x.fa) := hx.cell 1
  have f1 : w.frozen? ⟨g, 1, none⟩ = false := hx.frozen 1
  have c2 : w.cell? ⟨g, 2, none⟩ = some (.string x.wy) := hx.cell 2
  have f2 : w.frozen? ⟨g, 2, none⟩ = false := hx.frozen 2
  clear hx
  go_enter Try.func72, Try.ntmps72
  go_wp2
  go_end0
  exact ⟨rfl, rfl⟩
theorem fail_any (g : Nat) (x : PoS) (w : World) (hx : PoB w g x) (hb : 0 ≤ x.fa ∧ x.fa ≤ 2147483647) :
    Calls Try.prog 73 #[.pointer (some ⟨g, 0, none⟩)] w fun e w' => e = .returned (.tuple #[]) ∧ w' = (w.setCell ⟨g, 1, none⟩ (.int .i64 (poFail x).fa)).setCell ⟨g, 2, none⟩ (.string wyFailed) := by
  have c1 : w.cell? ⟨g, 1, none⟩ = some (.int .i64 x.fa) := hx.cell 1
  have f1 : w.frozen? ⟨g, 1, none⟩ = false := hx.frozen 1
  have c2 : w.cell? ⟨g, 2, none⟩ = some (.string x.wy) := hx.cell 2
  have f2 : w.frozen? ⟨g, 2, none⟩ = false := hx.frozen 2
  clear hx
  obtain ⟨b0, b1⟩ := hb
  show Calls _ _ _ _ fun e w' => e = .returned (.tuple #[]) ∧ w' = (w.setCell ⟨g, 1, none⟩ (.int .i64 (if x.fa + 1 < 2147483647 then x.fa + 1 else 2147483647))).setCell ⟨g, 2, none⟩ (.string wyFailed)
  generalize x.fa = z at *
  go_enter Try.func73, Try.ntmps73
  go_wp2
  all_goals
    go_end0
    refine ⟨rfl, ?_⟩
    first | rfl | (have e : z + 1 = 2147483647 := by omega
                   rw [e])
theorem poDial_any (g : Nat) (x : PoS) (w : World) (hx : PoB w g x) :
    Calls Try.prog 55 #[.pointer (some ⟨g, 0, none⟩)] w (PoR w g (poDial x) [1]) := by
  have c0 : w.cell? ⟨g, 0, none⟩ = some (.bool x.wa) := hx.cell 0
  have f0 : w.frozen? ⟨g, 0, none⟩ = false := hx.frozen 0
  have c9 : w.cell? ⟨g, 9, none⟩ = some (.int .i64 x.st) := hx.cell 9
  have f9 : w.frozen? ⟨g, 9, none⟩ = false := hx.frozen 9
  have HX := Lib.hid hx
  clear hx
  go_enter Try.func55, Try.ntmps55
  go_wp2_with (go_at_call 70; refine (want_any g x _ HX.out).mono ?_; rintro e w1 ⟨rfl, rfl⟩)
  go_ret
  refine por_one 1 (by simp [World.setCell]) ?_ ?_
  · exact (HX.out.set_ 0 (.bool true)).set_ 9 (.int .i64 2)
  · exact gtrans' (gset' _ _ _ _) (gset' _ _ _ _)
theorem poHang_any (g : Nat) (x : PoS) (y : ByteArray) (w : World) (hx : PoB w g x) :
    Calls Try.prog 54 #[.pointer (some ⟨g, 0, none⟩), .string y] w (PoR w g (poHang x y) [2]) := by
  have c0 : w.cell? ⟨g, 0, none⟩ = some (.bool x.wa) := hx.cell 0
  have f0 : w.frozen? ⟨g, 0, none⟩ = false := hx.frozen 0
  have c2 : w.cell? ⟨g, 2, none⟩ = some (.string x.wy) := hx.cell 2
  have f2 : w.frozen? ⟨g, 2, none⟩ = false := hx.frozen 2
  have c9 : w.cell? ⟨g, 9, none⟩ = some (.int .i64 x.st) := hx.cell 9
  have f9 : w.frozen? ⟨g, 9, none⟩ = false := hx.frozen 9
  have HX := Lib.hid hx
  clear hx
  go_enter Try.func54, Try.ntmps54
  go_wp2_with (go_at_call 69; refine (forgo_any g x _ HX.out).mono ?_; rintro e w1 ⟨rfl, rfl⟩)
  go_ret
  refine por_one 2 (by simp [World.setCell]) ?_ ?_
  · exact ((HX.out.set_ 0 (.bool false)).set_ 9 (.int .i64 4)).set_ 2 (.string y)
  · exact gtrans' (gtrans' (gset' _ _ _ _) (gset' _ _ _ _)) (gset' _ _ _ _)
theorem poDrop_any (g : Nat) (x : PoS) (w : World) (hx : PoB w g x) :
    Calls Try.prog 59 #[.pointer (some ⟨g, 0, none⟩)] w (PoR w g (poDrop x) []) := by
  have c0 : w.cell? ⟨g, 0, none⟩ = some (.bool x.wa) := hx.cell 0
  have f0 : w.frozen? ⟨g, 0, none⟩ = false := hx.frozen 0
  have HX := Lib.hid hx
  clear hx
  go_enter Try.func59, Try.ntmps59
  go_wp2_with (go_at_call 69; refine (forgo_any g x _ HX.out).mono ?_; rintro e w1 ⟨rfl, rfl⟩)
  go_ret
  refine por_none ?_ ?_
  · exact (HX.out.set_ 0 (.bool false))
  · exact (gset' _ _ _ _)
theorem poAwait_any (g : Nat) (x : PoS) (w : World) (hx : PoB w g x) :
    Calls Try.prog 60 #[.pointer (some ⟨g, 0, none⟩)] w (PoR w g (poWant x) []) := by
  have c0 : w.cell? ⟨g, 0, none⟩ = some (.bool x.wa) := hx.cell 0
  have f0 : w.frozen? ⟨g, 0, none⟩ = false := hx.frozen 0
  have HX := Lib.hid hx
  clear hx
  go_enter Try.func60, Try.ntmps60
  go_wp2_with (go_at_call 70; refine (want_any g x _ HX.out).mono ?_; rintro e w1 ⟨rfl, rfl⟩)
  go_ret
  refine por_none ?_ ?_
  · exact (HX.out.set_ 0 (.bool true))
  · exact (gset' _ _ _ _)
theorem poRetry_any (g : Nat) (x : PoS) (w : World) (hx : PoB w g x) :
    Calls Try.prog 61 #[.pointer (some ⟨g, 0, none⟩)] w (PoR w g (poUrge x) []) := by
  have c0 : w.cell? ⟨g, 0, none⟩ = some (.bool x.wa) := hx.cell 0
  have f0 : w.frozen? ⟨g, 0, none⟩ = false := hx.frozen 0
  have c1 : w.cell? ⟨g, 1, none⟩ = some (.int .i64 x.fa) := hx.cell 1
  have f1 : w.frozen? ⟨g, 1, none⟩ = false := hx.frozen 1
  have HX := Lib.hid hx
  clear hx
  go_enter Try.func61, Try.ntmps61
  go_wp2_with (go_at_call 71; refine (urge_any g x _ HX.out).mono ?_; rintro e w1 ⟨rfl, rfl⟩)
  go_ret
  refine por_none ?_ ?_
  · exact (HX.out.set_ 0 (.bool true)).set_ 1 (.int .i64 0)
  · exact gtrans' (gset' _ _ _ _) (gset' _ _ _ _)
theorem poRedial_any (g : Nat) (x : PoS) (w : World) (hx : PoB w g x) :
    Calls Try.prog 58 #[.pointer (some ⟨g, 0, none⟩)] w (PoR w g (poDial (poUrge x)) [1]) := by
  have c0 : w.cell? ⟨g, 0, none⟩ = some (.bool x.wa) := hx.cell 0
  have f0 : w.frozen? ⟨g, 0, none⟩ = false := hx.frozen 0
  have c1 : w.cell? ⟨g, 1, none⟩ = some (.int .i64 x.fa) := hx.cell 1
  have f1 : w.frozen? ⟨g, 1, none⟩ = false := hx.frozen 1
  have HX := Lib.hid hx
  clear hx
  have HC : Hid (Calls Try.prog 55 #[.pointer (some ⟨g, 0, none⟩)] ((w.setCell ⟨g, 0, none⟩ (.bool true)).setCell ⟨g, 1, none⟩ (.int .i64 0)) (PoR ((w.setCell ⟨g, 0, none⟩ (.bool true)).setCell ⟨g, 1, none⟩ (.int .i64 0)) g (poDial (poUrge x)) [1])) :=
    poDial_any g (poUrge x) _ ((HX.out.set_ 0 (.bool true)).set_ 1 (.int .i64 0))
  have HG : Hid (w.grownBy ((w.setCell ⟨g, 0, none⟩ (.bool true)).setCell ⟨g, 1, none⟩ (.int .i64 0)) (some g)) := gtrans' (gset' _ _ _ _) (gset' _ _ _ _)
  go_enter Try.func58, Try.ntmps58
  go_wp2_with (first | (go_at_call 55; ((with_reducible refine HC.out.mono ?_); rintro e w1 h1; have hq := h1.from HG.out; obtain ⟨v, rfl, h3⟩ := hq; have H3 := Lib.hid h3; clear h1 h3)) | (go_at_call 71; refine (urge_any g x _ HX.out).mono ?_; rintro e w1 ⟨rfl, rfl⟩))
  go_ret
  exact ⟨v, rfl, H3.out⟩
theorem poRun_any (g : Nat) (x : PoS) (w : World) (hx : PoB w g x) :
    Calls Try.prog 63 #[.pointer (some ⟨g, 0, none⟩)] w (PoR w g (poRun x) []) := by
  have c1 : w.cell? ⟨g, 1, none⟩ = some (.int .i64 x.fa) := hx.cell 1
  have f1 : w.frozen? ⟨g, 1, none⟩ = false := hx.frozen 1
  have c2 : w.cell? ⟨g, 2, none⟩ = some (.string x.wy) := hx.cell 2
  have f2 : w.frozen? ⟨g, 2, none⟩ = false := hx.frozen 2
  have c9 : w.cell? ⟨g, 9, none⟩ = some (.int .i64 x.st) := hx.cell 9
  have f9 : w.frozen? ⟨g, 9, none⟩ = false := hx.frozen 9
  have c10 : w.cell? ⟨g, 10, none⟩ = some (.int .i64 x.now) := hx.cell 10
  have c11 : w.cell? ⟨g, 11, none⟩ = some (.int .i64 x.ran) := hx.cell 11
  have f11 : w.frozen? ⟨g, 11, none⟩ = false := hx.frozen 11
  have c12 : w.cell? ⟨g, 12, none⟩ = some (.int .i64 x.us) := hx.cell 12
  have f12 : w.frozen? ⟨g, 12, none⟩ = false := hx.frozen 12
  have HX := Lib.hid hx
  clear hx
  go_enter Try.func63, Try.ntmps63
  go_wp2_with (go_at_call 72; refine (succeed_any g x _ HX.out).mono ?_; rintro e w1 ⟨rfl, rfl⟩)
  go_region
  go_wp2
  go_ret
  refine por_none ?_ ?_
  · exact ((((HX.out.set_ 1 (.int .i64 0)).set_ 2 (.string wyNone)).set_ 9 (.int .i64 3)).set_ 11 (.int .i64 x.now)).set_ 12 (.int .i64 x.now)
  · exact gdrew' (gtrans' (gtrans' (gtrans' (gtrans' (gset' _ _ _ _) (gset' _ _ _ _)) (gset' _ _ _ _)) (gset' _ _ _ _)) (gset' _ _ _ _))
theorem poUse_any (g : Nat) (x : PoS) (w : World) (hx : PoB w g x) :
    Calls Try.prog 65 #[.pointer (some ⟨g, 0, none⟩)] w (PoR w g (poUse x) []) := by
  have c10 : w.cell? ⟨g, 10, none⟩ = some (.int .i64 x.now) := hx.cell 10
  have c12 : w.cell? ⟨g, 12, none⟩ = some (.int .i64 x.us) := hx.cell 12
  have f12 : w.frozen? ⟨g, 12, none⟩ = false := hx.frozen 12
  have HX := Lib.hid hx
  clear hx
  go_enter Try.func65, Try.ntmps65
  go_wp2
  go_ret
  refine por_none ?_ ?_
  · exact (HX.out.set_ 12 (.int .i64 x.now))
  · exact (gset' _ _ _ _)
theorem poHd_any (g : Nat) (x : PoS) (w : World) (hx : PoB w g x) :
    Calls Try.prog 62 #[.pointer (some ⟨g, 0, none⟩)] w (PoR w g (poHang x wyDown) [2]) := by
  have HC := Lib.hid (poHang_any g x wyDown w hx)
  clear hx
  go_enter Try.func62, Try.ntmps62
  go_wp2_with (go_at_call 54; refine HC.out.mono ?_; rintro e w1 ⟨v, rfl, h3⟩; have H3 := Lib.hid h3; clear h3)
  go_ret
  exact ⟨v, rfl, H3.out⟩
theorem poHi_any (g : Nat) (x : PoS) (w : World) (hx : PoB w g x) :
    Calls Try.prog 50 #[.pointer (some ⟨g, 0, none⟩)] w (PoR w g (poHang x wyIdle) [2]) := by
  have HC := Lib.hid (poHang_any g x wyIdle w hx)
  clear hx
  go_enter Try.func50, Try.ntmps50
  go_wp2_with (go_at_call 54; refine HC.out.mono ?_; rintro e w1 ⟨v, rfl, h3⟩; have H3 := Lib.hid h3; clear h3)
  go_ret
  exact ⟨v, rfl, H3.out⟩
theorem poHs_any (g : Nat) (x : PoS) (w : World) (hx : PoB w g x) :
    Calls Try.prog 49 #[.pointer (some ⟨g, 0, none⟩)] w (PoR w g (poHang x wySession) [2]) := by
  have HC := Lib.hid (poHang_any g x wySession w hx)
  clear hx
  go_enter Try.func49, Try.ntmps49
  go_wp2_with (go_at_call 54; refine HC.out.mono ?_; rintro e w1 ⟨v, rfl, h3⟩; have H3 := Lib.hid h3; clear h3)
  go_ret
  exact ⟨v, rfl, H3.out⟩
theorem poRel_any (g : Nat) (x : PoS) (w : World) (hx : PoB w g x) :
    Calls Try.prog 51 #[.pointer (some ⟨g, 0, none⟩)] w (PoR w g (poRel x) (poRelL x)) := by
  have c0 : w.cell? ⟨g, 0, none⟩ = some (.bool x.wa) := hx.cell 0
  by_cases ha : x.wa = true
  · have e1 : poRel x = poDial x := if_pos ha
    have e2 : poRelL x = [1] := if_pos ha
    rw [e1, e2]
    rw [ha] at c0
    have HC := Lib.hid (poDial_any g x w hx)
    clear e1 e2 ha hx
    go_enter Try.func51, Try.ntmps51
    go_wp2_with (go_at_call 55; refine HC.out.mono ?_; rintro e w1 ⟨v, rfl, h3⟩; have H3 := Lib.hid h3; clear h3)
    go_ret
    exact ⟨v, rfl, H3.out⟩
  · have e1 : poRel x = { x with st := 0 } := if_neg ha
    have e2 : poRelL x = [] := if_neg ha
    rw [e1, e2]
    rw [Bool.not_eq_true] at ha
    rw [ha] at c0
    have c9 : w.cell? ⟨g, 9, none⟩ = some (.int .i64 x.st) := hx.cell 9
    have f9 : w.frozen? ⟨g, 9, none⟩ = false := hx.frozen 9
    have HX := Lib.hid hx
    clear e1 e2 ha hx
    go_enter Try.func51, Try.ntmps51
    go_wp2
    go_ret
    refine por_none ?_ ?_
    · exact (HX.out.set_ 9 (.int .i64 0))
    · exact (gset' _ _ _ _)
end Go.Proofs.Ytdjifjlkpimiaaa
