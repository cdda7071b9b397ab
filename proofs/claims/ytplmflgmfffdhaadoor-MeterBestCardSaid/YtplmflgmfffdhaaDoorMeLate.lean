/-
  What came since the clock was moved last, as rates.
-/
import Derived.Test.YtplmflgmfffdhaaDoorMeTell
import Derived.Deep.Cut
namespace Go.Proofs.YtplmflgmfffdhaaDoor
open Go.RowKit
set_option maxRecDepth 100000
set_option maxHeartbeats 4000000
set_option linter.unusedSimpArgs false
set_option linter.unusedVariables false
attribute [local go_sem] run_store_float

/-- both counts are held against those of the last time -/
def WE (x : MeS) (q : Bool) : Prop := ∀ W, (Op.equalIn 10000 65 (.agg #[.int .i64 x.a0, .int .i64 x.a1, .int .i64 x.a2, .int .i64 x.a3, .int .i64 x.b0, .int .i64 x.b1, .int .i64 x.b2, .int .i64 x.b3]) (.agg #[.int .i64 x.c0, .int .i64 x.c1, .int .i64 x.c2, .int .i64 x.c3, .int .i64 x.d0, .int .i64 x.d1, .int .i64 x.d2, .int .i64 x.d3])).run Tryd.prog W = .ok q W
theorem Blk.drewN' {w : World} {g t : Nat} {cs : List Value} (h : Blk w g t cs) (n : Nat) : Blk (w.drewN n) g t cs := h
theorem info2 : (Tryd.prog.info? 63).map (·.size) = some 2 := by kernel_rfl
theorem two_new (w : World) (z : Value) : ∃ V, (w.alloc (.cells #[z, z] 63)).alloc (.cells #[z, z] 63) = V ∧ Blk V w.heap.size 63 [z, z] ∧ Blk V (w.heap.size + 1) 63 [z, z] ∧ Below w.heap.size w V := by
  refine ⟨_, rfl, ?_, ?_, ((Below.refl _ _).alloc (Nat.le_refl _) _).alloc (by simp) _⟩
  · exact mBlk_below (B := w.heap.size + 1) (mblk_new w 63 [z, z]) ((Below.refl _ _).alloc (by simp) _) (by omega)
  · have := mblk_new (w.alloc (.cells #[z, z] 63)) 63 [z, z]
    rw [show (w.alloc (.cells #[z, z] 63)).heap.size = w.heap.size + 1 by simp] at this
    exact this
theorem lately_yes (g : Nat) (x : MeS) (sp : Int) (w : World) (hx : MeB w g x) (hq : WE x true) : Calls Tryd.prog 48 #[.pointer (some ⟨g, 0, none⟩), .int .i64 sp] w fun e w' => e = .returned (.agg #[.float .f64 0, .float .f64 0]) ∧ Below w.heap.size w w' := by
  have lg : g < w.heap.size := hx.lt
  obtain ⟨V, hV, v0, v1, bV⟩ := two_new w (.float .f64 0)
  have hxV : MeB V g x := hx.below bV
  have h1 : V.cell? ⟨g, 1, none⟩ = some (.int .i64 x.a0) := hxV.cell 1
  have h2 : V.cell? ⟨g, 2, none⟩ = some (.int .i64 x.a1) := hxV.cell 2
  have h3 : V.cell? ⟨g, 3, none⟩ = some (.int .i64 x.a2) := hxV.cell 3
  have h4 : V.cell? ⟨g, 4, none⟩ = some (.int .i64 x.a3) := hxV.cell 4
  have h5 : V.cell? ⟨g, 5, none⟩ = some (.int .i64 x.b0) := hxV.cell 5
  have h6 : V.cell? ⟨g, 6, none⟩ = some (.int .i64 x.b1) := hxV.cell 6
  have h7 : V.cell? ⟨g, 7, none⟩ = some (.int .i64 x.b2) := hxV.cell 7
  have h8 : V.cell? ⟨g, 8, none⟩ = some (.int .i64 x.b3) := hxV.cell 8
  have h9 : V.cell? ⟨g, 9, none⟩ = some (.int .i64 x.c0) := hxV.cell 9
  have h10 : V.cell? ⟨g, 10, none⟩ = some (.int .i64 x.c1) := hxV.cell 10
  have h11 : V.cell? ⟨g, 11, none⟩ = some (.int .i64 x.c2) := hxV.cell 11
  have h12 : V.cell? ⟨g, 12, none⟩ = some (.int .i64 x.c3) := hxV.cell 12
  have h13 : V.cell? ⟨g, 13, none⟩ = some (.int .i64 x.d0) := hxV.cell 13
  have h14 : V.cell? ⟨g, 14, none⟩ = some (.int .i64 x.d1) := hxV.cell 14
  have h15 : V.cell? ⟨g, 15, none⟩ = some (.int .i64 x.d2) := hxV.cell 15
  have h16 : V.cell? ⟨g, 16, none⟩ = some (.int .i64 x.d3) := hxV.cell 16
  have p0 : V.cell? ⟨w.heap.size, 0, none⟩ = some (.float .f64 0) := v0.cell 0
  have p1 : V.cell? ⟨w.heap.size, 1, none⟩ = some (.float .f64 0) := v0.cell 1
  have p2 : V.cell? ⟨w.heap.size + 1, 0, none⟩ = some (.float .f64 0) := v1.cell 0
  have p3 : V.cell? ⟨w.heap.size + 1, 1, none⟩ = some (.float .f64 0) := v1.cell 1
  have f0 : V.frozen? ⟨w.heap.size, 0, none⟩ = false := v0.frozen 0
  have f1 : V.frozen? ⟨w.heap.size, 1, none⟩ = false := v0.frozen 1
  have HV := Lib.hid hV
  have HB := Lib.hid bV
  have H0 := Lib.hid v0
  unfold WE at hq
  clear hx hV hxV bV v0 v1
  obtain ⟨n, a0, a1, a2, a3, b0, b1, b2, b3, c0, c1, c2, c3, d0, d1, d2, d3, s, t⟩ := x
  simp only at *
  go_enter Tryd.func48, Tryd.ntmps48
  go_upto_region 2 with (fail)
  rw [HV.out]
  go_quiet (fail)
  go_wp2_with fail
  exact bodyPost_ret (results_cell_row rfl _ _ w.heap.size _ #[.float .f64 0, .float .f64 0] (0, 0) _ rfl (by exact Blk.drewN' ((H0.out.set_ 0 (.float .f64 0)).set_ 1 (.float .f64 0)) _) Tryd.underlying63 rfl info2) rfl ⟨rfl, mdrewN ((HB.out.setCell (p := ⟨w.heap.size, 0, none⟩) (by simp) _).setCell (p := ⟨w.heap.size, 1, none⟩) (by simp) _) _⟩
def dlt (a c : Int) : Int := IntKind.i64.wrap (a - c)
def lateR (x : MeS) (sp : Int) (k : Nat) : List Value := if k = 0 then [.float .f64 0, .float .f64 0] else if k = 1 then [.float .f64 (rateT (dlt x.a1 x.c1) sp), .float .f64 0] else [.float .f64 (rateT (dlt x.a1 x.c1) sp), .float .f64 (rateT (dlt x.b1 x.d1) sp)]
structure LJ (w W : World) (g : Nat) (x : MeS) (sp : Int) (k : Nat) : Prop where
  m : MeB W g x
  r0 : Blk W w.heap.size 63 [.float .f64 0, .float .f64 0]
  r1 : Blk W (w.heap.size + 1) 63 (lateR x sp k)
  b : Below w.heap.size w W
theorem LJ.later {w W V : World} {g : Nat} {x : MeS} {sp : Int} {k : Nat} (h : LJ w W g x sp k) (hb : Below W.heap.size W V) : LJ w V g x sp k := ⟨h.m.below hb, mBlk_below h.r0 hb h.r0.lt, mBlk_below h.r1 hb h.r1.lt, mto h.b hb⟩
theorem LJ.drewN {w W : World} {g : Nat} {x : MeS} {sp : Int} {k : Nat} (h : LJ w W g x sp k) (n : Nat) : LJ w (W.drewN n) g x sp k := ⟨h.m, h.r0, h.r1, mdrewN h.b n⟩
theorem LJ.put {w W : World} {g : Nat} {x : MeS} {sp : Int} {k j : Nat} (v : Nat) (h : LJ w W g x sp k) (hg : g < w.heap.size) (he : (lateR x sp k).set j (.float .f64 v) = lateR x sp (k + 1)) : LJ w (W.setCell ⟨w.heap.size + 1, j, none⟩ (.float .f64 v)) g x sp (k + 1) := by
  refine ⟨h.m.row (mgset _ _ _ _) (by omega), mBlk_grown h.r0 (mgset _ _ _ _) (by omega), ?_, h.b.setCell (by simp) _⟩
  have h2 := h.r1.set_ j (.float .f64 v)
  rw [he] at h2
  exact h2
theorem lately_no (g : Nat) (x : MeS) (sp : Int) (w : World) (hx : MeB w g x) (hq : WE x false) : Calls Tryd.prog 48 #[.pointer (some ⟨g, 0, none⟩), .int .i64 sp] w fun e w' => e = .returned (.agg #[.float .f64 (rateT (dlt x.a1 x.c1) sp), .float .f64 (rateT (dlt x.b1 x.d1) sp)]) ∧ Below w.heap.size w w' := by
  have lg : g < w.heap.size := hx.lt
  obtain ⟨V, hV, v0, v1, bV⟩ := two_new w (.float .f64 0)
  have hxV : MeB V g x := hx.below bV
  have h1 : V.cell? ⟨g, 1, none⟩ = some (.int .i64 x.a0) := hxV.cell 1
  have h2 : V.cell? ⟨g, 2, none⟩ = some (.int .i64 x.a1) := hxV.cell 2
  have h3 : V.cell? ⟨g, 3, none⟩ = some (.int .i64 x.a2) := hxV.cell 3
  have h4 : V.cell? ⟨g, 4, none⟩ = some (.int .i64 x.a3) := hxV.cell 4
  have h5 : V.cell? ⟨g, 5, none⟩ = some (.int .i64 x.b0) := hxV.cell 5
  have h6 : V.cell? ⟨g, 6, none⟩ = some (.int .i64 x.b1) := hxV.cell 6
  have h7 : V.cell? ⟨g, 7, none⟩ = some (.int .i64 x.b2) := hxV.cell 7
  have h8 : V.cell? ⟨g, 8, none⟩ = some (.int .i64 x.b3) := hxV.cell 8
  have h9 : V.cell? ⟨g, 9, none⟩ = some (.int .i64 x.c0) := hxV.cell 9
  have h10 : V.cell? ⟨g, 10, none⟩ = some (.int .i64 x.c1) := hxV.cell 10
  have h11 : V.cell? ⟨g, 11, none⟩ = some (.int .i64 x.c2) := hxV.cell 11
  have h12 : V.cell? ⟨g, 12, none⟩ = some (.int .i64 x.c3) := hxV.cell 12
  have h13 : V.cell? ⟨g, 13, none⟩ = some (.int .i64 x.d0) := hxV.cell 13
  have h14 : V.cell? ⟨g, 14, none⟩ = some (.int .i64 x.d1) := hxV.cell 14
  have h15 : V.cell? ⟨g, 15, none⟩ = some (.int .i64 x.d2) := hxV.cell 15
  have h16 : V.cell? ⟨g, 16, none⟩ = some (.int .i64 x.d3) := hxV.cell 16
  have p0 : V.cell? ⟨w.heap.size, 0, none⟩ = some (.float .f64 0) := v0.cell 0
  have p1 : V.cell? ⟨w.heap.size, 1, none⟩ = some (.float .f64 0) := v0.cell 1
  have p2 : V.cell? ⟨w.heap.size + 1, 0, none⟩ = some (.float .f64 0) := v1.cell 0
  have p3 : V.cell? ⟨w.heap.size + 1, 1, none⟩ = some (.float .f64 0) := v1.cell 1
  have f0 : V.frozen? ⟨w.heap.size, 0, none⟩ = false := v0.frozen 0
  have f1 : V.frozen? ⟨w.heap.size, 1, none⟩ = false := v0.frozen 1
  have I0 : ∀ W, (Instr.index 65 (.agg #[.int .i64 x.a0, .int .i64 x.a1, .int .i64 x.a2, .int .i64 x.a3, .int .i64 x.b0, .int .i64 x.b1, .int .i64 x.b2, .int .i64 x.b3]) (.int .i64 0)).run Tryd.prog W = .ok (.agg #[.int .i64 x.a0, .int .i64 x.a1, .int .i64 x.a2, .int .i64 x.a3]) W := fun _ => by kernel_rfl
  have I1 : ∀ W, (Instr.index 65 (.agg #[.int .i64 x.a0, .int .i64 x.a1, .int .i64 x.a2, .int .i64 x.a3, .int .i64 x.b0, .int .i64 x.b1, .int .i64 x.b2, .int .i64 x.b3]) (.int .i64 1)).run Tryd.prog W = .ok (.agg #[.int .i64 x.b0, .int .i64 x.b1, .int .i64 x.b2, .int .i64 x.b3]) W := fun _ => by kernel_rfl
  have J0 : ∀ W, LJ w W g x sp 0 → Hid (LJ w W g x sp 0) := fun W h => h
  have HJ0 : Hid (∀ n, LJ w (V.drewN n) g x sp 0) := fun n => (show LJ w V g x sp 0 from ⟨hxV, v0, v1, bV⟩).drewN n
  have HV := Lib.hid hV
  unfold WE at hq
  clear hx hV hxV bV v0 v1 J0
  go_enter Tryd.func48, Tryd.ntmps48
  go_upto_region 2 with (fail)
  rw [HV.out]
  go_quiet (fail)
  go_wp2_with fail
  go_loopw [22] (fun i wr => ∃ k : Nat, i = .int .i64 k ∧ k ≤ 2 ∧ Hid (LJ w wr g x sp k)) (fun i _ => 2 - (intOf i).toNat)
  case atStart => exact ⟨0, rfl, by omega, HJ0.out _⟩
  case round =>
    rename_i wr
    obtain ⟨k, rfl, hk, hJ⟩ := hrel
    clear HJ0 h1 h2 h3 h4 h5 h6 h7 h8 h9 h10 h11 h12 h13 h14 h15 h16 p0 p1 p2 p3 f0 f1 hq
    have hcs : k = 0 ∨ k = 1 ∨ k = 2 := by omega
    rcases hcs with rfl | rfl | rfl
    · obtain ⟨U, hU⟩ : ∃ U, wr.alloc (.cells #[.int .i64 x.a0, .int .i64 x.a1, .int .i64 x.a2, .int .i64 x.a3] 50) = U := ⟨_, rfl⟩
      have hBU : Below wr.heap.size wr U := by rw [← hU]; exact (Below.refl _ _).alloc (Nat.le_refl _) _
      have hnew : Blk U wr.heap.size 50 [.int .i64 x.a0, .int .i64 x.a1, .int .i64 x.a2, .int .i64 x.a3] := by rw [← hU]; exact mblk_new wr _ _
      have JU := hJ.out.later hBU
      have e1 : U.cell? ⟨wr.heap.size, 1, none⟩ = some (.int .i64 x.a1) := hnew.cell 1
      have e2 : U.cell? ⟨g, 10, none⟩ = some (.int .i64 x.c1) := JU.m.cell 10
      have s1 := hJ.out.r1.lt
      have q1 : U.cell? ⟨w.heap.size + 1, 0, none⟩ = some (.float .f64 0) := JU.r1.cell 0
      have q2 : U.frozen? ⟨w.heap.size + 1, 0, none⟩ = false := JU.r1.frozen 0
      have n1 : w.heap.size + 1 ≠ wr.heap.size := by omega
      have n2 : wr.heap.size ≠ w.heap.size + 1 := by omega
      have n3 : w.heap.size + 1 ≠ g := by omega
      have n4 : g ≠ w.heap.size + 1 := by omega
      have PT : Hid (∀ n, LJ w ((U.drewN n).setCell ⟨w.heap.size + 1, 0, none⟩ (.float .f64 (rateT (dlt x.a1 x.c1) sp))) g x sp 1) := fun n => (JU.drewN n).put _ lg rfl
      obtain ⟨u, hu⟩ : ∃ u, dlt x.a1 x.c1 = u := ⟨_, rfl⟩
      have HU2 : IntKind.i64.wrap (x.a1 - x.c1) = u := hu
      rw [hu] at PT
      have RT : Hid (∀ W, Calls Tryd.prog 53 #[.int .i64 u, .int .i64 sp] W fun e w' => e = .returned (.float .f64 (rateT u sp)) ∧ ∃ n, w' = W.drewN n) := fun W => rate_any u sp W
      obtain ⟨q, hqq⟩ : ∃ q, rateT u sp = q := ⟨_, rfl⟩
      rw [hqq] at PT RT
      have HU := Lib.hid hU
      clear hJ hU hBU hnew JU hu hqq
      go_upto_region 7 with (fail)
      rw [HU.out]
      go_region_held3 (fun w' => w'.cell? ⟨wr.heap.size, 1, none⟩ = some (.int .i64 x.a1) ∧ w'.cell? ⟨g, 10, none⟩ = some (.int .i64 x.c1)) (go_keep) ((go_at_call 53; (with_reducible refine (RT.out _).mono ?_); rintro e W3 ⟨rfl, n, rfl⟩))
      all_goals
        go_wp2_with fail
        go_roundw
        case rel => exact ⟨1, rfl, by omega, by first | exact PT.out _ | exact PT.out (1 + _)⟩
        case measure => simp [intOf]
    · obtain ⟨U, hU⟩ : ∃ U, wr.alloc (.cells #[.int .i64 x.b0, .int .i64 x.b1, .int .i64 x.b2, .int .i64 x.b3] 50) = U := ⟨_, rfl⟩
      have hBU : Below wr.heap.size wr U := by rw [← hU]; exact (Below.refl _ _).alloc (Nat.le_refl _) _
      have hnew : Blk U wr.heap.size 50 [.int .i64 x.b0, .int .i64 x.b1, .int .i64 x.b2, .int .i64 x.b3] := by rw [← hU]; exact mblk_new wr _ _
      have JU := hJ.out.later hBU
      have e1 : U.cell? ⟨wr.heap.size, 1, none⟩ = some (.int .i64 x.b1) := hnew.cell 1
      have e2 : U.cell? ⟨g, 14, none⟩ = some (.int .i64 x.d1) := JU.m.cell 14
      have s1 := hJ.out.r1.lt
      have q1 : U.cell? ⟨w.heap.size + 1, 1, none⟩ = some (.float .f64 0) := JU.r1.cell 1
      have q2 : U.frozen? ⟨w.heap.size + 1, 1, none⟩ = false := JU.r1.frozen 1
      have n1 : w.heap.size + 1 ≠ wr.heap.size := by omega
      have n2 : wr.heap.size ≠ w.heap.size + 1 := by omega
      have n3 : w.heap.size + 1 ≠ g := by omega
      have n4 : g ≠ w.heap.size + 1 := by omega
      have PT : Hid (∀ n, LJ w ((U.drewN n).setCell ⟨w.heap.size + 1, 1, none⟩ (.float .f64 (rateT (dlt x.b1 x.d1) sp))) g x sp 2) := fun n => (JU.drewN n).put _ lg rfl
      obtain ⟨u, hu⟩ : ∃ u, dlt x.b1 x.d1 = u := ⟨_, rfl⟩
      have HU2 : IntKind.i64.wrap (x.b1 - x.d1) = u := hu
      rw [hu] at PT
      have RT : Hid (∀ W, Calls Tryd.prog 53 #[.int .i64 u, .int .i64 sp] W fun e w' => e = .returned (.float .f64 (rateT u sp)) ∧ ∃ n, w' = W.drewN n) := fun W => rate_any u sp W
      obtain ⟨q, hqq⟩ : ∃ q, rateT u sp = q := ⟨_, rfl⟩
      rw [hqq] at PT RT
      have HU := Lib.hid hU
      clear hJ hU hBU hnew JU hu hqq
      go_upto_region 7 with (fail)
      rw [HU.out]
      go_region_held3 (fun w' => w'.cell? ⟨wr.heap.size, 1, none⟩ = some (.int .i64 x.b1) ∧ w'.cell? ⟨g, 14, none⟩ = some (.int .i64 x.d1)) (go_keep) ((go_at_call 53; (with_reducible refine (RT.out _).mono ?_); rintro e W3 ⟨rfl, n, rfl⟩))
      all_goals
        go_wp2_with fail
        go_roundw
        case rel => exact ⟨2, rfl, by omega, by first | exact PT.out _ | exact PT.out (1 + _)⟩
        case measure => simp [intOf]
    · have hj := hJ.out
      have p0 : wr.cell? ⟨w.heap.size, 0, none⟩ = some (.float .f64 0) := hj.r0.cell 0
      have p1 : wr.cell? ⟨w.heap.size, 1, none⟩ = some (.float .f64 0) := hj.r0.cell 1
      have f0 : wr.frozen? ⟨w.heap.size, 0, none⟩ = false := hj.r0.frozen 0
      have f1 : wr.frozen? ⟨w.heap.size, 1, none⟩ = false := hj.r0.frozen 1
      have p2 : wr.cell? ⟨w.heap.size + 1, 0, none⟩ = some (.float .f64 (rateT (dlt x.a1 x.c1) sp)) := hj.r1.cell 0
      have p3 : wr.cell? ⟨w.heap.size + 1, 1, none⟩ = some (.float .f64 (rateT (dlt x.b1 x.d1) sp)) := hj.r1.cell 1
      have H0 := Lib.hid hj.r0
      have HB := Lib.hid hj.b
      clear hJ hj
      go_wp2
      exact bodyPost_ret (results_cell_row rfl _ _ w.heap.size _ #[.float .f64 (rateT (dlt x.a1 x.c1) sp), .float .f64 (rateT (dlt x.b1 x.d1) sp)] (0, 0) _ rfl (by exact (H0.out.set_ 0 (.float .f64 (rateT (dlt x.a1 x.c1) sp))).set_ 1 (.float .f64 (rateT (dlt x.b1 x.d1) sp))) Tryd.underlying63 rfl info2) rfl ⟨rfl, (HB.out.setCell (p := ⟨w.heap.size, 0, none⟩) (by simp) _).setCell (p := ⟨w.heap.size, 1, none⟩) (by simp) _⟩
end Go.Proofs.YtplmflgmfffdhaaDoor
