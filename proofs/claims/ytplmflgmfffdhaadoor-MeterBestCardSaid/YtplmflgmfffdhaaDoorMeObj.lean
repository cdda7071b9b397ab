/-
  A meter in memory; New, Counts, Rate, Gain, Loss, Smooth.
-/
import Derived.Test.YtplmflgmfffdhaaDoorMeMean
import Derived.Laws.Rows
import Derived.Laws.OwnMore
import Derived.Deep.RegionHeld3
import Derived.RegionTactic
namespace Go.Proofs.YtplmflgmfffdhaaDoor
open Go.RowKit
set_option maxRecDepth 100000
set_option maxHeartbeats 4000000
set_option linter.unusedSimpArgs false
set_option linter.unusedVariables false

theorem mblk_new (w : World) (t : Nat) (cs : List Value) : Blk (w.alloc (.cells cs.toArray t)) w.heap.size t cs := heap_alloc_new w _
theorem mgset (w : World) (g i : Nat) (z : Value) : w.grownBy (w.setCell ⟨g, i, none⟩ z) (some g) := ⟨rfl, rfl, rfl, by simp [World.setCell], fun k _ hne => Below.heap_setCell w ⟨g, i, none⟩ z k (fun e => hne (by rw [e]))⟩
theorem mgtrans {a b c : World} {row : Option Nat} (h : a.grownBy b row) (k : b.grownBy c row) : a.grownBy c row :=
  ⟨k.os.trans h.os, k.tape.trans h.tape, k.output.trans h.output, Nat.le_trans h.size k.size, fun i hi hne => (k.block i (Nat.lt_of_lt_of_le hi h.size) hne).trans (h.block i hi hne)⟩
theorem mgsome {a b : World} {g : Nat} (h : Below a.heap.size a b) : a.grownBy b (some g) := ⟨h.os, h.tape, h.output, h.size, fun i hi _ => h.block i hi⟩
theorem mBlk_below {w w' : World} {B g t : Nat} {cs : List Value} (h : Blk w g t cs) (hb : Below B w w') (hg : g < B) : Blk w' g t cs := (hb.block g hg).trans h
theorem mBlk_grown {w w' : World} {g t r : Nat} {cs : List Value} (h : Blk w g t cs) (hg : w.grownBy w' (some r)) (hne : g ≠ r) : Blk w' g t cs := (hg.block g h.lt (fun e => hne (by injection e))).trans h
theorem mdrewN {B : Nat} {a b : World} (h : Below B a b) (n : Nat) : Below B a (b.drewN n) := ⟨h.os, h.tape, h.output, h.size, h.block⟩
theorem mto {w a b : World} (h1 : Below w.heap.size w a) (h2 : Below a.heap.size a b) : Below w.heap.size w b := h1.trans (h2.mono h1.size)

/-- a meter: the clock; of what came and of what went the packets, bytes, bytes on the wire, packets that were lost; the same when the clock was moved last; both averages -/
structure MeS where
  n : Int
  a0 : Int
  a1 : Int
  a2 : Int
  a3 : Int
  b0 : Int
  b1 : Int
  b2 : Int
  b3 : Int
  c0 : Int
  c1 : Int
  c2 : Int
  c3 : Int
  d0 : Int
  d1 : Int
  d2 : Int
  d3 : Int
  s : Nat
  t : Nat
def meC (x : MeS) : List Value := [.int .i64 x.n, .int .i64 x.a0, .int .i64 x.a1, .int .i64 x.a2, .int .i64 x.a3, .int .i64 x.b0, .int .i64 x.b1, .int .i64 x.b2, .int .i64 x.b3, .int .i64 x.c0, .int .i64 x.c1, .int .i64 x.c2, .int .i64 x.c3, .int .i64 x.d0, .int .i64 x.d1, .int .i64 x.d2, .int .i64 x.d3, .float .f64 x.s, .float .f64 x.t]
def MeB (w : World) (g : Nat) (x : MeS) : Prop := Blk w g 67 (meC x)
def meZ : MeS := ⟨0, 0, 0, 0, 0, 0, 0, 0, 0, 0, 0, 0, 0, 0, 0, 0, 0, NC, NC⟩
theorem MeB.below {w w' : World} {g : Nat} {x : MeS} (h : MeB w g x) (hb : Below w.heap.size w w') : MeB w' g x := mBlk_below h hb h.lt
theorem MeB.row {w w' : World} {g r : Nat} {x : MeS} (h : MeB w g x) (hb : w.grownBy w' (some r)) (hne : g ≠ r) : MeB w' g x := mBlk_grown h hb hne
theorem way_any (o : Bool) (w : World) : Calls Tryd.prog 46 #[.bool o] w fun e w' => e = .returned (.int .i64 (if o then 1 else 0)) ∧ w = w' := by
  cases o
  all_goals
    go_enter Tryd.func46, Tryd.ntmps46
    go_wp2
    go_ret
    exact ⟨rfl, rfl⟩
theorem meNew_any (w : World) : Calls Tryd.prog 20 #[] w fun e w' => e = .returned (.pointer (some ⟨w.heap.size, 0, none⟩)) ∧ MeB w' w.heap.size meZ ∧ Below w.heap.size w w' := by
  go_enter Tryd.func20, Tryd.ntmps20
  go_wp2_with (go_at_call 45; refine (none_any _).mono ?_; rintro e w' ⟨rfl, rfl⟩)
  go_ret
  exact ⟨rfl, mblk_new w _ (meC meZ), (Below.refl _ _).alloc (Nat.le_refl _) _⟩
/-- what was counted one way -/
def ct (x : MeS) (o : Bool) : Int × Int × Int × Int := if o then (x.b0, x.b1, x.b2, x.b3) else (x.a0, x.a1, x.a2, x.a3)
def smo (x : MeS) (o : Bool) : Nat := if o then x.t else x.s
/-- bytes a second -/
def rateT (bytes span : Int) : Nat := match Ieee.double.mul (floatOfInt .f64 bytes) 4652007308841189376 with
  | some r => quoT r (floatOfInt .f64 span)
  | none => NC
theorem mul_none {a b : Nat} (h : Ieee.double.mul a b = none) (W : World) : (binOp .mul 22 (.float .f64 a) (.float .f64 b)).run Tryd.prog W = .ok (.float .f64 (nanW a b W)) W.drew := by
  have h2 : FloatKind.f64.format.mul a b = none := h
  simp [binOp, Op.floatArith, h2, run_choose_drew, Question.forced, nanW]
theorem mul_some {a b r : Nat} (h : Ieee.double.mul a b = some r) (W : World) : (binOp .mul 22 (.float .f64 a) (.float .f64 b)).run Tryd.prog W = .ok (.float .f64 r) W := run_float_arith W .mul _ .f64 a b r h
theorem cv64 (z : Int) (W : World) : (convert 2 22 (.int .i64 z)).run Tryd.prog W = .ok (.float .f64 (floatOfInt .f64 z)) W := run_convert_int_float W _ _ _ _ _ (by kernel_rfl) Tryd.underlying22
theorem rate_some (b s : Int) (x y r : Nat) (w : World) (C1 : ∀ W, (convert 2 22 (.int .i64 b)).run Tryd.prog W = .ok (.float .f64 x) W) (C2 : ∀ W, (convert 2 22 (.int .i64 s)).run Tryd.prog W = .ok (.float .f64 y) W)
    (M : ∀ W, (binOp .mul 22 (.float .f64 x) (.float .f64 4652007308841189376)).run Tryd.prog W = .ok (.float .f64 r) W) :
    Calls Tryd.prog 53 #[.int .i64 b, .int .i64 s] w fun e w' => e = .returned (.float .f64 (quoT r y)) ∧ ∃ n, w' = w.drewN n := by
  have R := Lib.hid (ratio_any r y w)
  go_enter Tryd.func53, Tryd.ntmps53
  go_wp2_with (go_at_call 12; refine R.out.mono ?_; rintro e w' ⟨rfl, n, rfl⟩)
  go_ret
  exact ⟨rfl, _, rfl⟩
theorem rate_none (b s : Int) (x y r : Nat) (w : World) (C1 : ∀ W, (convert 2 22 (.int .i64 b)).run Tryd.prog W = .ok (.float .f64 x) W) (C2 : ∀ W, (convert 2 22 (.int .i64 s)).run Tryd.prog W = .ok (.float .f64 y) W)
    (M : (binOp .mul 22 (.float .f64 x) (.float .f64 4652007308841189376)).run Tryd.prog w = .ok (.float .f64 r) w.drew) (hr : isN r = true) :
    Calls Tryd.prog 53 #[.int .i64 b, .int .i64 s] w fun e w' => e = .returned (.float .f64 NC) ∧ ∃ n, w' = w.drewN n := by
  have R := Lib.hid (ratio_any r y w.drew)
  have e : quoT r y = NC := by unfold quoT; rw [div_nan y hr]
  rw [e] at R
  clear hr e
  go_enter Tryd.func53, Tryd.ntmps53
  go_wp2_with (go_at_call 12; refine R.out.mono ?_; rintro e w' ⟨rfl, n, rfl⟩)
  go_ret
  exact ⟨rfl, 1 + n, by rw [← World.drewN_drewN]⟩
theorem rate_any (b s : Int) (w : World) : Calls Tryd.prog 53 #[.int .i64 b, .int .i64 s] w fun e w' => e = .returned (.float .f64 (rateT b s)) ∧ ∃ n, w' = w.drewN n := by
  unfold rateT
  generalize hK : (4652007308841189376 : Nat) = K
  cases h1 : Ieee.double.mul (floatOfInt .f64 b) K with
  | some r => exact rate_some b s _ _ r w (cv64 b) (cv64 s) (by rw [hK]; exact mul_some h1)
  | none => exact rate_none b s _ _ _ w (cv64 b) (cv64 s) (by rw [hK]; exact mul_none h1 w) (nanW_nan _ _ _)
theorem counts_nil (o : Bool) (w : World) : Calls Tryd.prog 29 #[.pointer none, .bool o] w fun e w' => e = .returned (.agg #[.int .i64 0, .int .i64 0, .int .i64 0, .int .i64 0]) ∧ Below w.heap.size w w' := by
  go_enter Tryd.func29, Tryd.ntmps29
  go_wp2
  exact bodyPost_ret (v := .agg #[.int .i64 0, .int .i64 0, .int .i64 0, .int .i64 0]) (by simp [results, Tryd.results29, go_sem]) rfl ⟨rfl, (Below.refl _ _).alloc (Nat.le_refl _) _⟩

theorem counts_out (g : Nat) (x : MeS) (w : World) (hx : MeB w g x) : Calls Tryd.prog 29 #[.pointer (some ⟨g, 0, none⟩), .bool true] w fun e w' => e = .returned (.agg #[.int .i64 x.b0, .int .i64 x.b1, .int .i64 x.b2, .int .i64 x.b3]) ∧ Below w.heap.size w w' := by
  have h5 : w.cell? ⟨g, 5, none⟩ = some (.int .i64 x.b0) := hx.cell 5
  have h6 : w.cell? ⟨g, 6, none⟩ = some (.int .i64 x.b1) := hx.cell 6
  have h7 : w.cell? ⟨g, 7, none⟩ = some (.int .i64 x.b2) := hx.cell 7
  have h8 : w.cell? ⟨g, 8, none⟩ = some (.int .i64 x.b3) := hx.cell 8
  have lg : g < w.heap.size := hx.lt
  have n1 : w.heap.size ≠ g := by omega
  have n2 : g ≠ w.heap.size := by omega
  clear hx
  have WY : Hid (∀ W, Calls Tryd.prog 46 #[.bool true] W fun e w' => e = .returned (.int .i64 1) ∧ W = w') := fun W => way_any true W
  go_enter Tryd.func29, Tryd.ntmps29
  go_wp2
  go_region_held3 (fun w' => w'.cell? ⟨g, 5, none⟩ = some (.int .i64 x.b0) ∧ w'.cell? ⟨g, 6, none⟩ = some (.int .i64 x.b1) ∧ w'.cell? ⟨g, 7, none⟩ = some (.int .i64 x.b2) ∧ w'.cell? ⟨g, 8, none⟩ = some (.int .i64 x.b3)) (go_keep) ((go_at_call 46; (with_reducible refine (WY.out _).mono ?_); rintro e W2 ⟨rfl, rfl⟩))
  go_wp2_with fail
  exact bodyPost_ret (v := .agg #[.int .i64 x.b0, .int .i64 x.b1, .int .i64 x.b2, .int .i64 x.b3]) (by simp [results, Tryd.results29, go_sem]) rfl ⟨rfl, ((Below.refl _ _).alloc (Nat.le_refl _) _).drew⟩
theorem counts_in (g : Nat) (x : MeS) (w : World) (hx : MeB w g x) : Calls Tryd.prog 29 #[.pointer (some ⟨g, 0, none⟩), .bool false] w fun e w' => e = .returned (.agg #[.int .i64 x.a0, .int .i64 x.a1, .int .i64 x.a2, .int .i64 x.a3]) ∧ Below w.heap.size w w' := by
  have h1 : w.cell? ⟨g, 1, none⟩ = some (.int .i64 x.a0) := hx.cell 1
  have h2 : w.cell? ⟨g, 2, none⟩ = some (.int .i64 x.a1) := hx.cell 2
  have h3 : w.cell? ⟨g, 3, none⟩ = some (.int .i64 x.a2) := hx.cell 3
  have h4 : w.cell? ⟨g, 4, none⟩ = some (.int .i64 x.a3) := hx.cell 4
  have lg : g < w.heap.size := hx.lt
  have n1 : w.heap.size ≠ g := by omega
  have n2 : g ≠ w.heap.size := by omega
  clear hx
  have WY : Hid (∀ W, Calls Tryd.prog 46 #[.bool false] W fun e w' => e = .returned (.int .i64 0) ∧ W = w') := fun W => way_any false W
  go_enter Tryd.func29, Tryd.ntmps29
  go_wp2
  go_region_held3 (fun w' => w'.cell? ⟨g, 1, none⟩ = some (.int .i64 x.a0) ∧ w'.cell? ⟨g, 2, none⟩ = some (.int .i64 x.a1) ∧ w'.cell? ⟨g, 3, none⟩ = some (.int .i64 x.a2) ∧ w'.cell? ⟨g, 4, none⟩ = some (.int .i64 x.a3)) (go_keep) ((go_at_call 46; (with_reducible refine (WY.out _).mono ?_); rintro e W2 ⟨rfl, rfl⟩))
  go_wp2_with fail
  exact bodyPost_ret (v := .agg #[.int .i64 x.a0, .int .i64 x.a1, .int .i64 x.a2, .int .i64 x.a3]) (by simp [results, Tryd.results29, go_sem]) rfl ⟨rfl, ((Below.refl _ _).alloc (Nat.le_refl _) _).drew⟩
end Go.Proofs.YtplmflgmfffdhaaDoor
