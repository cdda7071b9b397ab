/-
  LcpBack: the law's walk.
-/
import Derived.Test.YtonbdcajepmgbaaLcGiven
import Derived.Test.YtonbdcajepmgbaaLcKnown
import Derived.Deep.RegionLaw
namespace Go.Proofs.Ytonbdcajepmgbaa
open Go.RowKit
set_option maxRecDepth 100000
set_option maxHeartbeats 4000000
set_option linter.unusedSimpArgs false
set_option linter.unusedVariables false

theorem cells6_new (w : World) (t : Nat) (o : LOpts) : cells6 (w.alloc (.cells #[.int .i64 o.mru, .int .i64 o.accm, .int .i64 o.auth, .int .u32 o.magic, .bool o.pfc, .bool o.acfc] t)) w.heap.size o := by
  have h := blk_new w t o.cells
  exact ⟨h.cell 0, h.cell 1, h.cell 2, h.cell 3, h.cell 4, h.cell 5⟩
theorem cells6_later {w w' : World} {g : Nat} {o : LOpts} (h : cells6 w g o) (hg : g < w.heap.size) (hB : Below w.heap.size w w') : cells6 w' g o := by
  obtain ⟨h0, h1, h2, h3, h4, h5⟩ := h
  exact ⟨(hB.cell hg).trans h0, (hB.cell hg).trans h1, (hB.cell hg).trans h2, (hB.cell hg).trans h3, (hB.cell hg).trans h4, (hB.cell hg).trans h5⟩
/-- the calls, one behind the other -/
def BkC (w : World) (o : LOpts) : Prop :=
  Calls Try.prog 40 #[o.val] (w.alloc (.cells #[.int .i64 o.mru, .int .i64 o.accm, .int .i64 o.auth, .int .u32 o.magic, .bool o.pfc, .bool o.acfc] 74)) fun e w1 => e = .returned o.val ∧
    Calls Try.prog 39 #[o.val] w1 fun e w2 => ∃ A n c, e = .returned (.slice A n c) ∧
      Calls Try.prog 44 #[.slice A n c] w2 fun e w3 => ∃ (p : LOpts) (E : Int), e = .returned (.tuple #[.agg #[.int .i64 p.mru, .int .i64 p.accm, .int .i64 p.auth, .int .u32 p.magic, .bool p.pfc, .bool p.acfc], .int .i64 E]) ∧ cells6 w3 w.heap.size o ∧ (o.can → p = o ∧ E = 0) ∧ w.heap.size < w3.heap.size ∧ Below w.heap.size w w3
theorem back_calls (w : World) (o : LOpts) (hw : o.wf) : BkC w o := by
  unfold BkC
  have c1 := cells6_new w 74 o
  have B1 : Below w.heap.size w (w.alloc (.cells #[.int .i64 o.mru, .int .i64 o.accm, .int .i64 o.auth, .int .u32 o.magic, .bool o.pfc, .bool o.acfc] 74)) := (Below.refl _ _).alloc (Nat.le_refl _) _
  have s1 : (w.alloc (.cells #[.int .i64 o.mru, .int .i64 o.accm, .int .i64 o.auth, .int .u32 o.magic, .bool o.pfc, .bool o.acfc] 74)).heap.size = w.heap.size + 1 := by simp
  generalize w.alloc (.cells #[.int .i64 o.mru, .int .i64 o.accm, .int .i64 o.auth, .int .u32 o.magic, .bool o.pfc, .bool o.acfc] 74) = W1 at c1 B1 s1 ⊢
  refine (given_any o W1).mono ?_
  rintro e w1 ⟨rfl, b1⟩
  refine ⟨rfl, (options_lcp o w1 hw).mono ?_⟩
  rintro e w2 ⟨A, n, c, rfl, hn, ho, b2⟩
  obtain ⟨A', c', e', rr, _, hc⟩ := ho.rd (fun a ha => by have := (optsOf_each o a ha).2; omega)
  injection e' with e1 e2 e3
  subst e1 e3
  rw [← hn] at rr
  have hl := optsOf_len o
  have z1 := b1.size
  have z2 := b2.size
  refine ⟨A, n, c, rfl, (read_any A n c (optsOf o) w2 rr (optsOf_ok o) (by omega)).mono ?_⟩
  rintro e w3 ⟨rfl, b3⟩
  have B13 : Below W1.heap.size W1 w3 := b1.trans ((b2.trans (b3.mono z2)).mono z1)
  exact ⟨readO (optsOf o), _, rfl, cells6_later c1 (by omega) B13, fun h => readO_opts o h, (by have := b3.size; omega), B1.trans (B13.mono (by omega))⟩
theorem taken_kept (o q : LOpts) (g : Nat) (W : World) (h6 : cells6 W g q) (hg : g < W.heap.size) : Calls Try.prog 47 #[.agg #[.int .i64 o.mru, .int .i64 o.accm, .int .i64 o.auth, .int .u32 o.magic, .bool o.pfc, .bool o.acfc]] W.drew fun e w' => e = .returned (.agg #[.int .i64 o.mru, .int .i64 o.accm, .int .i64 o.auth, .int .u32 o.magic, .bool o.pfc, .bool o.acfc]) ∧ cells6 w' g q ∧ Below W.heap.size W w' := by
  refine (taken_any o W.drew).mono ?_
  rintro e w' ⟨rfl, b⟩
  have b' := below_undrew' b
  exact ⟨rfl, cells6_later h6 hg b', b'⟩
theorem lcpback_walk (o : LOpts) (w : World) (hw : o.wf) : Calls Try.prog 10 #[o.val] w fun e w' => e = .returned (.bool true) ∧ Below w.heap.size w w' := by
  have C := back_calls w o hw
  unfold BkC at C
  have N := Lib.hid C
  clear C
  have BD : o.wf := hw
  obtain ⟨⟨m1, m2⟩, ⟨a1, a2⟩, ⟨u1, u2⟩, ⟨g1, g2⟩⟩ := BD
  clear hw
  unfold LOpts.val
  simp only [LOpts.val] at N
  go_enter Try.func10, Try.ntmps10
  go_upto_region 2 with (first
    | (go_at_call 40; ((with_reducible refine N.out.mono ?_); rintro e w1 ⟨rfl, n2⟩; have N2 := Lib.hid n2; clear n2))
    | (go_at_call 39; ((with_reducible refine N2.out.mono ?_); rintro e w2 ⟨A, n, c, rfl, n3⟩; have N3 := Lib.hid n3; clear n3))
    | (go_at_call 44; ((with_reducible refine N3.out.mono ?_); rintro e w3 ⟨p, E, rfl, h6, hcan, hs3, hb⟩; have H6 := Lib.hid h6; have HC := Lib.hid hcan; have HB := Lib.hid hb; have HBZ := Lib.hid hs3; clear h6 hcan hb hs3)))
  have s3 := HB.out.size
  have y6 := cells6_new w3 76 p
  have B4 : Below w3.heap.size w3 (w3.alloc (.cells #[.int .i64 p.mru, .int .i64 p.accm, .int .i64 p.auth, .int .u32 p.magic, .bool p.pfc, .bool p.acfc] 76)) := (Below.refl _ _).alloc (Nat.le_refl _) _
  have x6 := cells6_later H6.out (by have := HBZ.out; omega) B4
  have s4 := B4.size
  have hlt := HBZ.out
  have HB := Lib.hid (HB.out.trans (B4.mono s3))
  generalize w3.alloc (.cells #[.int .i64 p.mru, .int .i64 p.accm, .int .i64 p.auth, .int .u32 p.magic, .bool p.pfc, .bool p.acfc] 76) = W4 at *
  obtain ⟨x0, x1, x2, x3, x4, x5⟩ := x6
  have KN := Lib.hid (known11_any W4)
  clear N N2 N3 H6 B4 HBZ
  by_cases c1 : o.mru < 64
  · have d1 : decide (o.mru < 64) = true := decide_eq_true c1
    go_wp2_with (go_at_call 38; ((with_reducible refine KN.out.mono ?_); rintro e w4 ⟨rfl, b4⟩; have HB4 := Lib.hid b4; clear b4))
    go_ret
    exact ⟨rfl, HB.out.trans (HB4.out.mono HB.out.size)⟩
  by_cases c2 : o.mru > 16384
  · have d1 : decide (o.mru > 16384) = true := decide_eq_true c2
    go_wp2_with (go_at_call 38; ((with_reducible refine KN.out.mono ?_); rintro e w4 ⟨rfl, b4⟩; have HB4 := Lib.hid b4; clear b4))
    go_ret
    exact ⟨rfl, HB.out.trans (HB4.out.mono HB.out.size)⟩
  by_cases c3 : o.accm < 0
  · go_wp2_with (go_at_call 38; ((with_reducible refine KN.out.mono ?_); rintro e w4 ⟨rfl, b4⟩; have HB4 := Lib.hid b4; clear b4))
    go_ret
    exact ⟨rfl, HB.out.trans (HB4.out.mono HB.out.size)⟩
  by_cases c4 : o.accm > 4294967295
  · go_wp2_with (go_at_call 38; ((with_reducible refine KN.out.mono ?_); rintro e w4 ⟨rfl, b4⟩; have HB4 := Lib.hid b4; clear b4))
    go_ret
    exact ⟨rfl, HB.out.trans (HB4.out.mono HB.out.size)⟩
  by_cases c5 : o.auth < 0
  · go_wp2_with (go_at_call 38; ((with_reducible refine KN.out.mono ?_); rintro e w4 ⟨rfl, b4⟩; have HB4 := Lib.hid b4; clear b4))
    go_ret
    exact ⟨rfl, HB.out.trans (HB4.out.mono HB.out.size)⟩
  by_cases c6 : o.auth > 3
  · go_wp2_with (go_at_call 38; ((with_reducible refine KN.out.mono ?_); rintro e w4 ⟨rfl, b4⟩; have HB4 := Lib.hid b4; clear b4))
    go_ret
    exact ⟨rfl, HB.out.trans (HB4.out.mono HB.out.size)⟩
  obtain ⟨rfl, rfl⟩ := HC.out ⟨⟨by omega, by omega⟩, ⟨by omega, by omega⟩, ⟨by omega, by omega⟩, g1, by omega⟩
  have TK := Lib.hid (taken_kept p p w.heap.size W4 ⟨x0, x1, x2, x3, x4, x5⟩ (by omega))
  obtain ⟨y0, y1, y2, y3, y4, y5⟩ := y6
  clear HC
  go_upto_region 4 with (fail)
  clear c1 c2 c3 c4 c5 c6 m1 m2 a1 a2 u1 u2 g1 g2
  go_region_law (first
    | (go_simp; go_at_call 47; (with_reducible refine TK.out.mono ?_); rintro e w5 ⟨rfl, ⟨z0, z1, z2, z3, z4, z5⟩, b5⟩; have HB5 := Lib.hid b5; clear b5)
    | (go_simp; go_at_call 38; refine (known11_any _).mono ?_; rintro e w6 ⟨rfl, b6⟩; have HB6 := Lib.hid b6; clear b6))
  all_goals
    go_wp2_with fail
    go_ret
    exact ⟨rfl, HB.out.trans ((HB5.out.trans (HB6.out.mono HB5.out.size)).mono HB.out.size)⟩
end Go.Proofs.Ytonbdcajepmgbaa
