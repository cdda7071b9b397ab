/-
  LcpEnds: the walk.
-/
import Derived.Test.YtonbdcajepmgbaaLcWant
import Derived.Test.YtonbdcajepmgbaaLcRRead
import Derived.Test.YtonbdcajepmgbaaLcFitsW
namespace Go.Proofs.Ytonbdcajepmgbaa
open Go.RowKit
set_option maxRecDepth 100000
set_option maxHeartbeats 4000000
set_option linter.unusedSimpArgs false
set_option linter.unusedVariables false

/-- the law's variables: both configurations, what is asked z11, what the other end has z12 -/
def EnJ (w V : World) (z11 z12 : Nat) (cvc cvd : Array Value) (p o : LOpts) : Prop :=
  (Blk V w.heap.size 102 cvc.toList ∧ Blk V (w.heap.size + 1) 102 cvd.toList ∧ Blk V z11 76 o.cells ∧ Blk V z12 76 p.cells) ∧ Below w.heap.size w V ∧ w.heap.size + 1 < z11 ∧ z12 ≠ z11
section
variable {w V V' : World} {z11 z12 : Nat} {cvc cvd : Array Value} {p o : LOpts}
theorem EnJ.later (h : EnJ w V z11 z12 cvc cvd p o) (hB : Below V.heap.size V V') : EnJ w V' z11 z12 cvc cvd p o := by
  obtain ⟨⟨h1, h2, h3, h4⟩, h5, h6⟩ := h
  exact ⟨⟨(hB.block _ h1.lt).trans h1, (hB.block _ h2.lt).trans h2, (hB.block _ h3.lt).trans h3, (hB.block _ h4.lt).trans h4⟩, h5.trans (hB.mono h5.size), h6⟩
theorem EnJ.drewn (h : EnJ w V z11 z12 cvc cvd p o) (k : Nat) : EnJ w (V.drewN k) z11 z12 cvc cvd p o := ⟨h.1, below_drewN h.2.1 k, h.2.2⟩
theorem EnJ.put (h : EnJ w V z11 z12 cvc cvd p o) (o' : LOpts) : EnJ w (set6 V z11 (.int .i64 o'.mru) (.int .i64 o'.accm) (.int .i64 o'.auth) (.int .u32 o'.magic) (.bool o'.pfc) (.bool o'.acfc)) z11 z12 cvc cvd p o' := by
  obtain ⟨⟨h1, h2, h3, h4⟩, h5, h6, h7⟩ := h
  have hg := set6_grown V z11 (.int .i64 o'.mru) (.int .i64 o'.accm) (.int .i64 o'.auth) (.int .u32 o'.magic) (.bool o'.pfc) (.bool o'.acfc)
  have hs := set6_blk h3 rfl (.int .i64 o'.mru) (.int .i64 o'.accm) (.int .i64 o'.auth) (.int .u32 o'.magic) (.bool o'.pfc) (.bool o'.acfc)
  have hB := set6_below h5 z11 (by omega) (.int .i64 o'.mru) (.int .i64 o'.accm) (.int .i64 o'.auth) (.int .u32 o'.magic) (.bool o'.pfc) (.bool o'.acfc)
  generalize set6 V z11 _ _ _ _ _ _ = V' at hg hs hB ⊢
  have hne : ∀ {i : Nat}, i ≠ z11 → some i ≠ some z11 := fun h e => h (by injection e)
  exact ⟨⟨(hg.block _ h1.lt (hne (by omega))).trans h1, (hg.block _ h2.lt (hne (by omega))).trans h2, hs, (hg.block _ h4.lt (hne h7)).trans h4⟩, hB, h6, h7⟩
theorem EnJ.bel (h : EnJ w V z11 z12 cvc cvd p o) : Below w.heap.size w V := h.2.1
theorem EnJ.six (h : EnJ w V z11 z12 cvc cvd p o) : cells6 V z11 o := ⟨h.1.2.2.1.cell 0, h.1.2.2.1.cell 1, h.1.2.2.1.cell 2, h.1.2.2.1.cell 3, h.1.2.2.1.cell 4, h.1.2.2.1.cell 5⟩
theorem EnJ.six2 (h : EnJ w V z11 z12 cvc cvd p o) : cells6 V z12 p := ⟨h.1.2.2.2.cell 0, h.1.2.2.2.cell 1, h.1.2.2.2.cell 2, h.1.2.2.2.cell 3, h.1.2.2.2.cell 4, h.1.2.2.2.cell 5⟩
end
def ov (o : LOpts) : Value := .agg #[.int .i64 o.mru, .int .i64 o.accm, .int .i64 o.auth, .int .u32 o.magic, .bool o.pfc, .bool o.acfc]
/-- a round that ends -/
def EnOk (w V : World) (z11 z12 : Nat) (cvc cvd : Array Value) (p o : LOpts) : Prop :=
  Calls Try.prog 39 #[ov o] V fun e w1 => ∃ A n c, e = .returned (.slice A n c) ∧ EnJ w w1 z11 z12 cvc cvd p o ∧
    ∀ m : Int, 0 ≤ m → m < 4294967296 → Calls Try.prog 62 #[.agg cvd, ov p, .slice A n c, .int .i64 0, .int .u32 m] w1 fun e w2 => ∃ X nx cx, e = .returned (.tuple #[.int .i64 2, .slice X nx cx]) ∧
      Calls Try.prog 45 #[.slice X nx cx] w2 fun e w3 => e = .returned (.tuple #[ov o, .int .i64 0]) ∧ ∃ W4, w3.alloc (.cells #[.int .i64 o.mru, .int .i64 o.accm, .int .i64 o.auth, .int .u32 o.magic, .bool o.pfc, .bool o.acfc] 74) = W4 ∧ EnJ w W4 z11 z12 cvc cvd p o ∧ cells6 W4 w3.heap.size o ∧
        Calls Try.prog 47 #[ov o] W4.drew fun e w5 => e = .returned (ov o) ∧ EnJ w w5 z11 z12 cvc cvd p o ∧ cells6 w5 w3.heap.size o
/-- a round that goes on -/
def EnBad (w V : World) (z11 z12 : Nat) (cvc cvd : Array Value) (p o o' : LOpts) : Prop :=
  Calls Try.prog 39 #[ov o] V fun e w1 => ∃ A n c, e = .returned (.slice A n c) ∧ EnJ w w1 z11 z12 cvc cvd p o ∧
    ∀ m : Int, 0 ≤ m → m < 4294967296 → Calls Try.prog 62 #[.agg cvd, ov p, .slice A n c, .int .i64 0, .int .u32 m] w1 fun e w2 => ∃ X nx cx, e = .returned (.tuple #[.int .i64 4, .slice X nx cx]) ∧ EnJ w w2 z11 z12 cvc cvd p o ∧
      Calls Try.prog 66 #[.agg cvc, ov o, .slice X nx cx] w2 fun e w3 => e = .returned (.tuple #[ov o', .bool true]) ∧ ∃ W4, w3.alloc (.cells #[.int .i64 o'.mru, .int .i64 o'.accm, .int .i64 o'.auth, .int .u32 o'.magic, .bool o'.pfc, .bool o'.acfc] 76) = W4 ∧ EnJ w W4 z11 z12 cvc cvd p o ∧ cells6 W4 w3.heap.size o'
theorem can_wf {o : LOpts} (h : o.can) : o.wf := by
  obtain ⟨⟨a, b⟩, ⟨c, d⟩, ⟨e, f⟩, ⟨g, i⟩⟩ := h
  exact ⟨⟨by omega, by omega⟩, ⟨by omega, by omega⟩, ⟨by omega, by omega⟩, by omega, by omega⟩
theorem opts_bytes (o : LOpts) : ∀ y ∈ optsOf o, y.2.length ≤ 140737488351232 := fun y hy => by have := (optsOf_each o y hy).2; omega
theorem en_ok {w V : World} {z11 z12 : Nat} {cvc cvd : Array Value} {p o : LOpts} {cc : CV} (h : EnJ w V z11 z12 cvc cvd p o) (hcf : ConfAt w w.heap.size cvd cc) (hI : EndI cc p o) (hb : badOf cc o = []) : EnOk w V z11 z12 cvc cvd p o := by
  refine (options_lcp o V (can_wf hI.1)).mono ?_
  rintro e w1 ⟨A, n, c, rfl, hn, hox, b1⟩
  have h1 := h.later b1
  have s1 := b1.size
  have hlen := optsOf_len o
  have rx : OptRd w1 w1.heap.size A n (optsOf o) := by
    obtain ⟨A', c', e, hh, -⟩ := hox.rd (opts_bytes o)
    injection e with e1 e2 e3
    subst e1 e2
    exact hh
  refine ⟨A, n, c, rfl, h1, fun m hm0 hm1 => ?_⟩
  refine (judge_any cvd cc p A n c (optsOf o) 0 m w1 (hcf.on h1.2.1) ⟨hm0, hm1⟩ rx (optsOf_ok o) (by omega)).mono ?_
  rintro e w2 ⟨X, nx, cx, k, x, rfl, hj, hnx, hoy, b2⟩
  rw [judge_ends cc p o m 0 hI, if_pos hb] at hj
  injection hj with hk hx
  subst hk hx
  have h2 := h1.later b2
  have ry : OptRd w2 w2.heap.size X nx (optsOf o) := by
    obtain ⟨A', c', e, hh, -⟩ := hoy.rd (opts_bytes o)
    injection e with e1 e2 e3
    subst e1 e2
    exact hh
  refine ⟨X, nx, cx, rfl, (rread_any X nx cx (optsOf o) w2 ry (optsOf_ok o) (by omega)).mono ?_⟩
  obtain ⟨ro, re⟩ := readO_opts o hI.1
  rw [ro, re]
  rintro e w3 ⟨rfl, b3⟩
  have h3 := h2.later b3
  have BA : Below w3.heap.size w3 (w3.alloc (.cells #[.int .i64 o.mru, .int .i64 o.accm, .int .i64 o.auth, .int .u32 o.magic, .bool o.pfc, .bool o.acfc] 74)) := (Below.refl _ _).alloc (Nat.le_refl _) _
  have h4 := h3.later BA
  have k4 := cells6_new w3 74 o
  have lt4 : w3.heap.size < (w3.alloc (.cells #[.int .i64 o.mru, .int .i64 o.accm, .int .i64 o.auth, .int .u32 o.magic, .bool o.pfc, .bool o.acfc] 74)).heap.size := by simp
  refine ⟨rfl, _, rfl, h4, k4, ?_⟩
  generalize w3.alloc (.cells #[.int .i64 o.mru, .int .i64 o.accm, .int .i64 o.auth, .int .u32 o.magic, .bool o.pfc, .bool o.acfc] 74) = W4 at *
  refine (taken_any o W4.drew).mono ?_
  rintro e w5 ⟨rfl, b5⟩
  have b5' := below_undrew' b5
  exact ⟨rfl, h4.later b5', cells6_later k4 lt4 b5'⟩
theorem en_bad {w V : World} {z11 z12 : Nat} {cvc cvd : Array Value} {p o : LOpts} {cc : CV} (h : EnJ w V z11 z12 cvc cvd p o) (hcf : ConfAt w w.heap.size cvd cc) (hI : EndI cc p o) (hb : badOf cc o ≠ []) : EnBad w V z11 z12 cvc cvd p o (fixO cc o) := by
  refine (options_lcp o V (can_wf hI.1)).mono ?_
  rintro e w1 ⟨A, n, c, rfl, hn, hox, b1⟩
  have h1 := h.later b1
  have s1 := b1.size
  have hlen := optsOf_len o
  have rx : OptRd w1 w1.heap.size A n (optsOf o) := by
    obtain ⟨A', c', e, hh, -⟩ := hox.rd (opts_bytes o)
    injection e with e1 e2 e3
    subst e1 e2
    exact hh
  refine ⟨A, n, c, rfl, h1, fun m hm0 hm1 => ?_⟩
  refine (judge_any cvd cc p A n c (optsOf o) 0 m w1 (hcf.on h1.2.1) ⟨hm0, hm1⟩ rx (optsOf_ok o) (by omega)).mono ?_
  rintro e w2 ⟨X, nx, cx, k, x, rfl, hj, hnx, hoy, b2⟩
  have hsh := judge_short cc p m 0 (optsOf o) 140737488351232 (by omega) (opts_bytes o)
  rw [hj] at hsh
  rw [judge_ends cc p o m 0 hI, if_neg hb] at hj
  injection hj with hk hx
  subst hk hx
  have h2 := h1.later b2
  have ry : OptRd w2 w2.heap.size X nx (badOf cc o) := by
    obtain ⟨A', c', e, hh, -⟩ := hoy.rd hsh
    injection e with e1 e2 e3
    subst e1 e2
    exact hh
  have hbl : (badOf cc o).length ≤ 3 := bad_len cc o
  have RJ := reject_any cvc o X nx cx (badOf cc o) w2 ry (by omega) (bad_three cc o)
  rw [rej_bad] at RJ
  refine ⟨X, nx, cx, rfl, h2, RJ.mono ?_⟩
  rintro e w3 ⟨rfl, b3⟩
  have h3 := h2.later b3
  have BA : Below w3.heap.size w3 (w3.alloc (.cells #[.int .i64 (fixO cc o).mru, .int .i64 (fixO cc o).accm, .int .i64 (fixO cc o).auth, .int .u32 (fixO cc o).magic, .bool (fixO cc o).pfc, .bool (fixO cc o).acfc] 76)) := (Below.refl _ _).alloc (Nat.le_refl _) _
  exact ⟨rfl, _, rfl, h3.later BA, cells6_new w3 _ (fixO cc o)⟩
end Go.Proofs.Ytonbdcajepmgbaa
