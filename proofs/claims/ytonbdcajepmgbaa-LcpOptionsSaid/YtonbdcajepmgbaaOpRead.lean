/-
  opt.Unpack: the packet that bytes begin with.
  opt.Unpack of four bytes and more.
  Unpack of whatever bytes.
  opt.read: the next option, where there is one.
-/
import Derived.Test.YtonbdcajepmgbaaNewReader
import Derived.Outline
import Derived.Deep.Cut
namespace Go.Proofs.Ytonbdcajepmgbaa
open Go.RowKit
set_option maxRecDepth 100000
set_option maxHeartbeats 4000000
set_option linter.unusedSimpArgs false
set_option linter.unusedVariables false

/-- the length that bytes say -/
def upN (l : List UInt8) : Int := num (l.drop 2) 2
def upE (l : List UInt8) : Int := if l.length < 4 then 8 else if upN l < 4 ∨ 16384 < upN l then 4 else if (l.length : Int) < upN l then 8 else 0
theorem nm_ok {r : List UInt8} {n : Nat} (hn : 1 ≤ n) (hn8 : n ≤ 8) (h : n ≤ r.length) : nmErr r 0 n = 0 ∧ nmVal r 0 n = num r n ∧ nmRest r 0 n = r.drop n := by
  have e : nmErr r 0 n = 0 := by
    unfold nmErr
    rw [if_neg (by omega), if_neg (by omega), if_neg (by omega)]
  refine ⟨e, ?_, ?_⟩
  · unfold nmVal
    rw [if_pos e, Int.toNat_natCast]
  · unfold nmRest
    rw [if_pos e, Int.toNat_natCast]
theorem nm_short {r : List UInt8} {n : Nat} (hn : 1 ≤ n) (hn8 : n ≤ 8) (h : r.length < n) : nmErr r 0 n = 8 ∧ nmVal r 0 n = 0 ∧ nmRest r 0 n = [] := by
  have e : nmErr r 0 n = 8 := by
    unfold nmErr
    rw [if_neg (by omega), if_neg (by omega), if_pos (by omega)]
  refine ⟨e, ?_, ?_⟩
  · unfold nmVal
    rw [if_neg (by rw [e]; omega)]
  · unfold nmRest
    rw [if_neg (by rw [e]; omega)]
theorem nm_err {r : List UInt8} {n : Int} : nmErr r 8 n = 8 ∧ nmVal r 8 n = 0 ∧ nmRest r 8 n = [] := by
  have e : nmErr r 8 n = 8 := by
    unfold nmErr
    rw [if_pos (by omega)]
  refine ⟨e, ?_, ?_⟩
  · unfold nmVal
    rw [if_neg (by rw [e]; omega)]
  · unfold nmRest
    rw [if_neg (by rw [e]; omega)]
/-- three numbers behind one another -/
theorem three (l : List UInt8) : (l.length < 4 ∧ nmErr (nmRest (nmRest l 0 1) (nmErr l 0 1) 1) (nmErr (nmRest l 0 1) (nmErr l 0 1) 1) 2 = 8) ∨
    (4 ≤ l.length ∧ nmErr l 0 1 = 0 ∧ nmRest l 0 1 = l.drop 1 ∧ nmVal l 0 1 = num l 1 ∧ nmErr (l.drop 1) 0 1 = 0 ∧ nmRest (l.drop 1) 0 1 = l.drop 2 ∧ nmVal (l.drop 1) 0 1 = num (l.drop 1) 1 ∧
      nmErr (l.drop 2) 0 2 = 0 ∧ nmRest (l.drop 2) 0 2 = l.drop 4 ∧ nmVal (l.drop 2) 0 2 = num (l.drop 2) 2) := by
  by_cases h4 : l.length < 4
  · refine .inl ⟨h4, ?_⟩
    by_cases h1 : 1 ≤ l.length
    · obtain ⟨a1, _, a3⟩ := nm_ok (n := 1) (by omega) (by omega) h1
      have b1 : nmErr l 0 1 = 0 := a1
      have b3 : nmRest l 0 1 = l.drop 1 := a3
      rw [b1, b3]
      by_cases h2 : 2 ≤ l.length
      · obtain ⟨c1, _, c3⟩ := nm_ok (r := l.drop 1) (n := 1) (by omega) (by omega) (by rw [List.length_drop]; omega)
        have d1 : nmErr (l.drop 1) 0 1 = 0 := c1
        have d3 : nmRest (l.drop 1) 0 1 = (l.drop 1).drop 1 := c3
        rw [d1, d3]
        exact (nm_short (r := (l.drop 1).drop 1) (n := 2) (by omega) (by omega) (by rw [List.length_drop, List.length_drop]; omega)).1
      · obtain ⟨c1, _, c3⟩ := nm_short (r := l.drop 1) (n := 1) (by omega) (by omega) (by rw [List.length_drop]; omega)
        have d1 : nmErr (l.drop 1) 0 1 = 8 := c1
        rw [d1]
        exact nm_err.1
    · obtain ⟨a1, _, a3⟩ := nm_short (r := l) (n := 1) (by omega) (by omega) (by omega)
      have b1 : nmErr l 0 1 = 8 := a1
      rw [b1, nm_err.1]
      exact nm_err.1
  · obtain ⟨a1, a2, a3⟩ := nm_ok (r := l) (n := 1) (by omega) (by omega) (by omega)
    obtain ⟨b1, b2, b3⟩ := nm_ok (r := l.drop 1) (n := 1) (by omega) (by omega) (by rw [List.length_drop]; omega)
    obtain ⟨c1, c2, c3⟩ := nm_ok (r := l.drop 2) (n := 2) (by omega) (by omega) (by rw [List.length_drop]; omega)
    rw [List.drop_drop] at b3 c3
    exact .inr ⟨by omega, a1, a3, a2, b1, b3, b2, c1, c3, c2⟩
theorem unpack_short (A : Option Addr) (n c B : Nat) (l : List UInt8) (w : World) (hr : Rd w B A n l) (hB : B ≤ w.heap.size) (hn : n ≤ 140737488420864) (h4 : l.length < 4) :
    Calls Try.prog 28 #[.slice A n c] w fun e w' => e = .returned (.tuple #[.agg #[.int .i64 0, .int .i64 0, .slice none 0 0], .int .i64 8]) ∧ Below w.heap.size w w' := by
  have hz : ∀ W, (zeroValue 54).run Try.prog W = .ok (.agg #[.int .i64 0, .int .i64 0, .slice none 0 0]) W := fun W => by kernel_rfl
  obtain ⟨W1, hW1⟩ : ∃ W1, W1 = w.alloc (.cells #[.int .i64 0, .int .i64 0, .slice none 0 0] 54) := ⟨_, rfl⟩
  have hs1 : W1.heap.size = w.heap.size + 1 := by rw [hW1]; simp
  have hB1 : Below w.heap.size w W1 := by rw [hW1]; exact (Below.refl _ _).alloc (Nat.le_refl _) _
  have hb1 : Blk W1 w.heap.size 54 [.int .i64 0, .int .i64 0, .slice none 0 0] := by rw [hW1]; exact blk_new w _ _
  have NR := newreader_any A n c B l W1 (hr.below (hB1.mono hB)) (by omega) hn
  have e8 : nmErr (nmRest (nmRest l 0 1) (nmErr l 0 1) 1) (nmErr (nmRest l 0 1) (nmErr l 0 1) 1) 2 = 8 := by
    rcases three l with ⟨_, h⟩ | ⟨h, _⟩
    · exact h
    · omega
  have HW : Hid (w.alloc (.cells #[.int .i64 0, .int .i64 0, .slice none 0 0] 54) = W1) := hW1.symm
  have N : Hid (Calls Try.prog 89 #[.slice A n c] W1 fun e w2 => ∃ g, e = .returned (.pointer (some ⟨g, 0, none⟩)) ∧
      Calls Try.prog 90 #[.pointer (some ⟨g, 0, none⟩), .int .i64 1] w2 fun e w3 => ∃ v1 : Int, e = .returned (.int .u64 v1) ∧
        Calls Try.prog 90 #[.pointer (some ⟨g, 0, none⟩), .int .i64 1] w3 fun e w4 => ∃ v2 : Int, e = .returned (.int .u64 v2) ∧
          Calls Try.prog 90 #[.pointer (some ⟨g, 0, none⟩), .int .i64 2] w4 fun e w5 => ∃ v3 : Int, e = .returned (.int .u64 v3) ∧
            (Calls Try.prog 91 #[.pointer (some ⟨g, 0, none⟩)] w5 fun e w6 => e = .returned (.int .i64 8) ∧ w5 = w6) ∧
            Blk w5 w.heap.size 54 [.int .i64 0, .int .i64 0, .slice none 0 0] ∧ Below w.heap.size w w5) := by
    refine NR.mono ?_
    rintro e w2 ⟨g, rfl, hg1, hg2, hb2, hO⟩
    have O2 := hO w2 none (World.grownBy.refl _ _) (fun q e => by cases e)
    refine ⟨g, rfl, (onum_any _ g 1 l 0 w2 O2).mono ?_⟩
    rintro e w3 ⟨rfl, O3, g3⟩
    refine ⟨_, rfl, (onum_any _ g 1 _ _ w3 O3).mono ?_⟩
    rintro e w4 ⟨rfl, O4, g4⟩
    refine ⟨_, rfl, (onum_any _ g 2 _ _ w4 O4).mono ?_⟩
    rintro e w5 ⟨rfl, O5, g5⟩
    rw [e8] at O5
    have x2 : Blk w2 w.heap.size 54 [.int .i64 0, .int .i64 0, .slice none 0 0] := (hb2.block _ (by omega)).trans hb1
    have fg : ∀ {a b : World} {cs : List Value}, Blk a w.heap.size 54 cs → a.grownBy b (some g) → Blk b w.heap.size 54 cs := fun x hg => (hg.block _ x.lt (fun e => by injection e; omega)).trans x
    have y2 := hB1.trans (hb2.mono (by omega))
    have s2 := y2.size
    have y3 := y2.grown g3 y2.size (fun k e => by injection e; omega)
    have y4 := y3.grown g4 y3.size (fun k e => by injection e; omega)
    have y5 := y4.grown g5 y4.size (fun k e => by injection e; omega)
    exact ⟨_, rfl, err_any _ g _ 8 w5 O5, fg (fg (fg x2 g3) g4) g5, y5⟩
  clear hW1 hB1 hb1 NR e8 hr
  go_enter Try.func28, Try.ntmps28
  go_upto_region 1 with (fail)
  rw [HW.out]
  clear HW
  go_wp2_with (first
    | (go_at_call 89; ((with_reducible refine N.out.mono ?_); rintro e w2 ⟨g, rfl, n2⟩; have N2 := Lib.hid n2; clear n2))
    | (go_at_call 90; ((with_reducible refine N2.out.mono ?_); rintro e w3 ⟨v1, rfl, n3⟩; have N3 := Lib.hid n3; clear n3))
    | (go_at_call 90; ((with_reducible refine N3.out.mono ?_); rintro e w4 ⟨v2, rfl, n4⟩; have N4 := Lib.hid n4; clear n4))
    | (go_at_call 90; ((with_reducible refine N4.out.mono ?_); rintro e w5 ⟨v3, rfl, n5, hx, hy⟩; have N5 := Lib.hid n5; have x0 : w5.cell? ⟨w.heap.size, 0, none⟩ = some (.int .i64 0) := hx.cell 0; have x1 : w5.cell? ⟨w.heap.size, 1, none⟩ = some (.int .i64 0) := hx.cell 1; have x2 : w5.cell? ⟨w.heap.size, 2, none⟩ = some (.slice none 0 0) := hx.cell 2; have f0 := hx.frozen 0; have f1 := hx.frozen 1; have f2 := hx.frozen 2; have HX := Lib.hid hx; have HY := Lib.hid hy; clear n5 hx hy))
    | (go_at_call 91; ((with_reducible refine N5.out.mono ?_); rintro e w6 ⟨rfl, rfl⟩)))
  refine bodyPost_ret (v := .tuple #[.agg #[.int .i64 0, .int .i64 0, .slice none 0 0], .int .i64 8]) (by simp [results, Try.results28, go_sem, x0, x1, x2, f0, f1, f2]) rfl ⟨rfl, ?_⟩
  exact ((HY.out.setCell (Nat.le_refl _) _).setCell (Nat.le_refl _) _).setCell (Nat.le_refl _) _
end Go.Proofs.Ytonbdcajepmgbaa
namespace Go.Proofs.Ytonbdcajepmgbaa
open Go.RowKit
set_option maxRecDepth 100000
set_option maxHeartbeats 4000000
set_option linter.unusedSimpArgs false
set_option linter.unusedVariables false

def upBox : List Value := [.int .i64 0, .int .i64 0, .slice none 0 0]
def UpTake (w : World) (g : Nat) (l : List UInt8) (w5 : World) : Prop := ∀ z : Int, Calls Try.prog 92 #[.pointer (some ⟨g, 0, none⟩), .int .i64 z] w5 fun e w6 => ∃ D m c, e = .returned (.slice D m c) ∧ Own w6 (w.heap.size + 1) (.slice D m c) (tkOut (l.drop 4) 0 z) ∧
  (Calls Try.prog 91 #[.pointer (some ⟨g, 0, none⟩)] w6 fun e w7 => e = .returned (.int .i64 (tkErr (l.drop 4) 0 z)) ∧ w6 = w7) ∧ Blk w6 w.heap.size 54 upBox ∧ Below w.heap.size w w6
def UpHead (w W1 : World) (A : Option Addr) (n c : Nat) (l : List UInt8) : Prop := Calls Try.prog 89 #[.slice A n c] W1 fun e w2 => ∃ g, e = .returned (.pointer (some ⟨g, 0, none⟩)) ∧
      Calls Try.prog 90 #[.pointer (some ⟨g, 0, none⟩), .int .i64 1] w2 fun e w3 => e = .returned (.int .u64 (num l 1)) ∧
        Calls Try.prog 90 #[.pointer (some ⟨g, 0, none⟩), .int .i64 1] w3 fun e w4 => e = .returned (.int .u64 (num (l.drop 1) 1)) ∧
          Calls Try.prog 90 #[.pointer (some ⟨g, 0, none⟩), .int .i64 2] w4 fun e w5 => e = .returned (.int .u64 (upN l)) ∧
            (Calls Try.prog 91 #[.pointer (some ⟨g, 0, none⟩)] w5 fun e w6 => e = .returned (.int .i64 0) ∧ w5 = w6) ∧ UpTake w g l w5 ∧
            Blk w5 w.heap.size 54 upBox ∧ Below w.heap.size w w5
theorem up_head (A : Option Addr) (n c B : Nat) (l : List UInt8) (w : World) (hr : Rd w B A n l) (hB : B ≤ w.heap.size) (hn : n ≤ 140737488420864) (h4 : 4 ≤ l.length) :
    UpHead w (w.alloc (.cells #[.int .i64 0, .int .i64 0, .slice none 0 0] 54)) A n c l := by
  obtain ⟨W1, hW1⟩ : ∃ W1, W1 = w.alloc (.cells #[.int .i64 0, .int .i64 0, .slice none 0 0] 54) := ⟨_, rfl⟩
  have hs1 : W1.heap.size = w.heap.size + 1 := by rw [hW1]; simp
  have hB1 : Below w.heap.size w W1 := by rw [hW1]; exact (Below.refl _ _).alloc (Nat.le_refl _) _
  have hb1 : Blk W1 w.heap.size 54 upBox := by rw [hW1]; exact blk_new w _ _
  rw [← hW1]
  have NR := newreader_any A n c B l W1 (hr.below (hB1.mono hB)) (by omega) hn
  rcases three l with ⟨h, _⟩ | ⟨_, e1, e2, e3, e4, e5, e6, e7, e8, e9⟩
  · omega
  refine NR.mono ?_
  rintro e w2 ⟨g, rfl, hg1, hg2, hb2, hO⟩
  have O2 := hO w2 none (World.grownBy.refl _ _) (fun q e => by cases e)
  refine ⟨g, rfl, (onum_any _ g 1 l 0 w2 O2).mono ?_⟩
  rw [e1, e2, e3]
  rintro e w3 ⟨rfl, O3, g3⟩
  refine ⟨rfl, (onum_any _ g 1 _ _ w3 O3).mono ?_⟩
  rw [e4, e5, e6]
  rintro e w4 ⟨rfl, O4, g4⟩
  refine ⟨rfl, (onum_any _ g 2 _ _ w4 O4).mono ?_⟩
  rw [e7, e8, e9]
  rintro e w5 ⟨rfl, O5, g5⟩
  have x2 : Blk w2 w.heap.size 54 upBox := (hb2.block _ (by omega)).trans hb1
  have fg : ∀ {a b : World} {cs : List Value}, Blk a w.heap.size 54 cs → a.grownBy b (some g) → Blk b w.heap.size 54 cs := fun x hg => (hg.block _ x.lt (fun e => by injection e; omega)).trans x
  have y2 := hB1.trans (hb2.mono (by omega))
  have y3 := y2.grown g3 y2.size (fun k e => by injection e; omega)
  have y4 := y3.grown g4 y3.size (fun k e => by injection e; omega)
  have y5 := y4.grown g5 y4.size (fun k e => by injection e; omega)
  have x5 := fg (fg (fg x2 g3) g4) g5
  refine ⟨rfl, err_any _ g _ 0 w5 O5, ?_, x5, y5⟩
  intro z
  refine (take_any _ g z _ 0 w5 O5).mono ?_
  rintro e w6 ⟨v, rfl, ho, O6, g6⟩
  obtain ⟨D, m, cc, rfl⟩ : ∃ D m cc, v = .slice D m cc := by
    rcases ho.form with ⟨rfl, _⟩ | ⟨q, cap, rfl, _⟩
    · exact ⟨_, _, _, rfl⟩
    · exact ⟨_, _, _, rfl⟩
  have ho' : Own w6 (w.heap.size + 1) (.slice D m cc) (tkOut (l.drop 4) 0 z) := by
    refine ⟨ho.1, ?_⟩
    rcases ho.2 with h | ⟨g', cap, cur, h1, h2, h3⟩
    · exact .inl h
    · exact .inr ⟨g', cap, cur, h1, by have := x5.lt; omega, h3⟩
  exact ⟨_, _, _, rfl, ho', err_any _ g _ _ w6 O6, fg x5 g6, y5.grown g6 y5.size (fun k e => by injection e; omega)⟩
theorem num_256 (l : List UInt8) : 0 ≤ num l 1 ∧ num l 1 ≤ 255 := by
  have h1 := num_lo l 1
  have h2 := num_hi l 1
  omega
theorem upN_bd (l : List UInt8) : 0 ≤ upN l ∧ upN l ≤ 65535 := by
  have h1 := num_lo (l.drop 2) 2
  have h2 := num_hi (l.drop 2) 2
  unfold upN
  omega
def UpPost (w : World) (C I : Int) (l : List UInt8) (E : Int) (e : Ending) (w' : World) : Prop := ∃ P, e = .returned (.tuple #[P, .int .i64 E]) ∧ Below w.heap.size w w' ∧
  (E ≠ 0 → P = .agg #[.int .i64 0, .int .i64 0, .slice none 0 0]) ∧ (E = 0 → ∃ D m cc, P = .agg #[.int .i64 C, .int .i64 I, .slice D m cc] ∧ Own w' w.heap.size (.slice D m cc) ((l.drop 4).take (upN l - 4).toNat))
theorem unpack_long (A : Option Addr) (n c B : Nat) (l : List UInt8) (w : World) (hr : Rd w B A n l) (hB : B ≤ w.heap.size) (hn : n ≤ 140737488420864) (h4 : 4 ≤ l.length) (C I : Int) (hC : num l 1 = C) (hI : num (l.drop 1) 1 = I) :
    Calls Try.prog 28 #[.slice A n c] w fun e w' => UpPost w C I l (upE l) e w' := by
  have hz : ∀ W, (zeroValue 54).run Try.prog W = .ok (.agg #[.int .i64 0, .int .i64 0, .slice none 0 0]) W := fun W => by kernel_rfl
  have H := up_head A n c B l w hr hB hn h4
  have hb := upN_bd l
  obtain ⟨cb1, cb2⟩ := num_256 l
  obtain ⟨ib1, ib2⟩ := num_256 (l.drop 1)
  obtain ⟨N, hN⟩ : ∃ N, upN l = N := ⟨_, rfl⟩
  have hE : upE l = if N < 4 ∨ 16384 < N then 4 else if (l.length : Int) < N then 8 else 0 := by
    unfold upE
    rw [if_neg (by omega), hN]
  rw [hE]
  unfold UpHead at H
  rw [hC, hI, hN] at H
  rw [hC] at cb1 cb2
  rw [hI] at ib1 ib2
  rw [hN] at hb
  obtain ⟨nb1, nb2⟩ := hb
  have HH := Lib.hid H
  have HNN := Lib.hid hN
  clear H hN hC hI hr hE
  by_cases hbad : N < 4 ∨ 16384 < N
  · rw [if_pos hbad]
    have tb : N - 4 < 0 ∨ (¬ N - 4 < 0 ∧ 16380 < N - 4) := by omega
    have fin : ∀ w5, Below w.heap.size w w5 → UpPost w C I l 4 (.returned (.tuple #[.agg #[.int .i64 0, .int .i64 0, .slice none 0 0], .int .i64 4])) (((w5.setCell ⟨w.heap.size, 0, none⟩ (.int .i64 0)).setCell ⟨w.heap.size, 1, none⟩ (.int .i64 0)).setCell ⟨w.heap.size, 2, none⟩ (.slice none 0 0)) :=
      fun w5 hb => ⟨_, rfl, ((hb.setCell (Nat.le_refl _) _).setCell (Nat.le_refl _) _).setCell (Nat.le_refl _) _, fun _ => rfl, fun h => by omega⟩
    have FIN := Lib.hid fin
    clear fin hbad
    rcases tb with t1 | ⟨t1, t2⟩
    all_goals
      go_enter Try.func28, Try.ntmps28
      go_wp2_with (first
        | (go_at_call 89; ((with_reducible refine HH.out.mono ?_); rintro e w2 ⟨g, rfl, n2⟩; have N2 := Lib.hid n2; clear n2))
        | (go_at_call 90; ((with_reducible refine N2.out.mono ?_); rintro e w3 ⟨rfl, n3⟩; have N3 := Lib.hid n3; clear n3))
        | (go_at_call 90; ((with_reducible refine N3.out.mono ?_); rintro e w4 ⟨rfl, n4⟩; have N4 := Lib.hid n4; clear n4))
        | (go_at_call 90; ((with_reducible refine N4.out.mono ?_); rintro e w5 ⟨rfl, n5, -, hx, hy⟩; have N5 := Lib.hid n5; have x0 : w5.cell? ⟨w.heap.size, 0, none⟩ = some (.int .i64 0) := hx.cell 0; have x1 : w5.cell? ⟨w.heap.size, 1, none⟩ = some (.int .i64 0) := hx.cell 1; have x2 : w5.cell? ⟨w.heap.size, 2, none⟩ = some (.slice none 0 0) := hx.cell 2; have f0 := hx.frozen 0; have f1 := hx.frozen 1; have f2 := hx.frozen 2; have HY := Lib.hid hy; clear n5 hx hy))
        | (go_at_call 91; ((with_reducible refine N5.out.mono ?_); rintro e w6 ⟨rfl, rfl⟩)))
      exact bodyPost_ret (v := .tuple #[.agg #[.int .i64 0, .int .i64 0, .slice none 0 0], .int .i64 4]) (by simp [results, Try.results28, go_sem, x0, x1, x2, f0, f1, f2]) rfl (FIN.out _ HY.out)
  · rw [if_neg hbad]
    have t1 : ¬ N - 4 < 0 := by omega
    have t2 : ¬ 16380 < N - 4 := by omega
    have hld : (l.drop 4).length = l.length - 4 := List.length_drop
    clear hbad
    by_cases hcut : (l.length : Int) < N
    · rw [if_pos hcut]
      have te : tkErr (l.drop 4) 0 (N - 4) = 8 := by
        unfold tkErr
        rw [if_neg (by omega), if_neg t1, if_pos (by omega)]
      have TE := Lib.hid te
      have TO : Hid (tkOut (l.drop 4) 0 (N - 4) = []) := by
        show _ = _
        unfold tkOut
        rw [if_neg (by rw [te]; omega)]
      have fin : ∀ w5, Below w.heap.size w w5 → UpPost w C I l 8 (.returned (.tuple #[.agg #[.int .i64 0, .int .i64 0, .slice none 0 0], .int .i64 8])) (((w5.setCell ⟨w.heap.size, 0, none⟩ (.int .i64 0)).setCell ⟨w.heap.size, 1, none⟩ (.int .i64 0)).setCell ⟨w.heap.size, 2, none⟩ (.slice none 0 0)) :=
        fun w5 hb => ⟨_, rfl, ((hb.setCell (Nat.le_refl _) _).setCell (Nat.le_refl _) _).setCell (Nat.le_refl _) _, fun _ => rfl, fun h => by omega⟩
      have FIN := Lib.hid fin
      clear fin te hcut hld
      go_enter Try.func28, Try.ntmps28
      go_wp2_with (first
        | (go_at_call 89; ((with_reducible refine HH.out.mono ?_); rintro e w2 ⟨g, rfl, n2⟩; have N2 := Lib.hid n2; clear n2))
        | (go_at_call 90; ((with_reducible refine N2.out.mono ?_); rintro e w3 ⟨rfl, n3⟩; have N3 := Lib.hid n3; clear n3))
        | (go_at_call 90; ((with_reducible refine N3.out.mono ?_); rintro e w4 ⟨rfl, n4⟩; have N4 := Lib.hid n4; clear n4))
        | (go_at_call 90; ((with_reducible refine N4.out.mono ?_); rintro e w5 ⟨rfl, n5, n6, -, -⟩; have N5 := Lib.hid n5; have N6 := Lib.hid (n6 (N - 4)); clear n5 n6))
        | (go_at_call 91; ((with_reducible refine N5.out.mono ?_); rintro e w6 ⟨rfl, rfl⟩))
        | (go_at_call 92; ((with_reducible refine N6.out.mono ?_); rintro e w6 ⟨D, m, cc, rfl, ho, n7, hx, hy⟩; rw [TE.out] at n7; rw [TO.out] at ho; have N7 := Lib.hid n7; have HO := Lib.hid ho; have x0 : w6.cell? ⟨w.heap.size, 0, none⟩ = some (.int .i64 0) := hx.cell 0; have x1 : w6.cell? ⟨w.heap.size, 1, none⟩ = some (.int .i64 0) := hx.cell 1; have x2 : w6.cell? ⟨w.heap.size, 2, none⟩ = some (.slice none 0 0) := hx.cell 2; have f0 := hx.frozen 0; have f1 := hx.frozen 1; have f2 := hx.frozen 2; have HY := Lib.hid hy; clear n7 ho hx hy))
        | (go_at_call 91; ((with_reducible refine N7.out.mono ?_); rintro e w7 ⟨rfl, rfl⟩)))
      exact bodyPost_ret (v := .tuple #[.agg #[.int .i64 0, .int .i64 0, .slice none 0 0], .int .i64 8]) (by simp [results, Try.results28, go_sem, x0, x1, x2, f0, f1, f2]) rfl (FIN.out _ HY.out)
    · rw [if_neg hcut]
      have te : tkErr (l.drop 4) 0 (N - 4) = 0 := by
        unfold tkErr
        rw [if_neg (by omega), if_neg t1, if_neg (by omega)]
      have TE := Lib.hid te
      have TO : Hid (tkOut (l.drop 4) 0 (N - 4) = (l.drop 4).take (upN l - 4).toNat) := by
        show _ = _
        unfold tkOut
        rw [if_pos te, HNN.out]
      have fin : ∀ w5 D m cc, Below w.heap.size w w5 → Own w5 (w.heap.size + 1) (.slice D m cc) ((l.drop 4).take (upN l - 4).toNat) → UpPost w C I l 0 (.returned (.tuple #[.agg #[.int .i64 C, .int .i64 I, .slice D m cc], .int .i64 0])) (((w5.setCell ⟨w.heap.size, 0, none⟩ (.int .i64 C)).setCell ⟨w.heap.size, 1, none⟩ (.int .i64 I)).setCell ⟨w.heap.size, 2, none⟩ (.slice D m cc)) := by
        intro w5 D m cc hb ho
        have hne : (Value.slice D m cc).ownBlock = none ∨ (Value.slice D m cc).ownBlock ≠ some w.heap.size := by
          rcases e : (Value.slice D m cc).ownBlock with _ | q
          · exact .inl rfl
          · have := ho.block q e
            exact .inr (fun e => by injection e; omega)
        refine ⟨_, rfl, ((hb.setCell (Nat.le_refl _) _).setCell (Nat.le_refl _) _).setCell (Nat.le_refl _) _, fun h => absurd rfl h, fun _ => ⟨D, m, cc, rfl, ?_⟩⟩
        have h3 := ((ho.grown (only_set (p := ⟨w.heap.size, 0, none⟩) (.int .i64 C)) hne).grown (only_set (p := ⟨w.heap.size, 1, none⟩) (.int .i64 I)) hne).grown (only_set (p := ⟨w.heap.size, 2, none⟩) (.slice D m cc)) hne
        refine ⟨h3.1, ?_⟩
        rcases h3.2 with h | ⟨g', cap, cur, h1, h2, h3⟩
        · exact .inl h
        · exact .inr ⟨g', cap, cur, h1, by omega, h3⟩
      have FIN := Lib.hid fin
      clear fin te hcut hld
      go_enter Try.func28, Try.ntmps28
      go_wp2_with (first
        | (go_at_call 89; ((with_reducible refine HH.out.mono ?_); rintro e w2 ⟨g, rfl, n2⟩; have N2 := Lib.hid n2; clear n2))
        | (go_at_call 90; ((with_reducible refine N2.out.mono ?_); rintro e w3 ⟨rfl, n3⟩; have N3 := Lib.hid n3; clear n3))
        | (go_at_call 90; ((with_reducible refine N3.out.mono ?_); rintro e w4 ⟨rfl, n4⟩; have N4 := Lib.hid n4; clear n4))
        | (go_at_call 90; ((with_reducible refine N4.out.mono ?_); rintro e w5 ⟨rfl, n5, n6, -, -⟩; have N5 := Lib.hid n5; have N6 := Lib.hid (n6 (N - 4)); clear n5 n6))
        | (go_at_call 91; ((with_reducible refine N5.out.mono ?_); rintro e w6 ⟨rfl, rfl⟩))
        | (go_at_call 92; ((with_reducible refine N6.out.mono ?_); rintro e w6 ⟨D, m, cc, rfl, ho, n7, hx, hy⟩; rw [TE.out] at n7; rw [TO.out] at ho; have N7 := Lib.hid n7; have HO := Lib.hid ho; have x0 : w6.cell? ⟨w.heap.size, 0, none⟩ = some (.int .i64 0) := hx.cell 0; have x1 : w6.cell? ⟨w.heap.size, 1, none⟩ = some (.int .i64 0) := hx.cell 1; have x2 : w6.cell? ⟨w.heap.size, 2, none⟩ = some (.slice none 0 0) := hx.cell 2; have f0 := hx.frozen 0; have f1 := hx.frozen 1; have f2 := hx.frozen 2; have HY := Lib.hid hy; clear n7 ho hx hy))
        | (go_at_call 91; ((with_reducible refine N7.out.mono ?_); rintro e w7 ⟨rfl, rfl⟩)))
      exact bodyPost_ret (v := .tuple #[.agg #[.int .i64 C, .int .i64 I, .slice D m cc], .int .i64 0]) (by simp [results, Try.results28, go_sem, x0, x1, x2, f0, f1, f2]) rfl (FIN.out _ _ _ _ HY.out HO.out)
end Go.Proofs.Ytonbdcajepmgbaa
namespace Go.Proofs.Ytonbdcajepmgbaa
open Go.RowKit
set_option maxRecDepth 100000
set_option maxHeartbeats 4000000
set_option linter.unusedSimpArgs false
set_option linter.unusedVariables false

theorem up_few {l : List UInt8} (h : l.length < 4) : upE l = 8 := if_pos h
theorem unpack_any (A : Option Addr) (n c B : Nat) (l : List UInt8) (w : World) (hr : Rd w B A n l) (hB : B ≤ w.heap.size) (hn : n ≤ 140737488420864) :
    Calls Try.prog 28 #[.slice A n c] w fun e w' => UpPost w (num l 1) (num (l.drop 1) 1) l (upE l) e w' := by
  by_cases h4 : 4 ≤ l.length
  · exact unpack_long A n c B l w hr hB hn h4 _ _ rfl rfl
  · rw [up_few (by omega)]
    refine (unpack_short A n c B l w hr hB hn (by omega)).mono ?_
    rintro e w' ⟨rfl, hb⟩
    exact ⟨_, rfl, hb, fun _ => rfl, fun h => by omega⟩
end Go.Proofs.Ytonbdcajepmgbaa
namespace Go.Proofs.Ytonbdcajepmgbaa
open Go.RowKit
set_option maxRecDepth 100000
set_option maxHeartbeats 4000000
set_option linter.unusedSimpArgs false
set_option linter.unusedVariables false

theorem OctAt.newer {w w' : World} {B g : Nat} {r : List UInt8} {e : Int} {row : Option Nat} (h : OctAt w B g r e) (hG : w.grownBy w' row) (hr : ∀ q, row = some q → B ≤ q) : OctAt w' B g r e := ⟨h.1.newer hG hr, h.2⟩
def RdPost (w : World) (B g : Nat) (K : Int) (d rest : List UInt8) (e : Ending) (w' : World) : Prop := ∃ D m c, e = .returned (.tuple #[.agg #[.int .i64 K, .slice D m c], .int .i64 0]) ∧ Own w' (w.heap.size + 1) (.slice D m c) d ∧ OctAt w' B g rest 0 ∧ w.grownBy w' (some g)
theorem read_good (B g : Nat) (r : List UInt8) (K : Int) (z : Nat) (w : World) (h : OctAt w B g r 0) (hg : g < w.heap.size) (h2 : 2 ≤ r.length) (hK : num r 1 = K) (hZ : num (r.drop 1) 1 = ((z + 2 : Nat) : Int)) (hz : z + 2 ≤ r.length) :
    Calls Try.prog 94 #[.pointer (some ⟨g, 0, none⟩)] w fun e w' => RdPost w B g K ((r.drop 2).take z) (r.drop (z + 2)) e w' := by
  have hzv : ∀ W, (zeroValue 70).run Try.prog W = .ok (.agg #[.int .i64 0, .slice none 0 0]) W := fun W => by kernel_rfl
  obtain ⟨kb1, kb2⟩ := num_256 r
  rw [hK] at kb1 kb2
  have zb := (num_256 (r.drop 1)).2
  rw [hZ] at zb
  obtain ⟨W1, hW1⟩ : ∃ W1, W1 = w.alloc (.cells #[.int .i64 0, .slice none 0 0] 70) := ⟨_, rfl⟩
  have hs1 : W1.heap.size = w.heap.size + 1 := by rw [hW1]; simp
  have hB1 : Below w.heap.size w W1 := by rw [hW1]; exact (Below.refl _ _).alloc (Nat.le_refl _) _
  have hb1 : Blk W1 w.heap.size 70 [.int .i64 0, .slice none 0 0] := by rw [hW1]; exact blk_new w _ _
  have hBw := h.1.size
  have O1 : OctAt W1 B g r 0 := h.later hB1
  obtain ⟨a1, a2, a3⟩ := nm_ok (r := r) (n := 1) (by omega) (by omega) (by omega)
  obtain ⟨b1, b2, b3⟩ := nm_ok (r := r.drop 1) (n := 1) (by omega) (by omega) (by rw [List.length_drop]; omega)
  rw [List.drop_drop] at b3
  have t1 : tkErr (r.drop 2) 0 (z : Int) = 0 := by
    unfold tkErr
    rw [if_neg (by omega), if_neg (by omega), if_neg (by rw [List.length_drop]; omega)]
  have t2 : tkOut (r.drop 2) 0 (z : Int) = (r.drop 2).take z := by
    unfold tkOut
    rw [if_pos t1, Int.toNat_natCast]
  have t3 : tkRest (r.drop 2) 0 (z : Int) = r.drop (z + 2) := by
    unfold tkRest
    rw [if_pos t1, Int.toNat_natCast, List.drop_drop]
    congr 1
    omega
  have fg : ∀ {a b : World} {cs : List Value}, Blk a w.heap.size 70 cs → a.grownBy b (some g) → Blk b w.heap.size 70 cs := fun x hg2 => (hg2.block _ x.lt (fun e => by injection e; omega)).trans x
  have N : Hid (Calls Try.prog 90 #[.pointer (some ⟨g, 0, none⟩), .int .i64 1] W1 fun e w2 => e = .returned (.int .u64 K) ∧
      Calls Try.prog 90 #[.pointer (some ⟨g, 0, none⟩), .int .i64 1] w2 fun e w3 => e = .returned (.int .u64 ((z + 2 : Nat) : Int)) ∧
        (Calls Try.prog 91 #[.pointer (some ⟨g, 0, none⟩)] w3 fun e w4 => e = .returned (.int .i64 0) ∧ w3 = w4) ∧
        Calls Try.prog 92 #[.pointer (some ⟨g, 0, none⟩), .int .i64 (z : Int)] w3 fun e w4 => ∃ D m c, e = .returned (.slice D m c) ∧
          (Calls Try.prog 91 #[.pointer (some ⟨g, 0, none⟩)] w4 fun e w5 => e = .returned (.int .i64 0) ∧ w4 = w5) ∧
          Blk w4 w.heap.size 70 [.int .i64 0, .slice none 0 0] ∧ RdPost w B g K ((r.drop 2).take z) (r.drop (z + 2)) (.returned (.tuple #[.agg #[.int .i64 K, .slice D m c], .int .i64 0])) ((w4.setCell ⟨w.heap.size, 0, none⟩ (.int .i64 K)).setCell ⟨w.heap.size, 1, none⟩ (.slice D m c))) := by
    refine (onum_any B g 1 r 0 W1 O1).mono ?_
    rw [show nmVal r 0 1 = K from a2.trans hK, show nmErr r 0 1 = 0 from a1, show nmRest r 0 1 = r.drop 1 from a3]
    rintro e w2 ⟨rfl, O2, g2⟩
    refine ⟨rfl, (onum_any B g 1 _ 0 w2 O2).mono ?_⟩
    rw [show nmVal (r.drop 1) 0 1 = _ from b2.trans hZ, show nmErr (r.drop 1) 0 1 = 0 from b1, show nmRest (r.drop 1) 0 1 = r.drop 2 from b3]
    rintro e w3 ⟨rfl, O3, g3⟩
    refine ⟨rfl, err_any B g _ 0 w3 O3, (take_any B g (z : Int) _ 0 w3 O3).mono ?_⟩
    rw [t1, t2, t3]
    rintro e w4 ⟨v, rfl, ho, O4, g4⟩
    obtain ⟨D, m, cc, rfl⟩ : ∃ D m cc, v = .slice D m cc := by
      rcases ho.form with ⟨rfl, _⟩ | ⟨q, cap, rfl, _⟩
      · exact ⟨_, _, _, rfl⟩
      · exact ⟨_, _, _, rfl⟩
    have x3 := fg (fg hb1 g2) g3
    have x4 := fg x3 g4
    have ho' : Own w4 (w.heap.size + 1) (.slice D m cc) ((r.drop 2).take z) := by
      refine ⟨ho.1, ?_⟩
      rcases ho.2 with h | ⟨g', cap, cur, h1, h2, h3⟩
      · exact .inl h
      · exact .inr ⟨g', cap, cur, h1, by have := x3.lt; omega, h3⟩
    have hne : (Value.slice D m cc).ownBlock = none ∨ (Value.slice D m cc).ownBlock ≠ some w.heap.size := by
      rcases e : (Value.slice D m cc).ownBlock with _ | q
      · exact .inl rfl
      · have := ho'.block q e
        exact .inr (fun e => by injection e; omega)
    have st : w4.grownBy ((w4.setCell ⟨w.heap.size, 0, none⟩ (.int .i64 K)).setCell ⟨w.heap.size, 1, none⟩ (.slice D m cc)) (some w.heap.size) :=
      only_then (only_set (p := ⟨w.heap.size, 0, none⟩) _) (only_set (p := ⟨w.heap.size, 1, none⟩) _) (fun g e => .inl e)
    have gW : w.grownBy w4 (some g) := by
      have y1 : w.grownBy W1 (some g) := only_of_below hB1 _
      have y2 := only_then y1 g2 (fun q e => .inl e)
      have y3 := only_then y2 g3 (fun q e => .inl e)
      exact only_then y3 g4 (fun q e => .inl e)
    refine ⟨D, m, cc, rfl, err_any B g _ 0 w4 O4, x4, D, m, cc, rfl, ho'.grown st hne, O4.newer st (fun q e => by injection e; omega), only_then gW st (fun q e => .inr (by injection e; omega))⟩
  have HW : Hid (w.alloc (.cells #[.int .i64 0, .slice none 0 0] 70) = W1) := hW1.symm
  have HZ : Hid (((z + 2 : Nat) : Int) - 2 = (z : Int)) := by show _ = _; omega
  have zi : ((z + 2 : Nat) : Int) = (z : Int) + 2 := by omega
  rw [zi] at N
  clear hW1 hB1 hb1 O1 a1 a2 a3 b1 b2 b3 t1 t2 t3 h hK hZ zi
  go_enter Try.func94, Try.ntmps94
  go_upto_region 1 with (fail)
  rw [HW.out]
  clear HW
  go_wp2_with (first
    | (go_at_call 90; ((with_reducible refine N.out.mono ?_); rintro e w2 ⟨rfl, n2⟩; have N2 := Lib.hid n2; clear n2))
    | (go_at_call 90; ((with_reducible refine N2.out.mono ?_); rintro e w3 ⟨rfl, n3, n4⟩; have N3 := Lib.hid n3; have N4 := Lib.hid n4; clear n3 n4))
    | (go_at_call 91; ((with_reducible refine N3.out.mono ?_); rintro e w4 ⟨rfl, rfl⟩))
    | (go_at_call 92; ((with_reducible refine N4.out.mono ?_); rintro e w4 ⟨D, m, c, rfl, n5, hx, hp⟩; have x0 : w4.cell? ⟨w.heap.size, 0, none⟩ = some (.int .i64 0) := hx.cell 0; have x1 : w4.cell? ⟨w.heap.size, 1, none⟩ = some (.slice none 0 0) := hx.cell 1; have f0 := hx.frozen 0; have f1 := hx.frozen 1; have N5 := Lib.hid n5; have P := Lib.hid hp; clear n5 hx hp))
    | (go_at_call 91; ((with_reducible refine N5.out.mono ?_); rintro e w5 ⟨rfl, rfl⟩)))
  exact bodyPost_ret (v := .tuple #[.agg #[.int .i64 K, .slice D m c], .int .i64 0]) (by simp [results, Try.results94, go_sem, x0, x1, f0, f1]) rfl P.out
end Go.Proofs.Ytonbdcajepmgbaa
