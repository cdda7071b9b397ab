/-
  opt.Unpack: the packet that bytes begin with.
-/
import Derived.Test.YtnhadkmbekgfbaaNewReader
import Derived.Outline
import Derived.Deep.Cut
namespace Go.Proofs.Ytnhadkmbekgfbaa
open Go.RowKit
set_option maxRecDepth 100000
set_option maxHeartbeats 4000000
set_option linter.unusedSimpArgs false
set_option linter.unusedVariables false

/-- the length that bytes say -/
def upN (l : List UInt8) : Int := num (l.drop 2) 2
def upE (l : List UInt8) : Int := if l.length < 4 then 8 else if upN l < 4 ∨ 16384 < upN l then 4 else if (l.length : Int) < upN l then 8 else 0
theorem nm_ok {r : List UInt8} {n : Nat} (hn : 1 ≤ n) (hn8 : n ≤ 8) (h : n ≤ r.length) : nmErr r 0 n = 0 ∧ nmVal r 0 n = num r n ∧ nmRest r 0 n = r.drop n := by
  have e : nmErr r 0 n = 0 := by
    unfold nmErr
    rw [if_neg (by omega), if_neg (by omega), if_neg (by omega)]
  refine ⟨e, ?_, ?_⟩
  · unfold nmVal
    rw [if_pos e, Int.toNat_natCast]
  · unfold nmRest
    rw [if_pos e, Int.toNat_natCast]
theorem nm_short {r : List UInt8} {n : Nat} (hn : 1 ≤ n) (hn8 : n ≤ 8) (h : r.length < n) : nmErr r 0 n = 8 ∧ nmVal r 0 n = 0 ∧ nmRest r 0 n = [] := by
  have e : nmErr r 0 n = 8 := by
    unfold nmErr
    rw [if_neg (by omega), if_neg (by omega), if_pos (by omega)]
  refine ⟨e, ?_, ?_⟩
  · unfold nmVal
    rw [if_neg (by rw [e]; omega)]
  · unfold nmRest
    rw [if_neg (by rw [e]; omega)]
theorem nm_err {r : List UInt8} {n : Int} : nmErr r 8 n = 8 ∧ nmVal r 8 n = 0 ∧ nmRest r 8 n = [] := by
  have e : nmErr r 8 n = 8 := by
    unfold nmErr
    rw [if_pos (by omega)]
  refine ⟨e, ?_, ?_⟩
  · unfold nmVal
    rw [if_neg (by rw [e]; omega)]
  · unfold nmRest
    rw [if_neg (by rw [e]; omega)]
/-- three numbers behind one another -/
theorem three (l : List UInt8) : (l.length < 4 ∧ nmErr (nmRest (nmRest l 0 1) (nmErr l 0 1) 1) (nmErr (nmRest l 0 1) (nmErr l 0 1) 1) 2 = 8) ∨
    (4 ≤ l.length ∧ nmErr l 0 1 = 0 ∧ nmRest l 0 1 = l.drop 1 ∧ nmVal l 0 1 = num l 1 ∧ nmErr (l.drop 1) 0 1 = 0 ∧ nmRest (l.drop 1) 0 1 = l.drop 2 ∧ nmVal (l.drop 1) 0 1 = num (l.drop 1) 1 ∧
      nmErr (l.drop 2) 0 2 = 0 ∧ nmRest (l.drop 2) 0 2 = l.drop 4 ∧ nmVal (l.drop 2) 0 2 = num (l.drop 2) 2) := by
  by_cases h4 : l.length < 4
  · refine .inl ⟨h4, ?_⟩
    by_cases h1 : 1 ≤ l.length
    · obtain ⟨a1, _, a3⟩ := nm_ok (n := 1) (by omega) (by omega) h1
      have b1 : nmErr l 0 1 = 0 := a1
      have b3 : nmRest l 0 1 = l.drop 1 := a3
      rw [b1, b3]
      by_cases h2 : 2 ≤ l.length
      · obtain ⟨c1, _, c3⟩ := nm_ok (r := l.drop 1) (n := 1) (by omega) (by omega) (by rw [List.length_drop]; omega)
        have d1 : nmErr (l.drop 1) 0 1 = 0 := c1
        have d3 : nmRest (l.drop 1) 0 1 = (l.drop 1).drop 1 := c3
        rw [d1, d3]
        exact (nm_short (r := (l.drop 1).drop 1) (n := 2) (by omega) (by omega) (by rw [List.length_drop, List.length_drop]; omega)).1
      · obtain ⟨c1, _, c3⟩ := nm_short (r := l.drop 1) (n := 1) (by omega) (by omega) (by rw [List.length_drop]; omega)
        have d1 : nmErr (l.drop 1) 0 1 = 8 := c1
        rw [d1]
        exact nm_err.1
    · obtain ⟨a1, _, a3⟩ := nm_short (r := l) (n := 1) (by omega) (by omega) (by omega)
      have b1 : nmErr l 0 1 = 8 := a1
      rw [b1, nm_err.1]
      exact nm_err.1
  · obtain ⟨a1, a2, a3⟩ := nm_ok (r := l) (n := 1) (by omega) (by omega) (by omega)
    obtain ⟨b1, b2, b3⟩ := nm_ok (r := l.drop 1) (n := 1) (by omega) (by omega) (by rw [List.length_drop]; omega)
    obtain ⟨c1, c2, c3⟩ := nm_ok (r := l.drop 2) (n := 2) (by omega) (by omega) (by rw [List.length_drop]; omega)
    rw [List.drop_drop] at b3 c3
    exact .inr ⟨by omega, a1, a3, a2, b1, b3, b2, c1, c3, c2⟩
theorem unpack_short (A : Option Addr) (n c B : Nat) (l : List UInt8) (w : World) (hr : Rd w B A n l) (hB : B ≤ w.heap.size) (hn : n ≤ 140737488420864) (h4 : l.length < 4) :
    Calls Try.prog 28 #[.slice A n c] w fun e w' => e = .returned (.tuple #[.agg #[.int .i64 0, .int .i64 0, .slice none 0 0], .int .i64 8]) ∧ Below w.heap.size w w' := by
  have hz : ∀ W, (zeroValue 54).run Try.prog W = .ok (.agg #[.int .i64 0, .int .i64 0, .slice none 0 0]) W := fun W => by kernel_rfl
  obtain ⟨W1, hW1⟩ : ∃ W1, W1 = w.alloc (.cells #[.int .i64 0, .int .i64 0, .slice none 0 0] 54) := ⟨_, rfl⟩
  have hs1 : W1.heap.size = w.heap.size + 1 := by rw [hW1]; simp
  have hB1 : Below w.heap.size w W1 := by rw [hW1]; exact (Below.refl _ _).alloc (Nat.le_refl _) _
  have hb1 : Blk W1 w.heap.size 54 [.int .i64 0, .int .i64 0, .slice none 0 0] := by rw [hW1]; exact blk_new w _ _
  have NR := newreader_any A n c B l W1 (hr.below (hB1.mono hB)) (by omega) hn
  have e8 : nmErr (nmRest (nmRest l 0 1) (nmErr l 0 1) 1) (nmErr (nmRest l 0 1) (nmErr l 0 1) 1) 2 = 8 := by
    rcases three l with ⟨_, h⟩ | ⟨h, _⟩
    · exact h
    · omega
  have HW : Hid (w.alloc (.cells #[.int .i64 0, .int .i64 0, .slice none 0 0] 54) = W1) := hW1.symm
  have N : Hid (Calls Try.prog 89 #[.slice A n c] W1 fun e w2 => ∃ g, e = .returned (.pointer (some ⟨g, 0, none⟩)) ∧
      Calls Try.prog 90 #[.pointer (some ⟨g, 0, none⟩), .int .i64 1] w2 fun e w3 => ∃ v1 : Int, e = .returned (.int .u64 v1) ∧
        Calls Try.prog 90 #[.pointer (some ⟨g, 0, none⟩), .int .i64 1] w3 fun e w4 => ∃ v2 : Int, e = .returned (.int .u64 v2) ∧
          Calls Try.prog 90 #[.pointer (some ⟨g, 0, none⟩), .int .i64 2] w4 fun e w5 => ∃ v3 : Int, e = .returned (.int .u64 v3) ∧
            (Calls Try.prog 91 #[.pointer (some ⟨g, 0, none⟩)] w5 fun e w6 => e = .returned (.int .i64 8) ∧ w5 = w6) ∧
            Blk w5 w.heap.size 54 [.int .i64 0, .int .i64 0, .slice none 0 0] ∧ Below w.heap.size w w5) := by
    refine NR.mono ?_
    rintro e w2 ⟨g, rfl, hg1, hg2, hb2, hO⟩
    have O2 := hO w2 none (World.grownBy.refl _ _) (fun q e => by cases e)
    refine ⟨g, rfl, (onum_any _ g 1 l 0 w2 O2).mono ?_⟩
    rintro e w3 ⟨rfl, O3, g3⟩
    refine ⟨_, rfl, (onum_any _ g 1 _ _ w3 O3).mono ?_⟩
    rintro e w4 ⟨rfl, O4, g4⟩
    refine ⟨_, rfl, (onum_any _ g 2 _ _ w4 O4).mono ?_⟩
    rintro e w5 ⟨rfl, O5, g5⟩
    rw [e8] at O5
    have x2 : Blk w2 w.heap.size 54 [.int .i64 0, .int .i64 0, .slice none 0 0] := (hb2.block _ (by omega)).trans hb1
    have fg : ∀ {a b : World} {cs : List Value}, Blk a w.heap.size 54 cs → a.grownBy b (some g) → Blk b w.heap.size 54 cs := fun x hg => (hg.block _ x.lt (fun e => by injection e; omega)).trans x
    have y2 := hB1.trans (hb2.mono (by omega))
    have s2 := y2.size
    have y3 := y2.grown g3 y2.size (fun k e => by injection e; omega)
    have y4 := y3.grown g4 y3.size (fun k e => by injection e; omega)
    have y5 := y4.grown g5 y4.size (fun k e => by injection e; omega)
    exact ⟨_, rfl, err_any _ g _ 8 w5 O5, fg (fg (fg x2 g3) g4) g5, y5⟩
  clear hW1 hB1 hb1 NR e8 hr
  go_enter Try.func28, Try.ntmps28
  go_upto_region 1 with (fail)
  rw [HW.out]
  clear HW
  go_wp2_with (first
    | (go_at_call 89; ((with_reducible refine N.out.mono ?_); rintro e w2 ⟨g, rfl, n2⟩; have N2 := Lib.hid n2; clear n2))
    | (go_at_call 90; ((with_reducible refine N2.out.mono ?_); rintro e w3 ⟨v1, rfl, n3⟩; have N3 := Lib.hid n3; clear n3))
    | (go_at_call 90; ((with_reducible refine N3.out.mono ?_); rintro e w4 ⟨v2, rfl, n4⟩; have N4 := Lib.hid n4; clear n4))
    | (go_at_call 90; ((with_reducible refine N4.out.mono ?_); rintro e w5 ⟨v3, rfl, n5, hx, hy⟩; have N5 := Lib.hid n5; have x0 : w5.cell? ⟨w.heap.size, 0, none⟩ = some (.int .i64 0) := hx.cell 0; have x1 : w5.cell? ⟨w.heap.size, 1, none⟩ = some (.int .i64 0) := hx.cell 1; have x2 : w5.cell? ⟨w.heap.size, 2, none⟩ = some (.slice none 0 0) := hx.cell 2; have f0 := hx.frozen 0; have f1 := hx.frozen 1; have f2 := hx.frozen 2; have HX := Lib.hid hx; have HY := Lib.hid hy; clear n5 hx hy))
    | (go_at_call 91; ((with_reducible refine N5.out.mono ?_); rintro e w6 ⟨rfl, rfl⟩)))
  refine bodyPost_ret (v := .tuple #[.agg #[.int .i64 0, .int .i64 0, .slice none 0 0], .int .i64 8]) (by simp [results, Try.results28, go_sem, x0, x1, x2, f0, f1, f2]) rfl ⟨rfl, ?_⟩
  exact ((HY.out.setCell (Nat.le_refl _) _).setCell (Nat.le_refl _) _).setCell (Nat.le_refl _) _
end Go.Proofs.Ytnhadkmbekgfbaa
