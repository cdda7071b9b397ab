/-
  opt.read, where an option stands.
-/
import Derived.Test.YtonbdcajepmgbaaDoorOpNm
import Derived.Test.YtonbdcajepmgbaaDoorNewReader
import Derived.Outline
import Derived.Deep.Cut
namespace Go.Proofs.YtonbdcajepmgbaaDoor
open Go.RowKit
set_option maxRecDepth 100000
set_option maxHeartbeats 4000000
set_option linter.unusedSimpArgs false
set_option linter.unusedVariables false

theorem OctAt.newer {w w' : World} {B g : Nat} {r : List UInt8} {e : Int} {row : Option Nat} (h : OctAt w B g r e) (hG : w.grownBy w' row) (hr : ∀ q, row = some q → B ≤ q) : OctAt w' B g r e := ⟨h.1.newer hG hr, h.2⟩
def RdPost (w : World) (B g : Nat) (K : Int) (d rest : List UInt8) (e : Ending) (w' : World) : Prop := ∃ D m c, e = .returned (.tuple #[.agg #[.int .i64 K, .slice D m c], .int .i64 0]) ∧ Own w' (w.heap.size + 1) (.slice D m c) d ∧ OctAt w' B g rest 0 ∧ w.grownBy w' (some g)
theorem read_good (B g : Nat) (r : List UInt8) (K : Int) (z : Nat) (w : World) (h : OctAt w B g r 0) (hg : g < w.heap.size) (h2 : 2 ≤ r.length) (hK : num r 1 = K) (hZ : num (r.drop 1) 1 = ((z + 2 : Nat) : Int)) (hz : z + 2 ≤ r.length) :
    Calls Tryd.prog 36 #[.pointer (some ⟨g, 0, none⟩)] w fun e w' => RdPost w B g K ((r.drop 2).take z) (r.drop (z + 2)) e w' := by
  have hzv : ∀ W, (zeroValue 28).run Tryd.prog W = .ok (.agg #[.int .i64 0, .slice none 0 0]) W := fun W => by kernel_rfl
  obtain ⟨kb1, kb2⟩ := num_256 r
  rw [hK] at kb1 kb2
  have zb := (num_256 (r.drop 1)).2
  rw [hZ] at zb
  obtain ⟨W1, hW1⟩ : ∃ W1, W1 = w.alloc (.cells #[.int .i64 0, .slice none 0 0] 28) := ⟨_, rfl⟩
  have hs1 : W1.heap.size = w.heap.size + 1 := by rw [hW1]; simp
  have hB1 : Below w.heap.size w W1 := by rw [hW1]; exact (Below.refl _ _).alloc (Nat.le_refl _) _
  have hb1 : Blk W1 w.heap.size 28 [.int .i64 0, .slice none 0 0] := by rw [hW1]; exact blk_new w _ _
  have hBw := h.1.size
  have O1 : OctAt W1 B g r 0 := h.later hB1
  obtain ⟨a1, a2, a3⟩ := nm_ok (r := r) (n := 1) (by omega) (by omega) (by omega)
  obtain ⟨b1, b2, b3⟩ := nm_ok (r := r.drop 1) (n := 1) (by omega) (by omega) (by rw [List.length_drop]; omega)
  rw [List.drop_drop] at b3
  have t1 : tkErr (r.drop 2) 0 (z : Int) = 0 := by
    unfold tkErr
    rw [if_neg (by omega), if_neg (by omega), if_neg (by rw [List.length_drop]; omega)]
  have t2 : tkOut (r.drop 2) 0 (z : Int) = (r.drop 2).take z := by
    unfold tkOut
    rw [if_pos t1, Int.toNat_natCast]
  have t3 : tkRest (r.drop 2) 0 (z : Int) = r.drop (z + 2) := by
    unfold tkRest
    rw [if_pos t1, Int.toNat_natCast, List.drop_drop]
    congr 1
    omega
  have fg : ∀ {a b : World} {cs : List Value}, Blk a w.heap.size 28 cs → a.grownBy b (some g) → Blk b w.heap.size 28 cs := fun x hg2 => (hg2.block _ x.lt (fun e => by injection e; omega)).trans x
  have N : Hid (Calls Tryd.prog 46 #[.pointer (some ⟨g, 0, none⟩), .int .i64 1] W1 fun e w2 => e = .returned (.int .u64 K) ∧
      Calls Tryd.prog 46 #[.pointer (some ⟨g, 0, none⟩), .int .i64 1] w2 fun e w3 => e = .returned (.int .u64 ((z + 2 : Nat) : Int)) ∧
        (Calls Tryd.prog 47 #[.pointer (some ⟨g, 0, none⟩)] w3 fun e w4 => e = .returned (.int .i64 0) ∧ w3 = w4) ∧
        Calls Tryd.prog 48 #[.pointer (some ⟨g, 0, none⟩), .int .i64 (z : Int)] w3 fun e w4 => ∃ D m c, e = .returned (.slice D m c) ∧
          (Calls Tryd.prog 47 #[.pointer (some ⟨g, 0, none⟩)] w4 fun e w5 => e = .returned (.int .i64 0) ∧ w4 = w5) ∧
          Blk w4 w.heap.size 28 [.int .i64 0, .slice none 0 0] ∧ RdPost w B g K ((r.drop 2).take z) (r.drop (z + 2)) (.returned (.tuple #[.agg #[.int .i64 K, .slice D m c], .int .i64 0])) ((w4.setCell ⟨w.heap.size, 0, none⟩ (.int .i64 K)).setCell ⟨w.heap.size, 1, none⟩ (.slice D m c))) := by
    refine (onum_any B g 1 r 0 W1 O1).mono ?_
    rw [show nmVal r 0 1 = K from a2.trans hK, show nmErr r 0 1 = 0 from a1, show nmRest r 0 1 = r.drop 1 from a3]
    rintro e w2 ⟨rfl, O2, g2⟩
    refine ⟨rfl, (onum_any B g 1 _ 0 w2 O2).mono ?_⟩
    rw [show nmVal (r.drop 1) 0 1 = _ from b2.trans hZ, show nmErr (r.drop 1) 0 1 = 0 from b1, show nmRest (r.drop 1) 0 1 = r.drop 2 from b3]
    rintro e w3 ⟨rfl, O3, g3⟩
    refine ⟨rfl, err_any B g _ 0 w3 O3, (take_any B g (z : Int) _ 0 w3 O3).mono ?_⟩
    rw [t1, t2, t3]
    rintro e w4 ⟨v, rfl, ho, O4, g4⟩
    obtain ⟨D, m, cc, rfl⟩ : ∃ D m cc, v = .slice D m cc := by
      rcases ho.form with ⟨rfl, _⟩ | ⟨q, cap, rfl, _⟩
      · exact ⟨_, _, _, rfl⟩
      · exact ⟨_, _, _, rfl⟩
    have x3 := fg (fg hb1 g2) g3
    have x4 := fg x3 g4
    have ho' : Own w4 (w.heap.size + 1) (.slice D m cc) ((r.drop 2).take z) := by
      refine ⟨ho.1, ?_⟩
      rcases ho.2 with h | ⟨g', cap, cur, h1, h2, h3⟩
      · exact .inl h
      · exact .inr ⟨g', cap, cur, h1, by have := x3.lt; omega, h3⟩
    have hne : (Value.slice D m cc).ownBlock = none ∨ (Value.slice D m cc).ownBlock ≠ some w.heap.size := by
      rcases e : (Value.slice D m cc).ownBlock with _ | q
      · exact .inl rfl
      · have := ho'.block q e
        exact .inr (fun e => by injection e; omega)
    have st : w4.grownBy ((w4.setCell ⟨w.heap.size, 0, none⟩ (.int .i64 K)).setCell ⟨w.heap.size, 1, none⟩ (.slice D m cc)) (some w.heap.size) :=
      only_then (only_set (p := ⟨w.heap.size, 0, none⟩) _) (only_set (p := ⟨w.heap.size, 1, none⟩) _) (fun g e => .inl e)
    have gW : w.grownBy w4 (some g) := by
      have y1 : w.grownBy W1 (some g) := only_of_below hB1 _
      have y2 := only_then y1 g2 (fun q e => .inl e)
      have y3 := only_then y2 g3 (fun q e => .inl e)
      exact only_then y3 g4 (fun q e => .inl e)
    refine ⟨D, m, cc, rfl, err_any B g _ 0 w4 O4, x4, D, m, cc, rfl, ho'.grown st hne, O4.newer st (fun q e => by injection e; omega), only_then gW st (fun q e => .inr (by injection e; omega))⟩
  have HW : Hid (w.alloc (.cells #[.int .i64 0, .slice none 0 0] 28) = W1) := hW1.symm
  have HZ : Hid (((z + 2 : Nat) : Int) - 2 = (z : Int)) := by show _ = _; omega
  have zi : ((z + 2 : Nat) : Int) = (z : Int) + 2 := by omega
  rw [zi] at N
  clear hW1 hB1 hb1 O1 a1 a2 a3 b1 b2 b3 t1 t2 t3 h hK hZ zi
  go_enter Tryd.func36, Tryd.ntmps36
  go_upto_region 1 with (fail)
  rw [HW.out]
  clear HW
  go_wp2_with (first
    | (go_at_call 46; ((with_reducible refine N.out.mono ?_); rintro e w2 ⟨rfl, n2⟩; have N2 := Lib.hid n2; clear n2))
    | (go_at_call 46; ((with_reducible refine N2.out.mono ?_); rintro e w3 ⟨rfl, n3, n4⟩; have N3 := Lib.hid n3; have N4 := Lib.hid n4; clear n3 n4))
    | (go_at_call 47; ((with_reducible refine N3.out.mono ?_); rintro e w4 ⟨rfl, rfl⟩))
    | (go_at_call 48; ((with_reducible refine N4.out.mono ?_); rintro e w4 ⟨D, m, c, rfl, n5, hx, hp⟩; have x0 : w4.cell? ⟨w.heap.size, 0, none⟩ = some (.int .i64 0) := hx.cell 0; have x1 : w4.cell? ⟨w.heap.size, 1, none⟩ = some (.slice none 0 0) := hx.cell 1; have f0 := hx.frozen 0; have f1 := hx.frozen 1; have N5 := Lib.hid n5; have P := Lib.hid hp; clear n5 hx hp))
    | (go_at_call 47; ((with_reducible refine N5.out.mono ?_); rintro e w5 ⟨rfl, rfl⟩)))
  exact bodyPost_ret (v := .tuple #[.agg #[.int .i64 K, .slice D m c], .int .i64 0]) (by simp [results, Tryd.results36, go_sem, x0, x1, f0, f1]) rfl P.out
end Go.Proofs.YtonbdcajepmgbaaDoor

