/-
  opt.read where there is no option: it answers an error.
-/
import Derived.Test.YtnhadkmbekgfbaaOpEnc
namespace Go.Proofs.Ytnhadkmbekgfbaa
open Go.RowKit
set_option maxRecDepth 100000
set_option maxHeartbeats 4000000
set_option linter.unusedSimpArgs false
set_option linter.unusedVariables false

def ReadBad (w : World) (g : Nat) (e : Ending) (w' : World) : Prop := ∃ K D m c E, e = .returned (.tuple #[.agg #[.int .i64 K, .slice D m c], .int .i64 E]) ∧ E ≠ 0 ∧ w.grownBy w' (some g)
/-- two numbers, and what is told of errors; then bytes are taken, which fails just if P -/
def RdChain (w W1 : World) (g : Nat) (K Z E : Int) (P : Prop) : Prop :=
  Calls Try.prog 90 #[.pointer (some ⟨g, 0, none⟩), .int .i64 1] W1 fun e w2 => e = .returned (.int .u64 K) ∧
      Calls Try.prog 90 #[.pointer (some ⟨g, 0, none⟩), .int .i64 1] w2 fun e w3 => e = .returned (.int .u64 Z) ∧
        (Calls Try.prog 91 #[.pointer (some ⟨g, 0, none⟩)] w3 fun e w4 => e = .returned (.int .i64 E) ∧ w3 = w4) ∧
        Blk w3 w.heap.size 70 [.int .i64 0, .slice none 0 0] ∧ w.grownBy w3 (some g) ∧
        (P → Calls Try.prog 92 #[.pointer (some ⟨g, 0, none⟩), .int .i64 (Z - 2)] w3 fun e w4 => ∃ D m c, e = .returned (.slice D m c) ∧
          (Calls Try.prog 91 #[.pointer (some ⟨g, 0, none⟩)] w4 fun e w5 => e = .returned (.int .i64 8) ∧ w4 = w5) ∧
          Blk w4 w.heap.size 70 [.int .i64 0, .slice none 0 0] ∧ w.grownBy w4 (some g))
theorem rd_chain (B g : Nat) (r : List UInt8) (w : World) (h : OctAt w B g r 0) (hg : g < w.heap.size) (K Z E : Int) (r2 r3 : List UInt8) (E1 : Int) (h1 : nmVal r 0 1 = K) (h2 : nmRest r 0 1 = r2) (h3 : nmErr r 0 1 = E1) (h4 : nmVal r2 E1 1 = Z) (h5 : nmRest r2 E1 1 = r3) (h6 : nmErr r2 E1 1 = E) :
    RdChain w (w.alloc (.cells #[.int .i64 0, .slice none 0 0] 70)) g K Z E (tkErr r3 E (Z - 2) = 8) := by
  obtain ⟨W1, hW1⟩ : ∃ W1, W1 = w.alloc (.cells #[.int .i64 0, .slice none 0 0] 70) := ⟨_, rfl⟩
  have hs1 : W1.heap.size = w.heap.size + 1 := by rw [hW1]; simp
  have hB1 : Below w.heap.size w W1 := by rw [hW1]; exact (Below.refl _ _).alloc (Nat.le_refl _) _
  have hb1 : Blk W1 w.heap.size 70 [.int .i64 0, .slice none 0 0] := by rw [hW1]; exact blk_new w _ _
  rw [← hW1]
  have O1 : OctAt W1 B g r 0 := h.later hB1
  have fg : ∀ {a b : World} {cs : List Value}, Blk a w.heap.size 70 cs → a.grownBy b (some g) → Blk b w.heap.size 70 cs := fun x hg2 => (hg2.block _ x.lt (fun e => by injection e; omega)).trans x
  have y1 : w.grownBy W1 (some g) := only_of_below hB1 _
  refine (onum_any B g 1 r 0 W1 O1).mono ?_
  rw [h1, h2, h3]
  rintro e w2 ⟨rfl, O2, g2⟩
  refine ⟨rfl, (onum_any B g 1 _ E1 w2 O2).mono ?_⟩
  rw [h4, h5, h6]
  rintro e w3 ⟨rfl, O3, g3⟩
  have x3 := fg (fg hb1 g2) g3
  have y3 := only_then (only_then y1 g2 (fun q e => .inl e)) g3 (fun q e => .inl e)
  refine ⟨rfl, err_any B g _ E w3 O3, x3, y3, fun hp => (take_any B g (Z - 2) _ E w3 O3).mono ?_⟩
  rw [hp]
  rintro e w4 ⟨v, rfl, ho, O4, g4⟩
  obtain ⟨D, m, cc, rfl⟩ : ∃ D m cc, v = .slice D m cc := by
    rcases ho.form with ⟨rfl, _⟩ | ⟨q, cap, rfl, _⟩
    · exact ⟨_, _, _, rfl⟩
    · exact ⟨_, _, _, rfl⟩
  exact ⟨D, m, cc, rfl, err_any B g _ 8 w4 O4, fg x3 g4, only_then y3 g4 (fun q e => .inl e)⟩
theorem set_two {w w4 : World} {g : Nat} (h4 : w.grownBy w4 (some g)) (a b : Value) : w.grownBy ((w4.setCell ⟨w.heap.size, 0, none⟩ a).setCell ⟨w.heap.size, 1, none⟩ b) (some g) := by
  have st : w4.grownBy ((w4.setCell ⟨w.heap.size, 0, none⟩ a).setCell ⟨w.heap.size, 1, none⟩ b) (some w.heap.size) :=
    only_then (only_set (p := ⟨w.heap.size, 0, none⟩) _) (only_set (p := ⟨w.heap.size, 1, none⟩) _) (fun g e => .inl e)
  exact only_then h4 st (fun q e => .inr (by injection e; omega))
/-- the next bytes can't be taken -/
theorem read_takes (g : Nat) (w : World) (K Z E : Int) (H : RdChain w (w.alloc (.cells #[.int .i64 0, .slice none 0 0] 70)) g K Z E True) (kb : 0 ≤ K ∧ K ≤ 255) (zb : 0 ≤ Z ∧ Z ≤ 255) (hg : g < w.heap.size) (hE : E = 8 ∨ E = 0 ∧ 2 ≤ Z) :
    Calls Try.prog 94 #[.pointer (some ⟨g, 0, none⟩)] w fun e w' => ReadBad w g e w' := by
  have hzv : ∀ W, (zeroValue 70).run Try.prog W = .ok (.agg #[.int .i64 0, .slice none 0 0]) W := fun W => by kernel_rfl
  obtain ⟨kb1, kb2⟩ := kb
  obtain ⟨zb1, zb2⟩ := zb
  obtain ⟨W1, hW1⟩ : ∃ W1, W1 = w.alloc (.cells #[.int .i64 0, .slice none 0 0] 70) := ⟨_, rfl⟩
  rw [← hW1] at H
  have HW := Lib.hid hW1.symm
  unfold RdChain at H
  have N := Lib.hid H
  have FIN : Hid (∀ w4 D m c, w.grownBy w4 (some g) → ReadBad w g (.returned (.tuple #[.agg #[.int .i64 K, .slice D m c], .int .i64 8])) ((w4.setCell ⟨w.heap.size, 0, none⟩ (.int .i64 K)).setCell ⟨w.heap.size, 1, none⟩ (.slice D m c))) :=
    fun w4 D m c h4 => ⟨K, D, m, c, 8, rfl, by omega, set_two h4 _ _⟩
  clear hW1 H
  rcases hE with rfl | ⟨rfl, hz⟩
  · go_enter Try.func94, Try.ntmps94
    go_upto_region 1 with (fail)
    rw [HW.out]
    clear HW
    go_wp2_with (first
      | (go_at_call 90; ((with_reducible refine N.out.mono ?_); rintro e w2 ⟨rfl, n2⟩; have N2 := Lib.hid n2; clear n2))
      | (go_at_call 90; ((with_reducible refine N2.out.mono ?_); rintro e w3 ⟨rfl, n3, -, -, n4⟩; have N3 := Lib.hid n3; have N4 := Lib.hid (n4 trivial); clear n3 n4))
      | (go_at_call 91; ((with_reducible refine N3.out.mono ?_); rintro e w4 ⟨rfl, rfl⟩))
      | (go_at_call 92; ((with_reducible refine N4.out.mono ?_); rintro e w4 ⟨D, m, c, rfl, n5, hx, hp⟩; have x0 : w4.cell? ⟨w.heap.size, 0, none⟩ = some (.int .i64 0) := hx.cell 0; have x1 : w4.cell? ⟨w.heap.size, 1, none⟩ = some (.slice none 0 0) := hx.cell 1; have f0 := hx.frozen 0; have f1 := hx.frozen 1; have N5 := Lib.hid n5; have P := Lib.hid hp; clear n5 hx hp))
      | (go_at_call 91; ((with_reducible refine N5.out.mono ?_); rintro e w5 ⟨rfl, rfl⟩)))
    exact bodyPost_ret (v := .tuple #[.agg #[.int .i64 K, .slice D m c], .int .i64 8]) (by simp [results, Try.results94, go_sem, x0, x1, f0, f1]) rfl (FIN.out _ _ _ _ P.out)
  · have hz2 : ¬ Z - 2 < 0 := by omega
    go_enter Try.func94, Try.ntmps94
    go_upto_region 1 with (fail)
    rw [HW.out]
    clear HW
    go_wp2_with (first
      | (go_at_call 90; ((with_reducible refine N.out.mono ?_); rintro e w2 ⟨rfl, n2⟩; have N2 := Lib.hid n2; clear n2))
      | (go_at_call 90; ((with_reducible refine N2.out.mono ?_); rintro e w3 ⟨rfl, n3, -, -, n4⟩; have N3 := Lib.hid n3; have N4 := Lib.hid (n4 trivial); clear n3 n4))
      | (go_at_call 91; ((with_reducible refine N3.out.mono ?_); rintro e w4 ⟨rfl, rfl⟩))
      | (go_at_call 92; ((with_reducible refine N4.out.mono ?_); rintro e w4 ⟨D, m, c, rfl, n5, hx, hp⟩; have x0 : w4.cell? ⟨w.heap.size, 0, none⟩ = some (.int .i64 0) := hx.cell 0; have x1 : w4.cell? ⟨w.heap.size, 1, none⟩ = some (.slice none 0 0) := hx.cell 1; have f0 := hx.frozen 0; have f1 := hx.frozen 1; have N5 := Lib.hid n5; have P := Lib.hid hp; clear n5 hx hp))
      | (go_at_call 91; ((with_reducible refine N5.out.mono ?_); rintro e w5 ⟨rfl, rfl⟩)))
    exact bodyPost_ret (v := .tuple #[.agg #[.int .i64 K, .slice D m c], .int .i64 8]) (by simp [results, Try.results94, go_sem, x0, x1, f0, f1]) rfl (FIN.out _ _ _ _ P.out)
/-- a size of less than two -/
theorem read_less (g : Nat) (w : World) (K Z : Int) (P : Prop) (H : RdChain w (w.alloc (.cells #[.int .i64 0, .slice none 0 0] 70)) g K Z 0 P) (kb : 0 ≤ K ∧ K ≤ 255) (zb : 0 ≤ Z ∧ Z < 2) (hg : g < w.heap.size) :
    Calls Try.prog 94 #[.pointer (some ⟨g, 0, none⟩)] w fun e w' => ReadBad w g e w' := by
  have hzv : ∀ W, (zeroValue 70).run Try.prog W = .ok (.agg #[.int .i64 0, .slice none 0 0]) W := fun W => by kernel_rfl
  obtain ⟨kb1, kb2⟩ := kb
  obtain ⟨zb1, zb2⟩ := zb
  obtain ⟨W1, hW1⟩ : ∃ W1, W1 = w.alloc (.cells #[.int .i64 0, .slice none 0 0] 70) := ⟨_, rfl⟩
  rw [← hW1] at H
  have HW := Lib.hid hW1.symm
  unfold RdChain at H
  have N := Lib.hid H
  have FIN : Hid (∀ w4, w.grownBy w4 (some g) → ReadBad w g (.returned (.tuple #[.agg #[.int .i64 0, .slice none 0 0], .int .i64 91])) ((w4.setCell ⟨w.heap.size, 0, none⟩ (.int .i64 0)).setCell ⟨w.heap.size, 1, none⟩ (.slice none 0 0))) :=
    fun w4 h4 => ⟨0, none, 0, 0, 91, rfl, by omega, set_two h4 _ _⟩
  have hz2 : Z - 2 < 0 := by omega
  clear hW1 H
  go_enter Try.func94, Try.ntmps94
  go_upto_region 1 with (fail)
  rw [HW.out]
  clear HW
  go_wp2_with (first
    | (go_at_call 90; ((with_reducible refine N.out.mono ?_); rintro e w2 ⟨rfl, n2⟩; have N2 := Lib.hid n2; clear n2))
    | (go_at_call 90; ((with_reducible refine N2.out.mono ?_); rintro e w3 ⟨rfl, n3, hx, hp, -⟩; have x0 : w3.cell? ⟨w.heap.size, 0, none⟩ = some (.int .i64 0) := hx.cell 0; have x1 : w3.cell? ⟨w.heap.size, 1, none⟩ = some (.slice none 0 0) := hx.cell 1; have f0 := hx.frozen 0; have f1 := hx.frozen 1; have P := Lib.hid hp; have N3 := Lib.hid n3; clear n3 hx hp))
    | (go_at_call 91; ((with_reducible refine N3.out.mono ?_); rintro e w4 ⟨rfl, rfl⟩)))
  exact bodyPost_ret (v := .tuple #[.agg #[.int .i64 0, .slice none 0 0], .int .i64 91]) (by simp [results, Try.results94, go_sem, x0, x1, f0, f1]) rfl (FIN.out _ P.out)
theorem tk8 (r : List UInt8) (n : Int) : tkErr r 8 n = 8 := by
  unfold tkErr
  rw [if_pos (by omega)]
theorem read_bad (B g : Nat) (r : List UInt8) (w : World) (h : OctAt w B g r 0) (hg : g < w.heap.size) (h0 : r ≠ []) (hb : r.length < 2 ∨ num (r.drop 1) 1 < 2 ∨ (r.length : Int) < num (r.drop 1) 1) :
    Calls Try.prog 94 #[.pointer (some ⟨g, 0, none⟩)] w fun e w' => ReadBad w g e w' := by
  have hlen : 1 ≤ r.length := by
    rcases r with _ | ⟨a, t⟩
    · exact absurd rfl h0
    · simp
  have k1 := num_256 r
  have z1 := num_256 (r.drop 1)
  obtain ⟨a1, a2, a3⟩ := nm_ok (r := r) (n := 1) (by omega) (by omega) hlen
  have a1 : nmErr r 0 1 = 0 := a1
  have a2 : nmVal r 0 1 = num r 1 := a2
  have a3 : nmRest r 0 1 = r.drop 1 := a3
  by_cases h2 : r.length < 2
  · obtain ⟨b1, b2, b3⟩ := nm_short (r := r.drop 1) (n := 1) (by omega) (by omega) (by rw [List.length_drop]; omega)
    have c := rd_chain B g r w h hg _ 0 8 _ [] 0 a2 a3 a1 b2 b3 b1
    rw [show (tkErr [] 8 (0 - 2) = 8) = True from eq_true (tk8 _ _)] at c
    exact read_takes g w _ _ _ c k1 ⟨by omega, by omega⟩ hg (.inl rfl)
  · obtain ⟨b1, b2, b3⟩ := nm_ok (r := r.drop 1) (n := 1) (by omega) (by omega) (by rw [List.length_drop]; omega)
    have c := rd_chain B g r w h hg _ _ 0 _ _ 0 a2 a3 a1 b2 b3 b1
    by_cases h3 : num (r.drop 1) 1 < 2
    · exact read_less g w _ _ _ c k1 ⟨z1.1, h3⟩ hg
    · have ht : tkErr ((r.drop 1).drop 1) 0 (num (r.drop 1) 1 - 2) = 8 := by
        unfold tkErr
        rw [if_neg (by omega), if_neg (by omega), if_pos (by rw [List.length_drop, List.length_drop]; omega)]
      rw [show (tkErr ((r.drop 1).drop 1) 0 (num (r.drop 1) 1 - 2) = 8) = True from eq_true ht] at c
      exact read_takes g w _ _ _ c k1 z1 hg (.inr ⟨rfl, by omega⟩)
end Go.Proofs.Ytnhadkmbekgfbaa
