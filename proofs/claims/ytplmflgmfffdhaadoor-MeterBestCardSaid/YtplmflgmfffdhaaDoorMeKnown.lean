/-
  What must come of fixed calls.
-/
import Derived.Test.YtplmflgmfffdhaaDoorMeAdd
namespace Go.Proofs.YtplmflgmfffdhaaDoor
open Go.RowKit
set_option maxRecDepth 100000
set_option maxHeartbeats 4000000
set_option linter.unusedSimpArgs false
set_option linter.unusedVariables false

theorem isInf_inf (w : World) : Calls Tryd.prog 55 #[.float .f64 9218868437227405312, .int .i64 1] w fun e w' => e = .returned (.bool true) ∧ w = w' := by
  have F : (FloatKind.f64.format.order 9218868437227405312 9218868437227405311 == some .gt) = true := by decide +kernel
  go_enter Tryd.func55, Tryd.ntmps55
  go_wp2
  go_ret
  exact ⟨rfl, rfl⟩
theorem text_inf (w : World) : Calls Tryd.prog 41 #[.float .f64 9218868437227405312] w fun e w' => e = .returned (.string ⟨#[105, 110, 102]⟩) ∧ w = w' := by
  have N := isNaN_any 9218868437227405312
  rw [show isN 9218868437227405312 = false by decide +kernel] at N
  have HN := Lib.hid N
  clear N
  go_enter Tryd.func41, Tryd.ntmps41
  go_wp2_with (first | (go_at_call 35; refine (HN.out _).mono ?_; rintro e w' ⟨rfl, rfl⟩) | (go_at_call 55; refine (isInf_inf _).mono ?_; rintro e w' ⟨rfl, rfl⟩))
  go_ret
  exact ⟨rfl, rfl⟩
def kn1 : MeS := ⟨0, 0, 0, 0, 0, 1, 100, 60, 0, 0, 0, 0, 0, 0, 0, 0, 0, NC, NC⟩
def kn2 : MeS := ⟨1000, 0, 0, 0, 0, 1, 100, 60, 0, 0, 0, 0, 0, 1, 100, 60, 0, 0, 4636737291354636288⟩
theorem kn_p : rateT (dlt 0 0) 1000 = 0 := by decide +kernel
theorem kn_q : rateT (dlt 100 0) 1000 = 4636737291354636288 := by decide +kernel
theorem kn_s : meanW NC 0 8 = 0 := by decide +kernel
theorem kn_t : meanW NC 4636737291354636288 8 = 4636737291354636288 := by decide +kernel
theorem kn_r : rateT 100 1000 = 4636737291354636288 := by decide +kernel
theorem kn_z : rateT 0 1000 = 0 := by decide +kernel
theorem kn_g : gainT 100 60 = 4600877379321698714 := by decide +kernel
theorem kn_i : quoT 4607182418800017408 0 = 9218868437227405312 := by decide +kernel
theorem kn_we : WE kn1 false := fun _ => by kernel_rfl
theorem known_any (w : World) : Calls Tryd.prog 16 #[] w fun e w' => e = .returned (.bool true) ∧ Below w.heap.size w w' := by
  have F1 : (FloatKind.f64.format.order 4636737291354636288 4636737291354636288 == some .eq) = true := by decide +kernel
  have F2 : (FloatKind.f64.format.order 4600877379321698714 4600877379321698714 == some .eq) = true := by decide +kernel
  have F3 : (FloatKind.f64.format.order 0 0 == some .eq) = true := by decide +kernel
  obtain ⟨g, hg⟩ : ∃ g, w.heap.size = g := ⟨_, rfl⟩
  have bgr : ∀ {a b : World}, Below w.heap.size w a → a.grownBy b (some g) → Below w.heap.size w b := fun h1 h2 => h1.grown h2 h1.size (fun k e => by cases e; omega)
  have C1 : Hid (Calls Tryd.prog 20 #[] w fun e w1 => e = .returned (.pointer (some ⟨g, 0, none⟩)) ∧ Calls Tryd.prog 22 #[.pointer (some ⟨g, 0, none⟩), .bool true, .int .i64 100, .int .i64 60] w1 fun e w2 => e = .returned (.int .i64 0) ∧
      Calls Tryd.prog 26 #[.pointer (some ⟨g, 0, none⟩), .int .i64 1000] w2 fun e w3 => e = .returned (.int .i64 0) ∧
      Calls Tryd.prog 33 #[.pointer (some ⟨g, 0, none⟩), .bool true] w3 fun e w4 => e = .returned (.float .f64 4636737291354636288) ∧
      Calls Tryd.prog 31 #[.pointer (some ⟨g, 0, none⟩), .bool true] w4 fun e w5 => e = .returned (.float .f64 4600877379321698714) ∧
      Calls Tryd.prog 34 #[.pointer (some ⟨g, 0, none⟩), .bool true] w5 fun e w6 => e = .returned (.float .f64 4636737291354636288) ∧
      Calls Tryd.prog 33 #[.pointer (some ⟨g, 0, none⟩), .bool false] w6 fun e w7 => e = .returned (.float .f64 0) ∧
      Calls Tryd.prog 12 #[.float .f64 4607182418800017408, .float .f64 0] w7 fun e w8 => e = .returned (.float .f64 9218868437227405312) ∧ Hid (Below w.heap.size w w8)) := by
    show Calls _ _ _ _ _
    have N := meNew_any w
    rw [hg] at N
    refine N.mono ?_
    rintro e w1 ⟨rfl, x1, b1⟩
    rw [← hg] at b1
    refine ⟨rfl, (add_out g meZ 100 60 w1 x1 (by omega) (by omega) (by decide) (by decide) (by decide)).mono ?_⟩
    rintro e w2 ⟨rfl, x2, g2⟩
    have x2' : MeB w2 g kn1 := x2
    have b2 := bgr b1 g2
    refine ⟨rfl, (clock_yes g kn1 1000 _ _ w2 x2' (by decide) (by decide) (by decide) (fun W hW => lately_no g kn1 (1000 - kn1.n) W hW kn_we)).mono ?_⟩
    rintro e w3 ⟨rfl, x3, g3⟩
    have x3' : MeB w3 g kn2 := by
      have h : MeB w3 g (clkX kn1 1000 (meanW NC (rateT (dlt 0 0) 1000) 8) (meanW NC (rateT (dlt 100 0) 1000) 8)) := x3
      rw [kn_p, kn_q, kn_s, kn_t] at h
      exact h
    have b3 := bgr b2 g3
    have R1 := meRate_any g kn2 true w3 x3'
    rw [show rateT (ct kn2 true).2.1 kn2.n = 4636737291354636288 from kn_r] at R1
    refine ⟨rfl, R1.mono ?_⟩
    rintro e w4 ⟨rfl, d4⟩
    have x4 := x3'.below d4
    have b4 := mto b3 d4
    have G1 := meGain_of (.pointer (some ⟨g, 0, none⟩)) true 1 100 60 0 w4 (counts_any g kn2 true w4 x4)
    rw [kn_g] at G1
    refine ⟨rfl, G1.mono ?_⟩
    rintro e w5 ⟨rfl, d5⟩
    have x5 := x4.below d5
    have b5 := mto b4 d5
    refine ⟨rfl, (smooth_any g kn2 true w5 x5).mono ?_⟩
    rintro e w6 ⟨rfl, n6, rfl⟩
    have x6 : MeB (w5.drewN n6) g kn2 := x5
    have b6 := mdrewN b5 n6
    have R2 := meRate_any g kn2 false (w5.drewN n6) x6
    rw [show rateT (ct kn2 false).2.1 kn2.n = 0 from kn_z] at R2
    refine ⟨rfl, R2.mono ?_⟩
    rintro e w7 ⟨rfl, d7⟩
    have b7 := mto b6 d7
    have Q := ratio_any 4607182418800017408 0 w7
    rw [kn_i] at Q
    refine ⟨rfl, Q.mono ?_⟩
    rintro e w8 ⟨rfl, n8, rfl⟩
    exact ⟨rfl, mdrewN b7 n8⟩
  have TI := Lib.hid text_inf
  clear bgr hg
  go_enter Tryd.func16, Tryd.ntmps16
  go_wp2_with (first | (go_at_call 20; (with_reducible refine C1.out.mono ?_); rintro e w1 ⟨rfl, c⟩; have C2 := Lib.hid c; clear c) | (go_at_call 22; (with_reducible refine C2.out.mono ?_); rintro e w2 ⟨rfl, c⟩; have C3 := Lib.hid c; clear c) | (go_at_call 26; (with_reducible refine C3.out.mono ?_); rintro e w3 ⟨rfl, c⟩; have C4 := Lib.hid c; clear c) | (go_at_call 33; ((with_reducible refine C4.out.mono ?_); rintro e w4 ⟨rfl, c⟩; have C5 := Lib.hid c; clear c)) | (go_at_call 31; (with_reducible refine C5.out.mono ?_); rintro e w5 ⟨rfl, c⟩; have C6 := Lib.hid c; clear c) | (go_at_call 34; (with_reducible refine C6.out.mono ?_); rintro e w6 ⟨rfl, c⟩; have C7 := Lib.hid c; clear c) | (go_at_call 33; ((with_reducible refine C7.out.mono ?_); rintro e w7 ⟨rfl, c⟩; have C8 := Lib.hid c; clear c)) | (go_at_call 12; (with_reducible refine C8.out.mono ?_); rintro e w8 ⟨rfl, B8⟩) | (go_at_call 41; (with_reducible refine (TI.out _).mono ?_); rintro e w' ⟨rfl, rfl⟩))
  go_ret
  exact ⟨rfl, B8.out⟩
end Go.Proofs.YtplmflgmfffdhaaDoor
