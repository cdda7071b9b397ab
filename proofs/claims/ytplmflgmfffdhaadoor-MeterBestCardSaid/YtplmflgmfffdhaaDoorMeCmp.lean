/-
  cmp.Compare of floats, math.Signbit, math.Copysign; Order of both.
-/
import Derived.Test.YtplmflgmfffdhaaDoorMeOrd
namespace Go.Proofs.YtplmflgmfffdhaaDoor
open Go.RowKit
set_option maxRecDepth 100000
set_option maxHeartbeats 2000000
set_option linter.unusedSimpArgs false
set_option linter.unusedVariables false

theorem isNaN2_any (a : Nat) (w : World) : Calls Tryd.prog 54 #[.float .f64 a] w fun e w' => e = .returned (.bool (isN a)) ∧ w = w' := by
  have h : (FloatKind.f64.format.order a a != some .eq) = isN a := rfl
  obtain ⟨b, hb⟩ : ∃ b, isN a = b := ⟨_, rfl⟩
  rw [hb] at h ⊢
  clear hb
  go_enter Tryd.func54, Tryd.ntmps54
  go_wp2
  go_ret
  exact ⟨rfl, rfl⟩
theorem compare_any (a b : Nat) (w : World) : Calls Tryd.prog 38 #[.float .f64 a, .float .f64 b] w fun e w' => e = .returned (.int .i64 (cmpV a b)) ∧ w = w' := by
  have H1 := Lib.hid (isNaN2_any a)
  have H2 := Lib.hid (isNaN2_any b)
  have L : (FloatKind.f64.format.order a b == some .lt) = (cmpF a b == some .lt) := rfl
  have G : (FloatKind.f64.format.order a b == some .gt) = (cmpF a b == some .gt) := rfl
  unfold cmpV
  obtain ⟨l, hl⟩ : ∃ l, (cmpF a b == some .lt) = l := ⟨_, rfl⟩
  obtain ⟨g, hg⟩ : ∃ g, (cmpF a b == some .gt) = g := ⟨_, rfl⟩
  rw [hl] at L ⊢
  rw [hg] at G ⊢
  clear hl hg
  cases ha : isN a <;> cases hb : isN b
  all_goals
    rw [ha] at H1
    rw [hb] at H2
    clear ha hb
  · cases l
    · cases g
      all_goals
        go_enter Tryd.func38, Tryd.ntmps38
        go_wp2_with (first | (go_at_call 54; ((with_reducible refine (H1.out _).mono ?_); rintro e w' ⟨rfl, rfl⟩)) | (go_at_call 54; ((with_reducible refine (H2.out _).mono ?_); rintro e w' ⟨rfl, rfl⟩)))
        go_ret
        exact ⟨rfl, rfl⟩
    · go_enter Tryd.func38, Tryd.ntmps38
      go_wp2_with (first | (go_at_call 54; ((with_reducible refine (H1.out _).mono ?_); rintro e w' ⟨rfl, rfl⟩)) | (go_at_call 54; ((with_reducible refine (H2.out _).mono ?_); rintro e w' ⟨rfl, rfl⟩)))
      go_ret
      exact ⟨rfl, rfl⟩
  all_goals
    go_enter Tryd.func38, Tryd.ntmps38
    go_wp2_with (first | (go_at_call 54; ((with_reducible refine (H1.out _).mono ?_); rintro e w' ⟨rfl, rfl⟩)) | (go_at_call 54; ((with_reducible refine (H2.out _).mono ?_); rintro e w' ⟨rfl, rfl⟩)))
    go_ret
    exact ⟨rfl, rfl⟩
def Word (a : Nat) : Prop := a < 18446744073709551616
theorem signbit_any (a : Nat) (w : World) (hw : Word a) : Calls Tryd.prog 40 #[.float .f64 a] w fun e w' => e = .returned (.bool (sgn a)) ∧ w = w' := by
  have hb := bits_run a
  unfold Word at hw
  have hc : ∃ z : Int, (∀ W, (convert 57 2 (.int .u64 (a : Int))).run Tryd.prog W = .ok (.int .i64 z) W) ∧ decide (z < 0) = sgn a := by
    refine ⟨IntKind.i64.wrap (a : Int), fun W => by simp [convert, run_underlying Tryd.underlying57, run_underlying Tryd.underlying2, Conv.intToInt], ?_⟩
    rw [IntKind.wrap_i64]
    unfold sgn
    rw [Bool.eq_iff_iff]
    simp only [decide_eq_true_eq, beq_iff_eq]
    omega
  obtain ⟨z, hz, hs⟩ := hc
  obtain ⟨s, hss⟩ : ∃ s, sgn a = s := ⟨_, rfl⟩
  rw [hss] at hs ⊢
  clear hss hw
  cases s
  all_goals
    go_enter Tryd.func40, Tryd.ntmps40
    go_wp2
    go_ret
    exact ⟨rfl, rfl⟩
theorem copysign_0 (w : World) : Calls Tryd.prog 39 #[.float .f64 4607182418800017408, .float .f64 0] w fun e w' => e = .returned (.float .f64 4607182418800017408) ∧ w = w' := by
  have h1 := bits_run 4607182418800017408
  have h2 := bits_run 0
  have h3 := from_run
  have e1 : bits .andNot .u64 4607182418800017408 9223372036854775808 = 4607182418800017408 := by kernel_rfl
  have e2 : bits .and .u64 0 9223372036854775808 = 0 := by kernel_rfl
  have e3 : bits .or .u64 4607182418800017408 0 = 4607182418800017408 := by kernel_rfl
  go_enter Tryd.func39, Tryd.ntmps39
  go_wp2
  go_ret
  exact ⟨rfl, rfl⟩
theorem copysign_1 (w : World) : Calls Tryd.prog 39 #[.float .f64 4607182418800017408, .float .f64 9223372036854775808] w fun e w' => e = .returned (.float .f64 13830554455654793216) ∧ w = w' := by
  have h1 := bits_run 4607182418800017408
  have h2 := bits_run 9223372036854775808
  have h3 := from_run
  have e1 : bits .andNot .u64 4607182418800017408 9223372036854775808 = 4607182418800017408 := by kernel_rfl
  have e2 : bits .and .u64 9223372036854775808 9223372036854775808 = 9223372036854775808 := by kernel_rfl
  have e3 : bits .or .u64 4607182418800017408 9223372036854775808 = 13830554455654793216 := by kernel_rfl
  go_enter Tryd.func39, Tryd.ntmps39
  go_wp2
  go_ret
  exact ⟨rfl, rfl⟩
end Go.Proofs.YtplmflgmfffdhaaDoor
