/-
  Floats: what is no number; told, Told; Bits; Ratio of both.
-/
import Derived.Test.YtplmflgmfffdhaaDoorProg
import Derived.Test.YtplmflgmfffdhaaDoorMath
import Derived.Lib.Hide
import Derived.LoopTactic
import Derived.WalkKit
import Derived.WalkLawsBesides
import Derived.Laws.NewFold
import Derived.Laws.Externs
import Derived.Deep.QuietTactic
import Derived.BigQuiet
import Derived.Outline
import Derived.IntWalk
namespace Go.Proofs.YtplmflgmfffdhaaDoor
open Go.RowKit
set_option maxRecDepth 100000
set_option maxHeartbeats 1000000
set_option linter.unusedSimpArgs false
set_option linter.unusedVariables false

theorem run_store_float {P : Program} (w : World) (a : Addr) (m : Mode) (k : FloatKind) (b : Nat) : (store a (.float k b) m).run P w = stored P w a (.float k b) m := run_store P w a _ m rfl
/-- how two words stand to each other -/
def cmpF (a b : Nat) : Option Ordering := FloatKind.f64.format.order a b
/-- the NaN -/
def NC : Nat := 9221120237041090561
def isN (a : Nat) : Bool := cmpF a a != some .eq
def toldF (a : Nat) : Nat := if isN a then NC else a
/-- what a choice of NaN's bits gives -/
def nanW (x y : Nat) (W : World) : Nat := Question.cut (.nanBits .f64 x y) (W.tape W.drawn (.nanBits .f64 x y))
theorem cut_nan (x y t : Nat) : isN (Question.cut (.nanBits .f64 x y) t) = true := by
  have h : ∃ z, z < 4503599627370495 ∧ ∃ s, s < 2 ∧ Question.cut (.nanBits .f64 x y) t = s * 9223372036854775808 + 9218868437227405312 + 1 + z := ⟨(t / 2) % 4503599627370495, Nat.mod_lt _ (by omega), t % 2, Nat.mod_lt _ (by omega), rfl⟩
  obtain ⟨z, hz, s, hs, e⟩ := h
  rw [e]
  have hr : ∃ g f, Ieee.double.read (s * 9223372036854775808 + 9218868437227405312 + 1 + z) = .nan g f := by
    unfold Ieee.Format.read
    have e1 : Ieee.double.signWeight = 9223372036854775808 := by decide
    have e2 : Ieee.double.binade = 4503599627370496 := by decide
    have e3 : Ieee.double.infRung = 9218868437227405312 := by decide
    simp only [e1, e2, e3]
    have e4 : (s * 9223372036854775808 + 9218868437227405312 + 1 + z) % 9223372036854775808 = 9218868437227405313 + z := by omega
    rw [e4, if_neg (by omega), if_neg (by omega), if_neg (by omega)]
    exact ⟨_, _, rfl⟩
  obtain ⟨g, f, hr⟩ := hr
  unfold isN cmpF FloatKind.format Ieee.Format.order
  rw [hr]
  rfl
theorem toldF_nan {a : Nat} (h : isN a = true) : toldF a = NC := by unfold toldF; rw [h]; rfl
theorem toldF_num {a : Nat} (h : isN a = false) : toldF a = a := by unfold toldF; rw [h]; rfl
theorem isN_NC : isN NC = true := by decide +kernel
theorem isNaN_any (a : Nat) (w : World) : Calls Tryd.prog 35 #[.float .f64 a] w fun e w' => e = .returned (.bool (isN a)) ∧ w = w' := by
  have h : (FloatKind.f64.format.order a a != some .eq) = isN a := rfl
  obtain ⟨b, hb⟩ : ∃ b, isN a = b := ⟨_, rfl⟩
  rw [hb] at h ⊢
  clear hb
  go_enter Tryd.func35, Tryd.ntmps35
  go_wp2
  go_ret
  exact ⟨rfl, rfl⟩
theorem from_run (n : Int) (w : World) : (callFunc 43 #[.int .u64 n]).run Tryd.prog w = .ok (.value (.float .f64 n.toNat)) w := by
  rw [run_callFunc_extern Tryd.func43 (by kernel_rfl) (by kernel_rfl) (by kernel_rfl) (e := Extern.MathFloatBits.float64frombits) (by kernel_rfl)]
  rfl
theorem bits_run (a : Nat) (w : World) : (callFunc 37 #[.float .f64 a]).run Tryd.prog w = .ok (.value (.int .u64 a)) w := by
  rw [run_callFunc_extern Tryd.func37 (by kernel_rfl) (by kernel_rfl) (by kernel_rfl) (e := Extern.MathFloatBits.float64bits) (by kernel_rfl)]
  rfl
theorem none_any (w : World) : Calls Tryd.prog 45 #[] w fun e w' => e = .returned (.float .f64 NC) ∧ w = w' := by
  have h := from_run 9221120237041090561
  go_enter Tryd.func45, Tryd.ntmps45
  go_wp2
  go_ret
  exact ⟨rfl, rfl⟩
theorem bits_any (a b : Nat) (w : World) : Calls Tryd.prog 11 #[.float .f64 a, .float .f64 b] w fun e w' => e = .returned (.bool ((a : Int) == b)) ∧ w = w' := by
  have h := bits_run
  go_enter Tryd.func11, Tryd.ntmps11
  go_wp2
  go_ret
  exact ⟨rfl, rfl⟩
theorem told_any (a : Nat) (w : World) : Calls Tryd.prog 36 #[.float .f64 a] w fun e w' => e = .returned (.float .f64 (toldF a)) ∧ w = w' := by
  have H := Lib.hid (isNaN_any a)
  unfold toldF
  cases hb : isN a
  all_goals
    rw [hb] at H
    clear hb
    simp only [Bool.false_eq_true, if_false, if_true]
    go_enter Tryd.func36, Tryd.ntmps36
    go_wp2_with (first | (go_at_call 35; refine (H.out _).mono ?_; rintro e w' ⟨rfl, rfl⟩) | (go_at_call 45; refine (none_any _).mono ?_; rintro e w' ⟨rfl, rfl⟩))
    go_ret
    exact ⟨rfl, rfl⟩
theorem rtold_any (a : Nat) (w : World) : Calls Tryd.prog 32 #[.float .f64 a] w fun e w' => e = .returned (.float .f64 (toldF a)) ∧ w = w' := by
  have h : (FloatKind.f64.format.order a a != some .eq) = isN a := rfl
  have hf := from_run 9221120237041090561
  unfold toldF
  cases hb : isN a
  all_goals
    rw [hb] at h
    clear hb
    simp only [Bool.false_eq_true, if_false, if_true]
    go_enter Tryd.func32, Tryd.ntmps32
    go_wp2
    go_ret
    exact ⟨rfl, rfl⟩
/-- a divided by b, as it is told -/
def quoT (a b : Nat) : Nat := match Ieee.double.div a b with | some r => toldF r | none => NC
theorem quo_some {a b r : Nat} (h : Ieee.double.div a b = some r) (W : World) : (binOp .quo 22 (.float .f64 a) (.float .f64 b)).run Tryd.prog W = .ok (.float .f64 r) W := run_float_arith W .quo _ .f64 a b r h
theorem quo_none {a b : Nat} (h : Ieee.double.div a b = none) (W : World) : (binOp .quo 22 (.float .f64 a) (.float .f64 b)).run Tryd.prog W = .ok (.float .f64 (nanW a b W)) W.drew := by
  have h2 : FloatKind.f64.format.div a b = none := h
  simp [binOp, Op.floatArith, h2, run_choose_drew, Question.forced, nanW]
theorem ratio_any (a b : Nat) (w : World) : Calls Tryd.prog 12 #[.float .f64 a, .float .f64 b] w fun e w' => e = .returned (.float .f64 (quoT a b)) ∧ ∃ n, w' = w.drewN n := by
  unfold quoT
  cases hd : Ieee.double.div a b with
  | some r =>
    have Q := quo_some hd
    clear hd
    go_enter Tryd.func12, Tryd.ntmps12
    go_wp2_with (go_at_call 36; refine (told_any _ _).mono ?_; rintro e w' ⟨rfl, rfl⟩)
    go_ret
    exact ⟨rfl, 0, rfl⟩
  | none =>
    have Q := quo_none hd
    have T : Hid (∀ W, Calls Tryd.prog 36 #[.float .f64 (nanW a b W)] W.drew fun e w' => e = .returned (.float .f64 NC) ∧ W.drew = w') := fun W => by
      have := told_any (nanW a b W) W.drew
      rw [toldF_nan (show isN (nanW a b W) = true from cut_nan a b _)] at this
      exact this
    clear hd
    go_enter Tryd.func12, Tryd.ntmps12
    go_wp2_with (go_at_call 36; refine (T.out _).mono ?_; rintro e w' ⟨rfl, rfl⟩)
    go_ret
    exact ⟨rfl, 1, rfl⟩
theorem rratio_any (a b : Nat) (w : World) : Calls Tryd.prog 13 #[.float .f64 a, .float .f64 b] w fun e w' => e = .returned (.float .f64 (quoT a b)) ∧ ∃ n, w' = w.drewN n := by
  unfold quoT
  cases hd : Ieee.double.div a b with
  | some r =>
    have Q := quo_some hd
    clear hd
    go_enter Tryd.func13, Tryd.ntmps13
    go_wp2_with (go_at_call 32; refine (rtold_any _ _).mono ?_; rintro e w' ⟨rfl, rfl⟩)
    go_ret
    exact ⟨rfl, 0, rfl⟩
  | none =>
    have Q := quo_none hd
    have T : Hid (∀ W, Calls Tryd.prog 32 #[.float .f64 (nanW a b W)] W.drew fun e w' => e = .returned (.float .f64 NC) ∧ W.drew = w') := fun W => by
      have := rtold_any (nanW a b W) W.drew
      rw [toldF_nan (show isN (nanW a b W) = true from cut_nan a b _)] at this
      exact this
    clear hd
    go_enter Tryd.func13, Tryd.ntmps13
    go_wp2_with (go_at_call 32; refine (T.out _).mono ?_; rintro e w' ⟨rfl, rfl⟩)
    go_ret
    exact ⟨rfl, 1, rfl⟩
end Go.Proofs.YtplmflgmfffdhaaDoor
