/-
  bits.RotateLeft32, md5.whole, md5.begin.
-/
import Derived.Test.YtjimoegegigoiaaDoorBase
import Derived.Test.YtjimoegegigoiaaDoorMdSpec
import Derived.Lib.Hide
namespace Go.Proofs.YtjimoegegigoiaaDoor
open Go.RowKit
set_option maxRecDepth 100000
set_option maxHeartbeats 800000
set_option linter.unusedSimpArgs false
set_option linter.unusedVariables false

theorem rot_any (t : Int) (n : Nat) (w : World) (h0 : 0 ≤ t) (h1 : t ≤ 4294967295) (hn : n < 32) :
    Calls Tryd.prog 102 #[.int .u32 t, .int .i64 (n : Int)] w fun e w' => e = .returned (.int .u32 (mdRot t n)) ∧ w = w' := by
  have ha : bits .and .u64 (n : Int) 31 = (n : Int) := by
    have h := u64_and_nat n 31 (by omega) (by omega)
    rw [show n &&& 31 = n % 32 from Nat.and_two_pow_sub_one_eq_mod n 5, Nat.mod_eq_of_lt hn] at h
    exact h
  have hnI : (n : Int) < 32 := by omega
  have hn32 : n ≤ 32 := by omega
  go_enter Tryd.func102, Tryd.ntmps102
  go_wp2
  go_ret
  exact ⟨rfl, rfl⟩
theorem whole_any (n : Nat) (w : World) (hn : n ≤ 9223372036854775807) :
    Calls Tryd.prog 78 #[.int .i64 (n : Int)] w fun e w' => e = .returned (.int .i64 ((n - n % 64 : Nat) : Int)) ∧ w = w' := by
  have E : Hid (((n - n % 64 : Nat) : Int) = (n : Int) - (n : Int) % 64) := by show _ = _; omega
  go_enter Tryd.func78, Tryd.ntmps78
  go_wp2
  go_ret
  exact ⟨by rw [E.out]; rfl, rfl⟩
def cells4 (w : W4) : List Value := [.int .u32 w.a, .int .u32 w.b, .int .u32 w.c, .int .u32 w.d]
theorem begin_any (w : World) :
    Calls Tryd.prog 74 #[] w fun e w' => e = .returned (.agg (cells4 mdBegin).toArray) ∧ Below w.heap.size w w' := by
  go_enter Tryd.func74, Tryd.ntmps74
  go_wp2
  exact bodyPost_ret (v := .agg (cells4 mdBegin).toArray) (by simp [results, Tryd.results74, go_sem, cells4, mdBegin]) rfl ⟨rfl, (Below.refl _ _).alloc (Nat.le_refl _) _⟩
end Go.Proofs.YtjimoegegigoiaaDoor
