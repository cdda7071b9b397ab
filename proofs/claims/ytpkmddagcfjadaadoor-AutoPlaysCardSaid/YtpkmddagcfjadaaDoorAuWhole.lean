/-
  The law AutoWhole: the walk.
-/
import Derived.Test.YtpkmddagcfjadaaDoorAuRNext
import Derived.Test.YtpkmddagcfjadaaDoorAuSndW
namespace Go.Proofs.YtpkmddagcfjadaaDoor
open Go.RowKit
set_option maxRecDepth 100000
set_option maxHeartbeats 2000000
set_option linter.unusedSimpArgs false
set_option linter.unusedVariables false

theorem autowhole_walk (x : Int) (w : World) (hx : -9223372036854775808 ≤ x ∧ x ≤ 9223372036854775807) (hT : TabA w) (hN : TabN w) :
    Calls Tryd.prog 4 #[.int .i64 x] w fun e w' => e = .returned (.bool true) ∧ Below w.heap.size w w' := by
  have HT := Lib.hid hT
  have HN := Lib.hid hN
  have hgt := hT.lt
  have hne : ∀ z : Int, (z != z) = false := by simp
  clear hT hN
  go_enter Tryd.func4, Tryd.ntmps4
  go_wp2
  go_loopw [3] (fun i wr => ∃ k : Nat, k ≤ 160 ∧ i = .int .i64 k ∧ Below w.heap.size w wr) (fun i _ => 160 - (intOf i).toNat)
  case atStart => exact ⟨0, Nat.zero_le _, rfl, Below.refl _ _⟩
  case round =>
    rename_i wr
    obtain ⟨k, hk, rfl, hb⟩ := hrel
    have HB := Lib.hid hb
    have SZ := hb.size
    clear hb
    by_cases hlt : k < 160
    · go_wp2_with (first
        | (go_at_call 12; ((with_reducible refine (next_any _ _ _ (HT.out.keptB HB.out hgt)).mono ?_); rintro e w2 ⟨v2, rfl, o2, b2⟩; obtain ⟨A2, m2, c2, rfl⟩ := ownI_shape o2; have O2 := Lib.hid o2; have B2 := Lib.hid b2; clear o2 b2))
        | (go_at_call 13; ((with_reducible refine (rnext_any _ _ _).mono ?_); rintro e w3 ⟨v3, rfl, o3, b3⟩; obtain ⟨A3, m3, c3, rfl⟩ := ownI_shape o3; have O3 := Lib.hid o3; have B3 := Lib.hid b3; clear o3 b3))
        | (go_at_call 14; ((with_reducible refine (numbers_two O2.out O3.out B3.out (Nat.le_trans (nxA_length _ _) (by omega))).mono ?_); rintro e w4 ⟨rfl, k4, rfl⟩)))
      go_roundw
      case rel => exact ⟨k + 1, by omega, by go_num, below_drewN ((HB.out.trans (B2.out.mono SZ)).trans (B3.out.mono (Nat.le_trans SZ B2.out.size))) _⟩
      case measure => simp [intOf]; omega
    · obtain rfl : k = 160 := by omega
      go_wp2_with (go_at_call 21; ((with_reducible refine (awake_any _ (HT.out.keptB HB.out hgt) (HN.out.keptB HB.out HN.out.lt)).mono ?_); rintro e w7 ⟨rfl, b7⟩; have B7 := Lib.hid (HB.out.trans (b7.mono SZ)); clear b7))
      go_ret
      exact ⟨rfl, B7.out⟩
end Go.Proofs.YtpkmddagcfjadaaDoor
