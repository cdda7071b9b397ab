/-
  The laws PhaseTable, PhaseWhole, PhaseNil.
-/
import Derived.Test.YtandakinbcfleaaPhAw
import Derived.Test.YtandakinbcfleaaPhRef
import Derived.Test.YtandakinbcfleaaPhSame
namespace Go.Proofs.Ytandakinbcfleaa
open Go.RowKit
set_option maxRecDepth 100000
set_option maxHeartbeats 4000000
set_option linter.unusedSimpArgs false
set_option linter.unusedVariables false

theorem bdrewN {B : Nat} {a b : World} (h : Below B a b) (n : Nat) : Below B a (b.drewN n) := ⟨h.os, h.tape, h.output, h.size, h.block⟩
theorem phasetable_walk (p e n : Int) (w : World) : Calls Try.prog 3 #[.int .i64 p, .int .i64 e, .int .i64 n] w fun r w' => r = .returned (.bool true) ∧ Below w.heap.size w w' := by
  have N1 := Lib.hid (phNext_any p e)
  have N2 := Lib.hid (rphNext_any p e)
  have N3 := Lib.hid (phName_any p)
  have N4 := Lib.hid (rphName_any p)
  have N5 := Lib.hid (phEvent_any e)
  have N6 := Lib.hid (rphEvent_any e)
  have N7 := Lib.hid (passes_any p n)
  have N8 := Lib.hid (rpasses_any p n)
  obtain ⟨a, ha⟩ : ∃ a, nxPS p e = a := ⟨_, rfl⟩
  obtain ⟨b, hb⟩ : ∃ b, nxPE p e = b := ⟨_, rfl⟩
  obtain ⟨c, hc⟩ : ∃ c, nameP p = c := ⟨_, rfl⟩
  obtain ⟨d, hd⟩ : ∃ d, nameEv e = d := ⟨_, rfl⟩
  obtain ⟨f, hf⟩ : ∃ f, passB p n = f := ⟨_, rfl⟩
  rw [ha, hb] at N1 N2
  rw [hc] at N3 N4
  rw [hd] at N5 N6
  rw [hf] at N7 N8
  clear ha hb hc hd hf
  go_enter Try.func3, Try.ntmps3
  go_wp2_with (first | (go_at_call 9; refine (N1.out _).mono ?_; rintro r w1 ⟨rfl, hb⟩; have B1 := Lib.hid hb; clear hb) | (go_at_call 10; refine (N2.out _).mono ?_; rintro r w' ⟨rfl, rfl⟩) | (go_at_call 11; refine (N3.out _).mono ?_; rintro r w2 ⟨rfl, hb⟩; have B2 := Lib.hid (bto B1.out hb); clear hb) | (go_at_call 12; refine (N4.out _).mono ?_; rintro r w3 ⟨rfl, hb⟩; have B3 := Lib.hid (bto B2.out hb); clear hb) | (go_at_call 13; refine (N5.out _).mono ?_; rintro r w4 ⟨rfl, hb⟩; have B4 := Lib.hid (bto B3.out hb); clear hb) | (go_at_call 14; refine (N6.out _).mono ?_; rintro r w5 ⟨rfl, hb⟩; have B5 := Lib.hid (bto B4.out hb); clear hb) | (go_at_call 15; refine (N7.out _).mono ?_; rintro r w' ⟨rfl, rfl⟩) | (go_at_call 16; refine (N8.out _).mono ?_; rintro r w' ⟨rfl, rfl⟩) | (go_at_call 17; refine (awake26 _).mono ?_; rintro r w6 ⟨rfl, hb⟩; have B6 := Lib.hid (bto B5.out hb); clear hb))
  go_ret
  exact ⟨rfl, B6.out⟩
theorem phasewhole_walk (x : Int) (w : World) (h0 : -9223372036854775808 ≤ x ∧ x ≤ 9223372036854775807) : Calls Try.prog 4 #[.int .i64 x] w fun r w' => r = .returned (.bool true) ∧ Below w.heap.size w w' := by
  obtain ⟨h1, h2⟩ := h0
  go_enter Try.func4, Try.ntmps4
  go_wp2
  go_loopw [3] (fun i wr => ∃ k : Nat, i = .int .i64 k ∧ k ≤ 45 ∧ Below w.heap.size w wr) (fun i _ => 45 - (intOf i).toNat)
  case atStart => exact ⟨0, rfl, by omega, Below.refl _ _⟩
  case round =>
    rename_i wr
    obtain ⟨k, rfl, hk, hB⟩ := hrel
    have HB := Lib.hid hB
    clear hB
    by_cases hlt : k < 45
    · go_wp2_with (first | (go_at_call 9; refine (phNext_any _ _ _).mono ?_; rintro r w1 ⟨rfl, hb⟩; have B1 := Lib.hid (bto HB.out hb); clear hb) | (go_at_call 10; refine (rphNext_any _ _ _).mono ?_; rintro r w' ⟨rfl, rfl⟩))
      go_roundw
      case rel => exact ⟨k + 1, by go_num, by omega, B1.out⟩
      case measure => simp [intOf]; omega
    · obtain ⟨W0, hW0⟩ : ∃ W0 : World, W0 = wr := ⟨_, rfl⟩
      subst hW0
      go_wp2
      go_loop [8] (fun i => ∃ k : Nat, i = .int .i64 k ∧ k ≤ 5) (fun i => 5 - (intOf i).toNat)
      case atStart => exact ⟨0, rfl, by omega⟩
      case round =>
        obtain ⟨j, rfl, hj⟩ := hrel
        by_cases hjl : j < 5
        · go_wp2
          go_loop [9] (fun i => ∃ k : Nat, i = .int .i64 k ∧ k ≤ 2000) (fun i => 2000 - (intOf i).toNat)
          case atStart => exact ⟨0, rfl, by omega⟩
          case round =>
            obtain ⟨m, rfl, hm⟩ := hrel
            by_cases hml : m < 2000
            · go_wp2_with (first | (go_at_call 15; refine (passes_any _ _ _).mono ?_; rintro r w' ⟨rfl, rfl⟩) | (go_at_call 16; refine (rpasses_any _ _ _).mono ?_; rintro r w' ⟨rfl, rfl⟩))
              go_round
              case rel => exact ⟨m + 1, by go_num, by omega⟩
              case measure => simp [intOf]; omega
            · go_wp2
              go_round
              case rel => exact ⟨j + 1, by go_num, by omega⟩
              case measure => simp [intOf]; omega
        · go_wp2_with (go_at_call 17; refine (awake26 _).mono ?_; rintro r w6 ⟨rfl, hb⟩; have B6 := Lib.hid (bto HB.out hb); clear hb)
          go_ret
          exact ⟨rfl, B6.out⟩
theorem phasenil_walk (e n : Int) (a b : Bool) (w : World) : Calls Try.prog 8 #[.int .i64 e, .int .i64 n, .bool a, .bool b] w fun r w' => r = .returned (.bool true) ∧ Below w.heap.size w w' := by
  have E3 : ∀ W, (Op.equalIn 10000 34 (.agg #[.int .i64 0, .int .i64 0, .int .i64 0, .int .i64 0, .int .i64 0]) (.agg #[.int .i64 0, .int .i64 0, .int .i64 0, .int .i64 0, .int .i64 0])).run Try.prog W = .ok true W := fun _ => by kernel_rfl
  go_enter Try.func8, Try.ntmps8
  go_wp2_with (first | (go_at_call 25; refine (phProved_nil _).mono ?_; rintro r w' ⟨rfl, rfl⟩) | (go_at_call 22; refine (phDo_nil _ _).mono ?_; rintro r w' ⟨rfl, rfl⟩) | (go_at_call 23; refine (phOpen_nil _ _ _).mono ?_; rintro r w' ⟨rfl, rfl⟩) | (go_at_call 21; refine (phAt_nil _).mono ?_; rintro r w' ⟨rfl, rfl⟩) | (go_at_call 24; refine (phPass_nil _ _).mono ?_; rintro r w' ⟨rfl, rfl⟩) | (go_at_call 26; refine (phTimes_nil _).mono ?_; rintro r w1 ⟨rfl, hb⟩; have B1 := Lib.hid hb; clear hb) | (go_at_call 18; refine (phNew_any _).mono ?_; rintro r w3 ⟨rfl, hx, hb⟩; have B3 := Lib.hid (bto B2.out hb); clear hb hx) | (go_at_call 20; ((with_reducible refine (phSame_nil (.pointer none) (.inl rfl) _).mono ?_); rintro r w2 ⟨rfl, n2, hn⟩; have B2 : Hid (Below w.heap.size w w2) := (by show Below _ _ _; rw [hn]; exact bdrewN B1.out n2); clear hn)) | (go_at_call 20; ((with_reducible refine (phSame_nil _ (.inr ⟨_, rfl⟩) _).mono ?_); rintro r w4 ⟨rfl, n4, hn⟩; have B4 : Hid (Below w.heap.size w w4) := (by show Below _ _ _; rw [hn]; exact bdrewN B3.out n4); clear hn)) | (go_at_call 17; refine (awake26 _).mono ?_; rintro r w6 ⟨rfl, hb⟩; have B6 := Lib.hid (bto B4.out hb); clear hb))
  go_ret
  exact ⟨rfl, B6.out⟩
end Go.Proofs.Ytandakinbcfleaa
