/-
  The reference's Sends; the law AutoSends.
-/
import Derived.Test.YtpkmddagcfjadaaDoorAuSnd
namespace Go.Proofs.YtpkmddagcfjadaaDoor
open Go.RowKit
set_option maxRecDepth 100000
set_option maxHeartbeats 4000000
set_option linter.unusedSimpArgs false
set_option linter.unusedVariables false

theorem rsends_any (A : Option Addr) (n c B : Nat) (l : List Int) (w : World) (hr : RdI w B A n l) (hB : B ≤ w.heap.size) (hm : n ≤ 17592186044416) :
    Calls Tryd.prog 23 #[.slice A n c] w fun e w' => ∃ v, e = .returned v ∧ OwnI w' w.heap.size v (snd l) ∧ Below w.heap.size w w' := by
  have HR := Lib.hid hr
  have HL : Hid (l.length = n) := hr.1
  clear hr
  go_enter Tryd.func23, Tryd.ntmps23
  go_wp2
  go_loopw [8, 3] (fun i v wr => ∃ k : Nat, k ≤ n ∧ i = .int .i64 k ∧ SndJ w wr l k v) (fun i _ _ => n - (intOf i).toNat)
  case atStart => exact ⟨0, Nat.zero_le _, rfl, OwnI.nil _ _, Below.refl _ _⟩
  case round =>
    rename_i wr
    obtain ⟨k, hk, rfl, hj⟩ := hrel
    obtain ⟨A0, m0, c0, rfl⟩ := hj.1.shape
    by_cases hlt : k < n
    · obtain ⟨b, off, rfl, hb, hc⟩ := (HR.out.below hj.2 hB).2 (by omega)
      have hcell := hc k hlt
      obtain ⟨y, hy⟩ : ∃ y, numAt l k = y := ⟨_, rfl⟩
      rw [hy] at hcell
      have hlk : k < l.length := by have := HL.out; omega
      clear hc
      by_cases h7 : y = 7
      · subst h7
        obtain ⟨v', w', hrun, hj2⟩ := sndJ_app (z := 1) hj hlk hy rfl (by have := HL.out; omega)
        have RUN := Lib.hid hrun
        have NX := Lib.hid hj2
        clear hj hy hlk hrun hj2
        go_wp2_with (at_builtin; refine wpList_appR 22 22 rfl (.tmp 15) (.tmp 16) rfl _ _ rfl rfl _ _ RUN.out ?_)
        go_roundw
        case rel => exact ⟨k + 1, by omega, by go_num, NX.out⟩
        case measure => simp [intOf]; omega
      by_cases h8 : y = 8
      · subst h8
        obtain ⟨v', w', hrun, hj2⟩ := sndJ_app (z := 2) hj hlk hy rfl (by have := HL.out; omega)
        have RUN := Lib.hid hrun
        have NX := Lib.hid hj2
        clear hj hy hlk hrun hj2
        go_wp2_with (at_builtin; refine wpList_appR 22 22 rfl (.tmp 20) (.tmp 21) rfl _ _ rfl rfl _ _ RUN.out ?_)
        go_roundw
        case rel => exact ⟨k + 1, by omega, by go_num, NX.out⟩
        case measure => simp [intOf]; omega
      by_cases h9 : y = 9
      · subst h9
        obtain ⟨v', w', hrun, hj2⟩ := sndJ_app (z := 3) hj hlk hy rfl (by have := HL.out; omega)
        have RUN := Lib.hid hrun
        have NX := Lib.hid hj2
        clear hj hy hlk hrun hj2
        go_wp2_with (at_builtin; refine wpList_appR 22 22 rfl (.tmp 25) (.tmp 26) rfl _ _ rfl rfl _ _ RUN.out ?_)
        go_roundw
        case rel => exact ⟨k + 1, by omega, by go_num, NX.out⟩
        case measure => simp [intOf]; omega
      by_cases h10 : y = 10
      · subst h10
        obtain ⟨v', w', hrun, hj2⟩ := sndJ_app (z := 5) hj hlk hy rfl (by have := HL.out; omega)
        have RUN := Lib.hid hrun
        have NX := Lib.hid hj2
        clear hj hy hlk hrun hj2
        go_wp2_with (at_builtin; refine wpList_appR 22 22 rfl (.tmp 30) (.tmp 31) rfl _ _ rfl rfl _ _ RUN.out ?_)
        go_roundw
        case rel => exact ⟨k + 1, by omega, by go_num, NX.out⟩
        case measure => simp [intOf]; omega
      by_cases h11 : y = 11
      · subst h11
        obtain ⟨v', w', hrun, hj2⟩ := sndJ_app (z := 6) hj hlk hy rfl (by have := HL.out; omega)
        have RUN := Lib.hid hrun
        have NX := Lib.hid hj2
        clear hj hy hlk hrun hj2
        go_wp2_with (at_builtin; refine wpList_appR 22 22 rfl (.tmp 35) (.tmp 36) rfl _ _ rfl rfl _ _ RUN.out ?_)
        go_roundw
        case rel => exact ⟨k + 1, by omega, by go_num, NX.out⟩
        case measure => simp [intOf]; omega
      by_cases h12 : y = 12
      · subst h12
        obtain ⟨v', w', hrun, hj2⟩ := sndJ_app (z := 7) hj hlk hy rfl (by have := HL.out; omega)
        have RUN := Lib.hid hrun
        have NX := Lib.hid hj2
        clear hj hy hlk hrun hj2
        go_wp2_with (at_builtin; refine wpList_appR 22 22 rfl (.tmp 40) (.tmp 41) rfl _ _ rfl rfl _ _ RUN.out ?_)
        go_roundw
        case rel => exact ⟨k + 1, by omega, by go_num, NX.out⟩
        case measure => simp [intOf]; omega
      by_cases h13 : y = 13
      · subst h13
        obtain ⟨v', w', hrun, hj2⟩ := sndJ_app (z := 10) hj hlk hy rfl (by have := HL.out; omega)
        have RUN := Lib.hid hrun
        have NX := Lib.hid hj2
        clear hj hy hlk hrun hj2
        go_wp2_with (at_builtin; refine wpList_appR 22 22 rfl (.tmp 45) (.tmp 46) rfl _ _ rfl rfl _ _ RUN.out ?_)
        go_roundw
        case rel => exact ⟨k + 1, by omega, by go_num, NX.out⟩
        case measure => simp [intOf]; omega
      have t7 : (y == 7) = false := by simpa using h7
      have t8 : (y == 8) = false := by simpa using h8
      have t9 : (y == 9) = false := by simpa using h9
      have t10 : (y == 10) = false := by simpa using h10
      have t11 : (y == 11) = false := by simpa using h11
      have t12 : (y == 12) = false := by simpa using h12
      have t13 : (y == 13) = false := by simpa using h13
      have NX := Lib.hid (sndJ_same hj hlk hy (sn1_none (by omega)))
      clear hj hy hlk h7 h8 h9 h10 h11 h12 h13
      go_wp2
      go_roundw
      case rel => exact ⟨k + 1, by omega, by go_num, NX.out⟩
      case measure => simp [intOf]; omega
    · obtain rfl : k = n := by omega
      have HJ := Lib.hid hj
      have HE : Hid (l.take k = l) := List.take_of_length_le (by have := HL.out; omega)
      clear hj
      go_wp2
      go_ret
      exact ⟨_, rfl, by rw [← HE.out]; exact HJ.out.1, HJ.out.2⟩
end Go.Proofs.YtpkmddagcfjadaaDoor
