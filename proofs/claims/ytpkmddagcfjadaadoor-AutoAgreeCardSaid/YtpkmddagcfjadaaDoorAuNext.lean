/-
  auto.Next: the next state and the actions.
-/
import Derived.Test.YtpkmddagcfjadaaDoorAuWords
import Derived.Test.YtpkmddagcfjadaaDoorAuMath
import Derived.Laws.BitsAllLaws
namespace Go.Proofs.YtpkmddagcfjadaaDoor
open Go.RowKit
set_option maxRecDepth 100000
set_option maxHeartbeats 2000000
set_option linter.unusedSimpArgs false
set_option linter.unusedVariables false

/-- the table lies in the program's variable -/
def TabA (w : World) : Prop := ∀ i, i < 160 → w.cell? ⟨0, i, none⟩ = some (.int .u16 ((auT.getD i 0 : Nat) : Int))
theorem TabA.kept {w w' : World} (h : TabA w) (hB : Below w.heap.size w w') : TabA w' := fun i hi => by
  have h1 := h i hi
  exact (hB.cell (p := ⟨0, i, none⟩) (World.block_lt_of_cell? _ _ h1)).trans h1
theorem TabA.keptB {w w' : World} {base : Nat} (h : TabA w) (hB : Below base w w') (hb : 0 < base) : TabA w' := fun i hi =>
  (hB.cell (p := ⟨0, i, none⟩) hb).trans (h i hi)
theorem TabA.lt {w : World} (h : TabA w) : 0 < w.heap.size := World.block_lt_of_cell? _ _ (h 0 (by omega))

theorem isState_any (n : Int) (w : World) : Calls Tryd.prog 38 #[.int .i64 n] w fun e w' => e = .returned (.bool (decide (0 ≤ n ∧ n ≤ 9))) ∧ w = w' := by
  by_cases h : 0 ≤ n
  · by_cases h2 : n < 10
    · rw [decide_eq_true (by omega)]
      go_enter Tryd.func38, Tryd.ntmps38
      go_wp2
      go_ret
      exact ⟨rfl, rfl⟩
    · rw [decide_eq_false (by omega)]
      go_enter Tryd.func38, Tryd.ntmps38
      go_wp2
      go_ret
      exact ⟨rfl, rfl⟩
  · rw [decide_eq_false (by omega)]
    go_enter Tryd.func38, Tryd.ntmps38
    go_wp2
    go_ret
    exact ⟨rfl, rfl⟩
theorem isEvent_any (n : Int) (w : World) : Calls Tryd.prog 39 #[.int .i64 n] w fun e w' => e = .returned (.bool (decide (0 ≤ n ∧ n ≤ 15))) ∧ w = w' := by
  by_cases h : 0 ≤ n
  · by_cases h2 : n < 16
    · rw [decide_eq_true (by omega)]
      go_enter Tryd.func39, Tryd.ntmps39
      go_wp2
      go_ret
      exact ⟨rfl, rfl⟩
    · rw [decide_eq_false (by omega)]
      go_enter Tryd.func39, Tryd.ntmps39
      go_wp2
      go_ret
      exact ⟨rfl, rfl⟩
  · rw [decide_eq_false (by omega)]
    go_enter Tryd.func39, Tryd.ntmps39
    go_wp2
    go_ret
    exact ⟨rfl, rfl⟩
theorem isState_yes (n : Int) (w : World) (h : 0 ≤ n ∧ n ≤ 9) : Calls Tryd.prog 38 #[.int .i64 n] w fun e w' => e = .returned (.bool true) ∧ w = w' := by
  have := isState_any n w; rwa [decide_eq_true h] at this
theorem isState_no (n : Int) (w : World) (h : ¬ (0 ≤ n ∧ n ≤ 9)) : Calls Tryd.prog 38 #[.int .i64 n] w fun e w' => e = .returned (.bool false) ∧ w = w' := by
  have := isState_any n w; rwa [decide_eq_false h] at this
theorem isEvent_yes (n : Int) (w : World) (h : 0 ≤ n ∧ n ≤ 15) : Calls Tryd.prog 39 #[.int .i64 n] w fun e w' => e = .returned (.bool true) ∧ w = w' := by
  have := isEvent_any n w; rwa [decide_eq_true h] at this
theorem isEvent_no (n : Int) (w : World) (h : ¬ (0 ≤ n ∧ n ≤ 15)) : Calls Tryd.prog 39 #[.int .i64 n] w fun e w' => e = .returned (.bool false) ∧ w = w' := by
  have := isEvent_any n w; rwa [decide_eq_false h] at this

theorem next_bad1 (s e : Int) (w : World) (h : ¬ (0 ≤ s ∧ s ≤ 9)) : Calls Tryd.prog 12 #[.int .i64 s, .int .i64 e] w fun r w' => r = .returned (.tuple #[.int .i64 0, .slice none 0 0, .int .i64 1]) ∧ w = w' := by
  have H := Lib.hid h
  clear h
  go_enter Tryd.func12, Tryd.ntmps12
  go_wp2_with (go_at_call 38; refine (isState_no _ _ H.out).mono ?_; rintro e w' ⟨rfl, rfl⟩)
  go_ret3
  exact ⟨rfl, rfl⟩
theorem next_bad2 (s e : Int) (w : World) (h : 0 ≤ s ∧ s ≤ 9) (h2 : ¬ (0 ≤ e ∧ e ≤ 15)) : Calls Tryd.prog 12 #[.int .i64 s, .int .i64 e] w fun r w' => r = .returned (.tuple #[.int .i64 0, .slice none 0 0, .int .i64 1]) ∧ w = w' := by
  have H := Lib.hid h
  have H2 := Lib.hid h2
  clear h h2
  go_enter Tryd.func12, Tryd.ntmps12
  go_wp2_with (first | (go_at_call 38; refine (isState_yes _ _ H.out).mono ?_; rintro e w' ⟨rfl, rfl⟩) | (go_at_call 39; refine (isEvent_no _ _ H2.out).mono ?_; rintro e w' ⟨rfl, rfl⟩))
  go_ret3
  exact ⟨rfl, rfl⟩
theorem next_never (s e : Nat) (w : World) (hs : s < 10) (he : e < 16) (hT : TabA w) (hn : auN s e = 15) : Calls Tryd.prog 12 #[.int .i64 s, .int .i64 e] w fun r w' => r = .returned (.tuple #[.int .i64 0, .slice none 0 0, .int .i64 290]) ∧ w = w' := by
  have hc := hT (e * 10 + s) (by omega)
  rw [show auT.getD (e * 10 + s) 0 = 15 from hn] at hc
  clear hn
  go_enter Tryd.func12, Tryd.ntmps12
  go_wp2_with (first | (go_at_call 38; refine (isState_yes _ _ ⟨by omega, by omega⟩).mono ?_; rintro e w' ⟨rfl, rfl⟩) | (go_at_call 39; refine (isEvent_yes _ _ ⟨by omega, by omega⟩).mono ?_; rintro e w' ⟨rfl, rfl⟩))
  go_ret3
  exact ⟨rfl, rfl⟩
theorem and15_u16 (x : Nat) (h : x < 65536) : bits .and .u16 (x : Int) 15 = (x : Int) % 16 := by
  have h2 := u16_and_nat x 15 h (by omega)
  rw [show x &&& 15 = x % 16 from Nat.and_two_pow_sub_one_eq_mod x 4] at h2
  exact h2
theorem next_good (s e : Nat) (w : World) (hs : s < 10) (he : e < 16) (hT : TabA w) (x : Nat) (hx : auN s e = x) (hn : x ≠ 15) (hx2 : x < 65536) : Calls Tryd.prog 12 #[.int .i64 s, .int .i64 e] w fun r w' => ∃ v, r = .returned (.tuple #[.int .i64 ((x % 16 : Nat) : Int), v, .int .i64 0]) ∧ OwnI w' w.heap.size v (dg (x / 16)) ∧ Below w.heap.size w w' := by
  have hc := hT (e * 10 + s) (by omega)
  rw [show auT.getD (e * 10 + s) 0 = x from hx] at hc
  clear hx
  have h15 : ((x : Int) == 15) = false := by simp; omega
  go_enter Tryd.func12, Tryd.ntmps12
  go_wp2_with (first | (go_at_call 38; refine (isState_yes _ _ ⟨by omega, by omega⟩).mono ?_; rintro e w' ⟨rfl, rfl⟩) | (go_at_call 39; refine (isEvent_yes _ _ ⟨by omega, by omega⟩).mono ?_; rintro e w' ⟨rfl, rfl⟩))
  go_loopw [8, 9] (fun v i wr => ∃ (m : Nat) (acc : List Int), i = .int .u16 m ∧ m < 4096 ∧ OwnI wr w.heap.size v acc ∧ acc ++ dg m = dg (x / 16) ∧ acc.length + (dg m).length ≤ 3 ∧ Below w.heap.size w wr) (fun _ i _ => (intOf i).toNat)
  case atStart => exact ⟨x / 16, [], by rw [Int.natCast_ediv]; rfl, by omega, OwnI.nil _ _, rfl, by have := dg_length (x / 16); simpa using this, Below.refl _ _⟩
  case round =>
    rename_i wr
    obtain ⟨m, acc, rfl, hm, ho, hd, hl, hB⟩ := hrel
    obtain ⟨A0, c0, rfl, hc0, hz0⟩ := ho.slice
    by_cases h0 : m = 0
    · subst h0
      rw [dg_zero, List.append_nil] at hd
      have HO := Lib.hid ho
      have HB := Lib.hid hB
      have HD := Lib.hid hd
      clear ho hB hd hc0 hz0
      obtain ⟨q, hq⟩ : ∃ q : Nat, x % 16 = q := ⟨_, rfl⟩
      have hx16 : bits .and .u16 (x : Int) 15 = (q : Int) := by rw [and15_u16 x hx2]; omega
      have hq2 : q < 16 := by omega
      have HQ := Lib.hid hq
      clear hq
      go_wp2
      go_ret3
      exact ⟨_, by rw [HQ.out]; rfl, by rw [← HD.out]; exact HO.out, HB.out⟩
    · have hst := dg_step m h0 hm
      rw [hst, List.length_cons] at hl
      obtain ⟨v', w2, hrun, h3, h4, h5, h6⟩ := appI_one ho ((m % 16 : Nat) : Int) (by omega) hB.size
      rw [show (((m % 16 : Nat) : Int)) = (m : Int) % 16 by omega] at hrun h3
      have HN : Hid (acc ++ [(m : Int) % 16] ++ dg (m / 16) = dg (x / 16)) := by
        show _ = _
        rw [← hd, hst, List.append_assoc]
        congr 2
      have HL : Hid ((acc ++ [(m : Int) % 16]).length + (dg (m / 16)).length ≤ 3) := by
        show _ ≤ _
        rw [List.length_append, List.length_singleton]
        omega
      have h0' : ((m : Int) != 0) = true := by simp; omega
      obtain ⟨q, hq⟩ : ∃ q : Int, (m : Int) % 16 = q := ⟨_, rfl⟩
      have hx16 : bits .and .u16 (m : Int) 15 = q := by rw [and15_u16 m (by omega)]; exact hq
      have hq1 : 0 ≤ q := by omega
      have hq2 : q < 16 := by omega
      rw [hq] at HN HL hrun h3
      clear hq
      have HR := Lib.hid hrun
      have HO := Lib.hid h3
      have HB := Lib.hid (hB.trans h4)
      clear ho hB hd hc0 hz0 hst hl hrun h3 h4 h5 h6
      go_wp2_with (at_builtin; refine wpList_appR 22 22 rfl (.tmp 31) (.tmp 35) rfl _ _ rfl rfl _ _ HR.out ?_)
      go_roundw
      case rel => exact ⟨m / 16, _, by rw [Int.natCast_ediv]; rfl, by omega, HO.out, HN.out, HL.out, HB.out⟩
      case measure => simp [intOf]; omega
/-- whatever is asked -/
theorem next_any (s e : Int) (w : World) (hT : TabA w) : Calls Tryd.prog 12 #[.int .i64 s, .int .i64 e] w fun r w' => ∃ v, r = .returned (.tuple #[.int .i64 (nxS s e), v, .int .i64 (nxE s e)]) ∧ OwnI w' w.heap.size v (nxA s e) ∧ Below w.heap.size w w' := by
  by_cases h : 0 ≤ s ∧ s ≤ 9 ∧ 0 ≤ e ∧ e ≤ 15
  · obtain ⟨k, rfl⟩ := Int.eq_ofNat_of_zero_le h.1
    obtain ⟨j, rfl⟩ := Int.eq_ofNat_of_zero_le h.2.2.1
    by_cases hn : auN k j = 15
    · obtain ⟨h1, h2, h3⟩ := nx_never (by omega) (by omega) hn
      rw [h1, h2, h3]
      refine (next_never k j w (by omega) (by omega) hT hn).mono ?_
      rintro r w' ⟨rfl, rfl⟩
      exact ⟨_, rfl, OwnI.nil _ _, Below.refl _ _⟩
    · obtain ⟨h1, h2, h3⟩ := nx_good (by omega) (by omega) hn
      rw [h1, h2, h3]
      exact next_good k j w (by omega) (by omega) hT _ rfl hn (auN_lt k (by omega) j (by omega)).1
  · obtain ⟨h1, h2, h3⟩ := nx_bad h
    rw [h1, h2, h3]
    by_cases hs : 0 ≤ s ∧ s ≤ 9
    · refine (next_bad2 s e w hs (fun h2 => h ⟨hs.1, hs.2, h2⟩)).mono ?_
      rintro r w' ⟨rfl, rfl⟩
      exact ⟨_, rfl, OwnI.nil _ _, Below.refl _ _⟩
    · refine (next_bad1 s e w hs).mono ?_
      rintro r w' ⟨rfl, rfl⟩
      exact ⟨_, rfl, OwnI.nil _ _, Below.refl _ _⟩
end Go.Proofs.YtpkmddagcfjadaaDoor
