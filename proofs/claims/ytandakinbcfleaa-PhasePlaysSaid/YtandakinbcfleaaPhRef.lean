/-
  tetherref26: the table and the names.
-/
import Derived.Test.YtandakinbcfleaaPhDo
namespace Go.Proofs.Ytandakinbcfleaa
open Go.RowKit
set_option maxRecDepth 100000
set_option maxHeartbeats 4000000
set_option linter.unusedSimpArgs false
set_option linter.unusedVariables false


theorem rphName_0 (w : World) : Calls Try.prog 12 #[.int .i64 0] w fun e w' => e = .returned (.string ⟨#[68, 101, 97, 100]⟩) ∧ Below w.heap.size w w' := by
  go_enter Try.func12, Try.ntmps12
  go_wp2
  go_ret
  exact ⟨rfl, (Below.refl _ _).alloc (Nat.le_refl _) _⟩
theorem rphName_1 (w : World) : Calls Try.prog 12 #[.int .i64 1] w fun e w' => e = .returned (.string ⟨#[69, 115, 116, 97, 98, 108, 105, 115, 104]⟩) ∧ Below w.heap.size w w' := by
  go_enter Try.func12, Try.ntmps12
  go_wp2
  go_ret
  exact ⟨rfl, (Below.refl _ _).alloc (Nat.le_refl _) _⟩
theorem rphName_2 (w : World) : Calls Try.prog 12 #[.int .i64 2] w fun e w' => e = .returned (.string ⟨#[65, 117, 116, 104, 101, 110, 116, 105, 99, 97, 116, 101]⟩) ∧ Below w.heap.size w w' := by
  go_enter Try.func12, Try.ntmps12
  go_wp2
  go_ret
  exact ⟨rfl, (Below.refl _ _).alloc (Nat.le_refl _) _⟩
theorem rphName_3 (w : World) : Calls Try.prog 12 #[.int .i64 3] w fun e w' => e = .returned (.string ⟨#[78, 101, 116, 119, 111, 114, 107]⟩) ∧ Below w.heap.size w w' := by
  go_enter Try.func12, Try.ntmps12
  go_wp2
  go_ret
  exact ⟨rfl, (Below.refl _ _).alloc (Nat.le_refl _) _⟩
theorem rphName_4 (w : World) : Calls Try.prog 12 #[.int .i64 4] w fun e w' => e = .returned (.string ⟨#[84, 101, 114, 109, 105, 110, 97, 116, 101]⟩) ∧ Below w.heap.size w w' := by
  go_enter Try.func12, Try.ntmps12
  go_wp2
  go_ret
  exact ⟨rfl, (Below.refl _ _).alloc (Nat.le_refl _) _⟩
theorem rphName_any (n : Int) (w : World) : Calls Try.prog 12 #[.int .i64 n] w fun e w' => e = .returned (.string ⟨(nameP n).toArray⟩) ∧ Below w.heap.size w w' := by
  by_cases h : 0 ≤ n ∧ n ≤ 4
  · have hc : n = 0 ∨ n = 1 ∨ n = 2 ∨ n = 3 ∨ n = 4 := by omega
    clear h
    rcases hc with rfl | rfl | rfl | rfl | rfl
    · exact rphName_0 w
    · exact rphName_1 w
    · exact rphName_2 w
    · exact rphName_3 w
    · exact rphName_4 w
  · rw [show nameP n = [] by unfold nameP; rw [decide_eq_false h]; rfl]
    by_cases h0 : n < 0
    · clear h
      go_enter Try.func12, Try.ntmps12
      go_wp2
      go_ret
      exact ⟨rfl, Below.refl _ _⟩
    · have h1 : 4 < n := by omega
      clear h
      go_enter Try.func12, Try.ntmps12
      go_wp2
      go_ret
      exact ⟨rfl, Below.refl _ _⟩
theorem rphEvent_0 (w : World) : Calls Try.prog 14 #[.int .i64 0] w fun e w' => e = .returned (.string ⟨#[85, 112]⟩) ∧ Below w.heap.size w w' := by
  go_enter Try.func14, Try.ntmps14
  go_wp2
  go_ret
  exact ⟨rfl, (Below.refl _ _).alloc (Nat.le_refl _) _⟩
theorem rphEvent_1 (w : World) : Calls Try.prog 14 #[.int .i64 1] w fun e w' => e = .returned (.string ⟨#[68, 111, 119, 110]⟩) ∧ Below w.heap.size w w' := by
  go_enter Try.func14, Try.ntmps14
  go_wp2
  go_ret
  exact ⟨rfl, (Below.refl _ _).alloc (Nat.le_refl _) _⟩
theorem rphEvent_2 (w : World) : Calls Try.prog 14 #[.int .i64 2] w fun e w' => e = .returned (.string ⟨#[79, 112, 101, 110, 101, 100]⟩) ∧ Below w.heap.size w w' := by
  go_enter Try.func14, Try.ntmps14
  go_wp2
  go_ret
  exact ⟨rfl, (Below.refl _ _).alloc (Nat.le_refl _) _⟩
theorem rphEvent_3 (w : World) : Calls Try.prog 14 #[.int .i64 3] w fun e w' => e = .returned (.string ⟨#[82, 101, 110, 101, 103]⟩) ∧ Below w.heap.size w w' := by
  go_enter Try.func14, Try.ntmps14
  go_wp2
  go_ret
  exact ⟨rfl, (Below.refl _ _).alloc (Nat.le_refl _) _⟩
theorem rphEvent_4 (w : World) : Calls Try.prog 14 #[.int .i64 4] w fun e w' => e = .returned (.string ⟨#[70, 105, 110, 105, 115, 104, 101, 100]⟩) ∧ Below w.heap.size w w' := by
  go_enter Try.func14, Try.ntmps14
  go_wp2
  go_ret
  exact ⟨rfl, (Below.refl _ _).alloc (Nat.le_refl _) _⟩
theorem rphEvent_5 (w : World) : Calls Try.prog 14 #[.int .i64 5] w fun e w' => e = .returned (.string ⟨#[84, 104, 101, 105, 114, 115]⟩) ∧ Below w.heap.size w w' := by
  go_enter Try.func14, Try.ntmps14
  go_wp2
  go_ret
  exact ⟨rfl, (Below.refl _ _).alloc (Nat.le_refl _) _⟩
theorem rphEvent_6 (w : World) : Calls Try.prog 14 #[.int .i64 6] w fun e w' => e = .returned (.string ⟨#[77, 105, 110, 101]⟩) ∧ Below w.heap.size w w' := by
  go_enter Try.func14, Try.ntmps14
  go_wp2
  go_ret
  exact ⟨rfl, (Below.refl _ _).alloc (Nat.le_refl _) _⟩
theorem rphEvent_7 (w : World) : Calls Try.prog 14 #[.int .i64 7] w fun e w' => e = .returned (.string ⟨#[66, 97, 100]⟩) ∧ Below w.heap.size w w' := by
  go_enter Try.func14, Try.ntmps14
  go_wp2
  go_ret
  exact ⟨rfl, (Below.refl _ _).alloc (Nat.le_refl _) _⟩
theorem rphEvent_8 (w : World) : Calls Try.prog 14 #[.int .i64 8] w fun e w' => e = .returned (.string ⟨#[67, 108, 111, 115, 101]⟩) ∧ Below w.heap.size w w' := by
  go_enter Try.func14, Try.ntmps14
  go_wp2
  go_ret
  exact ⟨rfl, (Below.refl _ _).alloc (Nat.le_refl _) _⟩
theorem rphEvent_any (n : Int) (w : World) : Calls Try.prog 14 #[.int .i64 n] w fun e w' => e = .returned (.string ⟨(nameEv n).toArray⟩) ∧ Below w.heap.size w w' := by
  by_cases h : 0 ≤ n ∧ n ≤ 8
  · have hc : n = 0 ∨ n = 1 ∨ n = 2 ∨ n = 3 ∨ n = 4 ∨ n = 5 ∨ n = 6 ∨ n = 7 ∨ n = 8 := by omega
    clear h
    rcases hc with rfl | rfl | rfl | rfl | rfl | rfl | rfl | rfl | rfl
    · exact rphEvent_0 w
    · exact rphEvent_1 w
    · exact rphEvent_2 w
    · exact rphEvent_3 w
    · exact rphEvent_4 w
    · exact rphEvent_5 w
    · exact rphEvent_6 w
    · exact rphEvent_7 w
    · exact rphEvent_8 w
  · rw [show nameEv n = [] by unfold nameEv; rw [decide_eq_false h]; rfl]
    by_cases h0 : n < 0
    · clear h
      go_enter Try.func14, Try.ntmps14
      go_wp2
      go_ret
      exact ⟨rfl, Below.refl _ _⟩
    · have h1 : 8 < n := by omega
      clear h
      go_enter Try.func14, Try.ntmps14
      go_wp2
      go_ret
      exact ⟨rfl, Below.refl _ _⟩
theorem rent_0 (e : Int) (h : 0 ≤ e ∧ e ≤ 8) (w : World) : Calls Try.prog 29 #[.int .i64 0, .int .i64 e] w fun r w' => r = .returned (.int .i64 (phEnt 0 e - 1)) ∧ w = w' := by
  have hc : e = 0 ∨ e = 1 ∨ e = 2 ∨ e = 3 ∨ e = 4 ∨ e = 5 ∨ e = 6 ∨ e = 7 ∨ e = 8 := by omega
  clear h
  rcases hc with rfl | rfl | rfl | rfl | rfl | rfl | rfl | rfl | rfl
  · rw [show phEnt 0 0 - 1 = 1 from by decide]
    go_enter Try.func29, Try.ntmps29
    go_wp2
    go_ret
    exact ⟨rfl, rfl⟩
  · rw [show phEnt 0 1 - 1 = 0 from by decide]
    go_enter Try.func29, Try.ntmps29
    go_wp2
    go_ret
    exact ⟨rfl, rfl⟩
  · rw [show phEnt 0 2 - 1 = -1 from by decide]
    go_enter Try.func29, Try.ntmps29
    go_wp2
    go_ret
    exact ⟨rfl, rfl⟩
  · rw [show phEnt 0 3 - 1 = -1 from by decide]
    go_enter Try.func29, Try.ntmps29
    go_wp2
    go_ret
    exact ⟨rfl, rfl⟩
  · rw [show phEnt 0 4 - 1 = 0 from by decide]
    go_enter Try.func29, Try.ntmps29
    go_wp2
    go_ret
    exact ⟨rfl, rfl⟩
  · rw [show phEnt 0 5 - 1 = -1 from by decide]
    go_enter Try.func29, Try.ntmps29
    go_wp2
    go_ret
    exact ⟨rfl, rfl⟩
  · rw [show phEnt 0 6 - 1 = -1 from by decide]
    go_enter Try.func29, Try.ntmps29
    go_wp2
    go_ret
    exact ⟨rfl, rfl⟩
  · rw [show phEnt 0 7 - 1 = -1 from by decide]
    go_enter Try.func29, Try.ntmps29
    go_wp2
    go_ret
    exact ⟨rfl, rfl⟩
  · rw [show phEnt 0 8 - 1 = 0 from by decide]
    go_enter Try.func29, Try.ntmps29
    go_wp2
    go_ret
    exact ⟨rfl, rfl⟩
theorem rent_1 (e : Int) (h : 0 ≤ e ∧ e ≤ 8) (w : World) : Calls Try.prog 29 #[.int .i64 1, .int .i64 e] w fun r w' => r = .returned (.int .i64 (phEnt 1 e - 1)) ∧ w = w' := by
  have hc : e = 0 ∨ e = 1 ∨ e = 2 ∨ e = 3 ∨ e = 4 ∨ e = 5 ∨ e = 6 ∨ e = 7 ∨ e = 8 := by omega
  clear h
  rcases hc with rfl | rfl | rfl | rfl | rfl | rfl | rfl | rfl | rfl
  · rw [show phEnt 1 0 - 1 = -1 from by decide]
    go_enter Try.func29, Try.ntmps29
    go_wp2
    go_ret
    exact ⟨rfl, rfl⟩
  · rw [show phEnt 1 1 - 1 = 0 from by decide]
    go_enter Try.func29, Try.ntmps29
    go_wp2
    go_ret
    exact ⟨rfl, rfl⟩
  · rw [show phEnt 1 2 - 1 = -1 from by decide]
    go_enter Try.func29, Try.ntmps29
    go_wp2
    go_ret
    exact ⟨rfl, rfl⟩
  · rw [show phEnt 1 3 - 1 = 1 from by decide]
    go_enter Try.func29, Try.ntmps29
    go_wp2
    go_ret
    exact ⟨rfl, rfl⟩
  · rw [show phEnt 1 4 - 1 = 0 from by decide]
    go_enter Try.func29, Try.ntmps29
    go_wp2
    go_ret
    exact ⟨rfl, rfl⟩
  · rw [show phEnt 1 5 - 1 = -1 from by decide]
    go_enter Try.func29, Try.ntmps29
    go_wp2
    go_ret
    exact ⟨rfl, rfl⟩
  · rw [show phEnt 1 6 - 1 = -1 from by decide]
    go_enter Try.func29, Try.ntmps29
    go_wp2
    go_ret
    exact ⟨rfl, rfl⟩
  · rw [show phEnt 1 7 - 1 = -1 from by decide]
    go_enter Try.func29, Try.ntmps29
    go_wp2
    go_ret
    exact ⟨rfl, rfl⟩
  · rw [show phEnt 1 8 - 1 = 4 from by decide]
    go_enter Try.func29, Try.ntmps29
    go_wp2
    go_ret
    exact ⟨rfl, rfl⟩
theorem rent_2 (e : Int) (h : 0 ≤ e ∧ e ≤ 8) (w : World) : Calls Try.prog 29 #[.int .i64 2, .int .i64 e] w fun r w' => r = .returned (.int .i64 (phEnt 2 e - 1)) ∧ w = w' := by
  have hc : e = 0 ∨ e = 1 ∨ e = 2 ∨ e = 3 ∨ e = 4 ∨ e = 5 ∨ e = 6 ∨ e = 7 ∨ e = 8 := by omega
  clear h
  rcases hc with rfl | rfl | rfl | rfl | rfl | rfl | rfl | rfl | rfl
  · rw [show phEnt 2 0 - 1 = -1 from by decide]
    go_enter Try.func29, Try.ntmps29
    go_wp2
    go_ret
    exact ⟨rfl, rfl⟩
  · rw [show phEnt 2 1 - 1 = 0 from by decide]
    go_enter Try.func29, Try.ntmps29
    go_wp2
    go_ret
    exact ⟨rfl, rfl⟩
  · rw [show phEnt 2 2 - 1 = -1 from by decide]
    go_enter Try.func29, Try.ntmps29
    go_wp2
    go_ret
    exact ⟨rfl, rfl⟩
  · rw [show phEnt 2 3 - 1 = 1 from by decide]
    go_enter Try.func29, Try.ntmps29
    go_wp2
    go_ret
    exact ⟨rfl, rfl⟩
  · rw [show phEnt 2 4 - 1 = 4 from by decide]
    go_enter Try.func29, Try.ntmps29
    go_wp2
    go_ret
    exact ⟨rfl, rfl⟩
  · rw [show phEnt 2 5 - 1 = -1 from by decide]
    go_enter Try.func29, Try.ntmps29
    go_wp2
    go_ret
    exact ⟨rfl, rfl⟩
  · rw [show phEnt 2 6 - 1 = -1 from by decide]
    go_enter Try.func29, Try.ntmps29
    go_wp2
    go_ret
    exact ⟨rfl, rfl⟩
  · rw [show phEnt 2 7 - 1 = 4 from by decide]
    go_enter Try.func29, Try.ntmps29
    go_wp2
    go_ret
    exact ⟨rfl, rfl⟩
  · rw [show phEnt 2 8 - 1 = 4 from by decide]
    go_enter Try.func29, Try.ntmps29
    go_wp2
    go_ret
    exact ⟨rfl, rfl⟩
theorem rent_3 (e : Int) (h : 0 ≤ e ∧ e ≤ 8) (w : World) : Calls Try.prog 29 #[.int .i64 3, .int .i64 e] w fun r w' => r = .returned (.int .i64 (phEnt 3 e - 1)) ∧ w = w' := by
  have hc : e = 0 ∨ e = 1 ∨ e = 2 ∨ e = 3 ∨ e = 4 ∨ e = 5 ∨ e = 6 ∨ e = 7 ∨ e = 8 := by omega
  clear h
  rcases hc with rfl | rfl | rfl | rfl | rfl | rfl | rfl | rfl | rfl
  · rw [show phEnt 3 0 - 1 = -1 from by decide]
    go_enter Try.func29, Try.ntmps29
    go_wp2
    go_ret
    exact ⟨rfl, rfl⟩
  · rw [show phEnt 3 1 - 1 = 0 from by decide]
    go_enter Try.func29, Try.ntmps29
    go_wp2
    go_ret
    exact ⟨rfl, rfl⟩
  · rw [show phEnt 3 2 - 1 = -1 from by decide]
    go_enter Try.func29, Try.ntmps29
    go_wp2
    go_ret
    exact ⟨rfl, rfl⟩
  · rw [show phEnt 3 3 - 1 = 1 from by decide]
    go_enter Try.func29, Try.ntmps29
    go_wp2
    go_ret
    exact ⟨rfl, rfl⟩
  · rw [show phEnt 3 4 - 1 = 4 from by decide]
    go_enter Try.func29, Try.ntmps29
    go_wp2
    go_ret
    exact ⟨rfl, rfl⟩
  · rw [show phEnt 3 5 - 1 = -1 from by decide]
    go_enter Try.func29, Try.ntmps29
    go_wp2
    go_ret
    exact ⟨rfl, rfl⟩
  · rw [show phEnt 3 6 - 1 = -1 from by decide]
    go_enter Try.func29, Try.ntmps29
    go_wp2
    go_ret
    exact ⟨rfl, rfl⟩
  · rw [show phEnt 3 7 - 1 = 4 from by decide]
    go_enter Try.func29, Try.ntmps29
    go_wp2
    go_ret
    exact ⟨rfl, rfl⟩
  · rw [show phEnt 3 8 - 1 = 4 from by decide]
    go_enter Try.func29, Try.ntmps29
    go_wp2
    go_ret
    exact ⟨rfl, rfl⟩
theorem rent_4 (e : Int) (h : 0 ≤ e ∧ e ≤ 8) (w : World) : Calls Try.prog 29 #[.int .i64 4, .int .i64 e] w fun r w' => r = .returned (.int .i64 (phEnt 4 e - 1)) ∧ w = w' := by
  have hc : e = 0 ∨ e = 1 ∨ e = 2 ∨ e = 3 ∨ e = 4 ∨ e = 5 ∨ e = 6 ∨ e = 7 ∨ e = 8 := by omega
  clear h
  rcases hc with rfl | rfl | rfl | rfl | rfl | rfl | rfl | rfl | rfl
  · rw [show phEnt 4 0 - 1 = -1 from by decide]
    go_enter Try.func29, Try.ntmps29
    go_wp2
    go_ret
    exact ⟨rfl, rfl⟩
  · rw [show phEnt 4 1 - 1 = 0 from by decide]
    go_enter Try.func29, Try.ntmps29
    go_wp2
    go_ret
    exact ⟨rfl, rfl⟩
  · rw [show phEnt 4 2 - 1 = -1 from by decide]
    go_enter Try.func29, Try.ntmps29
    go_wp2
    go_ret
    exact ⟨rfl, rfl⟩
  · rw [show phEnt 4 3 - 1 = 4 from by decide]
    go_enter Try.func29, Try.ntmps29
    go_wp2
    go_ret
    exact ⟨rfl, rfl⟩
  · rw [show phEnt 4 4 - 1 = 0 from by decide]
    go_enter Try.func29, Try.ntmps29
    go_wp2
    go_ret
    exact ⟨rfl, rfl⟩
  · rw [show phEnt 4 5 - 1 = -1 from by decide]
    go_enter Try.func29, Try.ntmps29
    go_wp2
    go_ret
    exact ⟨rfl, rfl⟩
  · rw [show phEnt 4 6 - 1 = -1 from by decide]
    go_enter Try.func29, Try.ntmps29
    go_wp2
    go_ret
    exact ⟨rfl, rfl⟩
  · rw [show phEnt 4 7 - 1 = 4 from by decide]
    go_enter Try.func29, Try.ntmps29
    go_wp2
    go_ret
    exact ⟨rfl, rfl⟩
  · rw [show phEnt 4 8 - 1 = 4 from by decide]
    go_enter Try.func29, Try.ntmps29
    go_wp2
    go_ret
    exact ⟨rfl, rfl⟩
theorem rent_any (s e : Int) (hs : 0 ≤ s ∧ s ≤ 4) (h : 0 ≤ e ∧ e ≤ 8) (w : World) : Calls Try.prog 29 #[.int .i64 s, .int .i64 e] w fun r w' => r = .returned (.int .i64 (phEnt s e - 1)) ∧ w = w' := by
  have hc : s = 0 ∨ s = 1 ∨ s = 2 ∨ s = 3 ∨ s = 4 := by omega
  rcases hc with rfl | rfl | rfl | rfl | rfl
  · exact rent_0 e h w
  · exact rent_1 e h w
  · exact rent_2 e h w
  · exact rent_3 e h w
  · exact rent_4 e h w
theorem ent_bounds (s e : Int) (hs : 0 ≤ s ∧ s ≤ 4) (h : 0 ≤ e ∧ e ≤ 8) : 0 ≤ phEnt s e ∧ phEnt s e ≤ 5 := by
  have hc : s = 0 ∨ s = 1 ∨ s = 2 ∨ s = 3 ∨ s = 4 := by omega
  rcases hc with rfl | rfl | rfl | rfl | rfl
  · exact (ent_0 e h).2
  · exact (ent_1 e h).2
  · exact (ent_2 e h).2
  · exact (ent_3 e h).2
  · exact (ent_4 e h).2
theorem rphNext_any (s e : Int) (w : World) : Calls Try.prog 10 #[.int .i64 s, .int .i64 e] w fun r w' => r = .returned (.tuple #[.int .i64 (nxPS s e), .int .i64 (nxPE s e)]) ∧ w = w' := by
  by_cases h : 0 ≤ s ∧ s ≤ 4 ∧ 0 ≤ e ∧ e ≤ 8
  · have ho : okPE s e = true := decide_eq_true h
    have HE := Lib.hid (rent_any s e ⟨h.1, h.2.1⟩ h.2.2 w)
    have hb := ent_bounds s e ⟨h.1, h.2.1⟩ h.2.2
    obtain ⟨h1, h2, h3, h4⟩ := h
    by_cases hq : phEnt s e = 0
    · have e1 : nxPE s e = 290 := by unfold nxPE; rw [ho, if_pos rfl, if_pos hq]
      have e2 : nxPS s e = 0 := by unfold nxPS; rw [e1]; rfl
      rw [e1, e2]
      rw [hq] at HE
      clear e1 e2 hq hb ho
      go_enter Try.func10, Try.ntmps10
      go_wp2_with (go_at_call 29; refine HE.out.mono ?_; rintro r w' ⟨rfl, rfl⟩)
      go_ret2
      exact ⟨rfl, rfl⟩
    · have e1 : nxPE s e = 0 := by unfold nxPE; rw [ho, if_pos rfl, if_neg hq]
      have e2 : nxPS s e = phEnt s e - 1 := by unfold nxPS; rw [e1]; rfl
      rw [e1, e2]
      obtain ⟨q, hqq⟩ : ∃ q, phEnt s e = q := ⟨_, rfl⟩
      rw [hqq] at HE hb hq ⊢
      have h5 : 0 < q := by omega
      clear e1 e2 hqq ho hq
      go_enter Try.func10, Try.ntmps10
      go_wp2_with (go_at_call 29; refine HE.out.mono ?_; rintro r w' ⟨rfl, rfl⟩)
      go_ret2
      exact ⟨rfl, rfl⟩
  · have ho : okPE s e = false := decide_eq_false h
    have e1 : nxPE s e = 1 := by unfold nxPE; rw [ho]; rfl
    have e2 : nxPS s e = 0 := by unfold nxPS; rw [e1]; rfl
    rw [e1, e2]
    clear e1 e2 ho
    have hc : s < 0 ∨ (0 ≤ s ∧ 4 < s) ∨ (0 ≤ s ∧ s ≤ 4 ∧ e < 0) ∨ (0 ≤ s ∧ s ≤ 4 ∧ 0 ≤ e ∧ 8 < e) := by omega
    clear h
    rcases hc with h | ⟨h, h2⟩ | ⟨h, h2, h3⟩ | ⟨h, h2, h3, h4⟩
    all_goals
      go_enter Try.func10, Try.ntmps10
      go_wp2
      go_ret2
      exact ⟨rfl, rfl⟩
end Go.Proofs.Ytandakinbcfleaa
