/-
  phase.Next: the table's answer, whatever is asked.
-/
import Derived.Test.YtandakinbcfleaaPhNext
namespace Go.Proofs.Ytandakinbcfleaa
open Go.RowKit
set_option maxRecDepth 100000
set_option maxHeartbeats 2000000
set_option linter.unusedSimpArgs false
set_option linter.unusedVariables false

theorem phEvent_yes (n : Int) (w : World) (h : 0 ≤ n ∧ n ≤ 8) : ∃ c l, Calls Try.prog 13 #[.int .i64 n] w fun e w' => e = .returned (.string ⟨(c :: l).toArray⟩) ∧ Below w.heap.size w w' := by
  have key : ∀ k, k < 9 → phEvents.getD k [] ≠ [] := by decide
  obtain ⟨k, rfl⟩ := Int.eq_ofNat_of_zero_le h.1
  have e : nameEv (k : Int) = phEvents.getD k [] := by unfold nameEv; rw [decide_eq_true h]; rfl
  have h2 := key k (by omega)
  rw [← e] at h2
  have h3 := phEvent_any (k : Int) w
  cases hn : nameEv (k : Int) with
  | nil => exact absurd hn h2
  | cons c l => rw [hn] at h3; exact ⟨c, l, h3⟩
theorem phEvent_no (n : Int) (w : World) (h : ¬ (0 ≤ n ∧ n ≤ 8)) : Calls Try.prog 13 #[.int .i64 n] w fun e w' => e = .returned (.string ⟨#[]⟩) ∧ Below w.heap.size w w' := by
  have e : nameEv n = [] := by unfold nameEv; rw [decide_eq_false h]; rfl
  have h3 := phEvent_any n w
  rw [e] at h3
  exact h3
theorem row_read (n : Int) (l : List Int) (hl : l.length = 9) (q : Int) (hq : (if 0 ≤ n then numAt l n.toNat else 0) = q) (g : Nat) (W : World) (hb : Blk W g 52 (l.map fun z => .int .i64 z)) :
    Calls Try.prog 28 #[.int .i64 n, .slice (some ⟨g, 0, none⟩) 9 9] W fun e w' => e = .returned (.int .i64 q) ∧ W = w' := by
  rw [← hq]
  refine entryI_any n _ 9 9 W.heap.size l W ⟨hl, fun _ => ⟨g, 0, rfl, hb.lt, fun j hj => ?_⟩⟩ (by omega)
  rw [Nat.zero_add, hb.cell j, List.getElem?_map, numAt_some (by omega)]
  rfl

theorem ent_0 (e : Int) (h : 0 ≤ e ∧ e ≤ 8) : (if 0 ≤ e then numAt [2, 1, 0, 0, 1, 0, 0, 0, 1] e.toNat else 0) = phEnt 0 e ∧ 0 ≤ phEnt 0 e ∧ phEnt 0 e ≤ 5 := by
  have key : ∀ b, b < 9 → (numAt [2, 1, 0, 0, 1, 0, 0, 0, 1] b = phEnt 0 (Int.ofNat b) ∧ 0 ≤ phEnt 0 (Int.ofNat b) ∧ phEnt 0 (Int.ofNat b) ≤ 5) := by decide +kernel
  obtain ⟨b, rfl⟩ := Int.eq_ofNat_of_zero_le h.1
  rw [if_pos h.1, Int.toNat_natCast]
  exact key b (by omega)
theorem next_0z (e : Int) (w : World) (h : 0 ≤ e ∧ e ≤ 8) (hq : phEnt 0 e = 0) : Calls Try.prog 9 #[.int .i64 0, .int .i64 e] w fun r w' => r = .returned (.tuple #[.int .i64 0, .int .i64 290]) ∧ Below w.heap.size w w' := by
  have EQ : ∀ W, (Op.equalIn 10000 52 (.agg #[.int .i64 2, .int .i64 1, .int .i64 0, .int .i64 0, .int .i64 1, .int .i64 0, .int .i64 0, .int .i64 0, .int .i64 1]) (.agg #[.int .i64 0, .int .i64 0, .int .i64 0, .int .i64 0, .int .i64 0, .int .i64 0, .int .i64 0, .int .i64 0, .int .i64 0])).run Try.prog W = .ok false W := fun _ => by kernel_rfl
  obtain ⟨he, hq0, hq1⟩ := ent_0 e h
  obtain ⟨q, hqe⟩ : ∃ q, phEnt 0 e = q := ⟨_, rfl⟩
  rw [hqe] at he hq hq0 hq1
  subst hq
  have HRD : Hid (∀ g W, Blk W g 52 [.int .i64 2, .int .i64 1, .int .i64 0, .int .i64 0, .int .i64 1, .int .i64 0, .int .i64 0, .int .i64 0, .int .i64 1] → Calls Try.prog 28 #[.int .i64 e, .slice (some ⟨g, 0, none⟩) 9 9] W fun e w' => e = .returned (.int .i64 0) ∧ W = w') := fun g W hb => row_read e [2, 1, 0, 0, 1, 0, 0, 0, 1] rfl _ he g W hb
  have HV : Hid (∀ W, ∃ c l, Calls Try.prog 13 #[.int .i64 e] W fun e w' => e = .returned (.string ⟨(c :: l).toArray⟩) ∧ Below W.heap.size W w') := fun W => phEvent_yes e W h
  clear he hqe h
  go_enter Try.func9, Try.ntmps9
  go_wp2_with (first | (go_at_call 27; refine (rowOf_0 _).mono ?_; rintro e w2 ⟨rfl, hb2⟩; have HB2 := Lib.hid hb2; clear hb2) | (go_at_call 13; obtain ⟨c, l, hc⟩ := HV.out _; refine hc.mono ?_; clear hc; rintro e w4 ⟨rfl, hb4⟩; have BK := Lib.hid (Blk.below (blk_new w2 52 [.int .i64 2, .int .i64 1, .int .i64 0, .int .i64 0, .int .i64 1, .int .i64 0, .int .i64 0, .int .i64 0, .int .i64 1]) hb4 (by simp)); have HB4 := Lib.hid hb4; clear hb4) | (go_at_call 28; refine (HRD.out _ _ BK.out).mono ?_; rintro e w5 ⟨rfl, rfl⟩))
  go_ret2
  exact ⟨rfl, (HB2.out.alloc HB2.out.size _).trans (HB4.out.mono (by have := HB2.out.size; simp; omega))⟩
theorem next_0y (e : Int) (w : World) (h : 0 ≤ e ∧ e ≤ 8) (hq : phEnt 0 e ≠ 0) : Calls Try.prog 9 #[.int .i64 0, .int .i64 e] w fun r w' => r = .returned (.tuple #[.int .i64 (phEnt 0 e - 1), .int .i64 0]) ∧ Below w.heap.size w w' := by
  have EQ : ∀ W, (Op.equalIn 10000 52 (.agg #[.int .i64 2, .int .i64 1, .int .i64 0, .int .i64 0, .int .i64 1, .int .i64 0, .int .i64 0, .int .i64 0, .int .i64 1]) (.agg #[.int .i64 0, .int .i64 0, .int .i64 0, .int .i64 0, .int .i64 0, .int .i64 0, .int .i64 0, .int .i64 0, .int .i64 0])).run Try.prog W = .ok false W := fun _ => by kernel_rfl
  obtain ⟨he, hq0, hq1⟩ := ent_0 e h
  obtain ⟨q, hqe⟩ : ∃ q, phEnt 0 e = q := ⟨_, rfl⟩
  rw [hqe] at he hq hq0 hq1 ⊢
  have ht : (q == 0) = false := by simpa using hq
  have HRD : Hid (∀ g W, Blk W g 52 [.int .i64 2, .int .i64 1, .int .i64 0, .int .i64 0, .int .i64 1, .int .i64 0, .int .i64 0, .int .i64 0, .int .i64 1] → Calls Try.prog 28 #[.int .i64 e, .slice (some ⟨g, 0, none⟩) 9 9] W fun e w' => e = .returned (.int .i64 q) ∧ W = w') := fun g W hb => row_read e [2, 1, 0, 0, 1, 0, 0, 0, 1] rfl _ he g W hb
  have HV : Hid (∀ W, ∃ c l, Calls Try.prog 13 #[.int .i64 e] W fun e w' => e = .returned (.string ⟨(c :: l).toArray⟩) ∧ Below W.heap.size W w') := fun W => phEvent_yes e W h
  clear he hqe h hq
  go_enter Try.func9, Try.ntmps9
  go_wp2_with (first | (go_at_call 27; refine (rowOf_0 _).mono ?_; rintro e w2 ⟨rfl, hb2⟩; have HB2 := Lib.hid hb2; clear hb2) | (go_at_call 13; obtain ⟨c, l, hc⟩ := HV.out _; refine hc.mono ?_; clear hc; rintro e w4 ⟨rfl, hb4⟩; have BK := Lib.hid (Blk.below (blk_new w2 52 [.int .i64 2, .int .i64 1, .int .i64 0, .int .i64 0, .int .i64 1, .int .i64 0, .int .i64 0, .int .i64 0, .int .i64 1]) hb4 (by simp)); have HB4 := Lib.hid hb4; clear hb4) | (go_at_call 28; refine (HRD.out _ _ BK.out).mono ?_; rintro e w5 ⟨rfl, rfl⟩))
  go_ret2
  exact ⟨rfl, (HB2.out.alloc HB2.out.size _).trans (HB4.out.mono (by have := HB2.out.size; simp; omega))⟩
theorem next_0n (e : Int) (w : World) (h : ¬ (0 ≤ e ∧ e ≤ 8)) : Calls Try.prog 9 #[.int .i64 0, .int .i64 e] w fun r w' => r = .returned (.tuple #[.int .i64 0, .int .i64 1]) ∧ Below w.heap.size w w' := by
  have EQ : ∀ W, (Op.equalIn 10000 52 (.agg #[.int .i64 2, .int .i64 1, .int .i64 0, .int .i64 0, .int .i64 1, .int .i64 0, .int .i64 0, .int .i64 0, .int .i64 1]) (.agg #[.int .i64 0, .int .i64 0, .int .i64 0, .int .i64 0, .int .i64 0, .int .i64 0, .int .i64 0, .int .i64 0, .int .i64 0])).run Try.prog W = .ok false W := fun _ => by kernel_rfl
  have HV : Hid (∀ W, Calls Try.prog 13 #[.int .i64 e] W fun e w' => e = .returned (.string ⟨#[]⟩) ∧ Below W.heap.size W w') := fun W => phEvent_no e W h
  clear h
  go_enter Try.func9, Try.ntmps9
  go_wp2_with (first | (go_at_call 27; refine (rowOf_0 _).mono ?_; rintro e w2 ⟨rfl, hb2⟩; have HB2 := Lib.hid hb2; clear hb2) | (go_at_call 13; refine (HV.out _).mono ?_; rintro e w4 ⟨rfl, hb4⟩; have HB4 := Lib.hid hb4; clear hb4))
  go_ret2
  exact ⟨rfl, (HB2.out.alloc HB2.out.size _).trans (HB4.out.mono (by have := HB2.out.size; simp; omega))⟩
theorem ent_1 (e : Int) (h : 0 ≤ e ∧ e ≤ 8) : (if 0 ≤ e then numAt [0, 1, 0, 2, 1, 0, 0, 0, 5] e.toNat else 0) = phEnt 1 e ∧ 0 ≤ phEnt 1 e ∧ phEnt 1 e ≤ 5 := by
  have key : ∀ b, b < 9 → (numAt [0, 1, 0, 2, 1, 0, 0, 0, 5] b = phEnt 1 (Int.ofNat b) ∧ 0 ≤ phEnt 1 (Int.ofNat b) ∧ phEnt 1 (Int.ofNat b) ≤ 5) := by decide +kernel
  obtain ⟨b, rfl⟩ := Int.eq_ofNat_of_zero_le h.1
  rw [if_pos h.1, Int.toNat_natCast]
  exact key b (by omega)
theorem next_1z (e : Int) (w : World) (h : 0 ≤ e ∧ e ≤ 8) (hq : phEnt 1 e = 0) : Calls Try.prog 9 #[.int .i64 1, .int .i64 e] w fun r w' => r = .returned (.tuple #[.int .i64 0, .int .i64 290]) ∧ Below w.heap.size w w' := by
  have EQ : ∀ W, (Op.equalIn 10000 52 (.agg #[.int .i64 0, .int .i64 1, .int .i64 0, .int .i64 2, .int .i64 1, .int .i64 0, .int .i64 0, .int .i64 0, .int .i64 5]) (.agg #[.int .i64 0, .int .i64 0, .int .i64 0, .int .i64 0, .int .i64 0, .int .i64 0, .int .i64 0, .int .i64 0, .int .i64 0])).run Try.prog W = .ok false W := fun _ => by kernel_rfl
  obtain ⟨he, hq0, hq1⟩ := ent_1 e h
  obtain ⟨q, hqe⟩ : ∃ q, phEnt 1 e = q := ⟨_, rfl⟩
  rw [hqe] at he hq hq0 hq1
  subst hq
  have HRD : Hid (∀ g W, Blk W g 52 [.int .i64 0, .int .i64 1, .int .i64 0, .int .i64 2, .int .i64 1, .int .i64 0, .int .i64 0, .int .i64 0, .int .i64 5] → Calls Try.prog 28 #[.int .i64 e, .slice (some ⟨g, 0, none⟩) 9 9] W fun e w' => e = .returned (.int .i64 0) ∧ W = w') := fun g W hb => row_read e [0, 1, 0, 2, 1, 0, 0, 0, 5] rfl _ he g W hb
  have HV : Hid (∀ W, ∃ c l, Calls Try.prog 13 #[.int .i64 e] W fun e w' => e = .returned (.string ⟨(c :: l).toArray⟩) ∧ Below W.heap.size W w') := fun W => phEvent_yes e W h
  clear he hqe h
  go_enter Try.func9, Try.ntmps9
  go_wp2_with (first | (go_at_call 27; refine (rowOf_1 _).mono ?_; rintro e w2 ⟨rfl, hb2⟩; have HB2 := Lib.hid hb2; clear hb2) | (go_at_call 13; obtain ⟨c, l, hc⟩ := HV.out _; refine hc.mono ?_; clear hc; rintro e w4 ⟨rfl, hb4⟩; have BK := Lib.hid (Blk.below (blk_new w2 52 [.int .i64 0, .int .i64 1, .int .i64 0, .int .i64 2, .int .i64 1, .int .i64 0, .int .i64 0, .int .i64 0, .int .i64 5]) hb4 (by simp)); have HB4 := Lib.hid hb4; clear hb4) | (go_at_call 28; refine (HRD.out _ _ BK.out).mono ?_; rintro e w5 ⟨rfl, rfl⟩))
  go_ret2
  exact ⟨rfl, (HB2.out.alloc HB2.out.size _).trans (HB4.out.mono (by have := HB2.out.size; simp; omega))⟩
theorem next_1y (e : Int) (w : World) (h : 0 ≤ e ∧ e ≤ 8) (hq : phEnt 1 e ≠ 0) : Calls Try.prog 9 #[.int .i64 1, .int .i64 e] w fun r w' => r = .returned (.tuple #[.int .i64 (phEnt 1 e - 1), .int .i64 0]) ∧ Below w.heap.size w w' := by
  have EQ : ∀ W, (Op.equalIn 10000 52 (.agg #[.int .i64 0, .int .i64 1, .int .i64 0, .int .i64 2, .int .i64 1, .int .i64 0, .int .i64 0, .int .i64 0, .int .i64 5]) (.agg #[.int .i64 0, .int .i64 0, .int .i64 0, .int .i64 0, .int .i64 0, .int .i64 0, .int .i64 0, .int .i64 0, .int .i64 0])).run Try.prog W = .ok false W := fun _ => by kernel_rfl
  obtain ⟨he, hq0, hq1⟩ := ent_1 e h
  obtain ⟨q, hqe⟩ : ∃ q, phEnt 1 e = q := ⟨_, rfl⟩
  rw [hqe] at he hq hq0 hq1 ⊢
  have ht : (q == 0) = false := by simpa using hq
  have HRD : Hid (∀ g W, Blk W g 52 [.int .i64 0, .int .i64 1, .int .i64 0, .int .i64 2, .int .i64 1, .int .i64 0, .int .i64 0, .int .i64 0, .int .i64 5] → Calls Try.prog 28 #[.int .i64 e, .slice (some ⟨g, 0, none⟩) 9 9] W fun e w' => e = .returned (.int .i64 q) ∧ W = w') := fun g W hb => row_read e [0, 1, 0, 2, 1, 0, 0, 0, 5] rfl _ he g W hb
  have HV : Hid (∀ W, ∃ c l, Calls Try.prog 13 #[.int .i64 e] W fun e w' => e = .returned (.string ⟨(c :: l).toArray⟩) ∧ Below W.heap.size W w') := fun W => phEvent_yes e W h
  clear he hqe h hq
  go_enter Try.func9, Try.ntmps9
  go_wp2_with (first | (go_at_call 27; refine (rowOf_1 _).mono ?_; rintro e w2 ⟨rfl, hb2⟩; have HB2 := Lib.hid hb2; clear hb2) | (go_at_call 13; obtain ⟨c, l, hc⟩ := HV.out _; refine hc.mono ?_; clear hc; rintro e w4 ⟨rfl, hb4⟩; have BK := Lib.hid (Blk.below (blk_new w2 52 [.int .i64 0, .int .i64 1, .int .i64 0, .int .i64 2, .int .i64 1, .int .i64 0, .int .i64 0, .int .i64 0, .int .i64 5]) hb4 (by simp)); have HB4 := Lib.hid hb4; clear hb4) | (go_at_call 28; refine (HRD.out _ _ BK.out).mono ?_; rintro e w5 ⟨rfl, rfl⟩))
  go_ret2
  exact ⟨rfl, (HB2.out.alloc HB2.out.size _).trans (HB4.out.mono (by have := HB2.out.size; simp; omega))⟩
theorem next_1n (e : Int) (w : World) (h : ¬ (0 ≤ e ∧ e ≤ 8)) : Calls Try.prog 9 #[.int .i64 1, .int .i64 e] w fun r w' => r = .returned (.tuple #[.int .i64 0, .int .i64 1]) ∧ Below w.heap.size w w' := by
  have EQ : ∀ W, (Op.equalIn 10000 52 (.agg #[.int .i64 0, .int .i64 1, .int .i64 0, .int .i64 2, .int .i64 1, .int .i64 0, .int .i64 0, .int .i64 0, .int .i64 5]) (.agg #[.int .i64 0, .int .i64 0, .int .i64 0, .int .i64 0, .int .i64 0, .int .i64 0, .int .i64 0, .int .i64 0, .int .i64 0])).run Try.prog W = .ok false W := fun _ => by kernel_rfl
  have HV : Hid (∀ W, Calls Try.prog 13 #[.int .i64 e] W fun e w' => e = .returned (.string ⟨#[]⟩) ∧ Below W.heap.size W w') := fun W => phEvent_no e W h
  clear h
  go_enter Try.func9, Try.ntmps9
  go_wp2_with (first | (go_at_call 27; refine (rowOf_1 _).mono ?_; rintro e w2 ⟨rfl, hb2⟩; have HB2 := Lib.hid hb2; clear hb2) | (go_at_call 13; refine (HV.out _).mono ?_; rintro e w4 ⟨rfl, hb4⟩; have HB4 := Lib.hid hb4; clear hb4))
  go_ret2
  exact ⟨rfl, (HB2.out.alloc HB2.out.size _).trans (HB4.out.mono (by have := HB2.out.size; simp; omega))⟩
theorem ent_2 (e : Int) (h : 0 ≤ e ∧ e ≤ 8) : (if 0 ≤ e then numAt [0, 1, 0, 2, 5, 0, 0, 5, 5] e.toNat else 0) = phEnt 2 e ∧ 0 ≤ phEnt 2 e ∧ phEnt 2 e ≤ 5 := by
  have key : ∀ b, b < 9 → (numAt [0, 1, 0, 2, 5, 0, 0, 5, 5] b = phEnt 2 (Int.ofNat b) ∧ 0 ≤ phEnt 2 (Int.ofNat b) ∧ phEnt 2 (Int.ofNat b) ≤ 5) := by decide +kernel
  obtain ⟨b, rfl⟩ := Int.eq_ofNat_of_zero_le h.1
  rw [if_pos h.1, Int.toNat_natCast]
  exact key b (by omega)
theorem next_2z (e : Int) (w : World) (h : 0 ≤ e ∧ e ≤ 8) (hq : phEnt 2 e = 0) : Calls Try.prog 9 #[.int .i64 2, .int .i64 e] w fun r w' => r = .returned (.tuple #[.int .i64 0, .int .i64 290]) ∧ Below w.heap.size w w' := by
  have EQ : ∀ W, (Op.equalIn 10000 52 (.agg #[.int .i64 0, .int .i64 1, .int .i64 0, .int .i64 2, .int .i64 5, .int .i64 0, .int .i64 0, .int .i64 5, .int .i64 5]) (.agg #[.int .i64 0, .int .i64 0, .int .i64 0, .int .i64 0, .int .i64 0, .int .i64 0, .int .i64 0, .int .i64 0, .int .i64 0])).run Try.prog W = .ok false W := fun _ => by kernel_rfl
  obtain ⟨he, hq0, hq1⟩ := ent_2 e h
  obtain ⟨q, hqe⟩ : ∃ q, phEnt 2 e = q := ⟨_, rfl⟩
  rw [hqe] at he hq hq0 hq1
  subst hq
  have HRD : Hid (∀ g W, Blk W g 52 [.int .i64 0, .int .i64 1, .int .i64 0, .int .i64 2, .int .i64 5, .int .i64 0, .int .i64 0, .int .i64 5, .int .i64 5] → Calls Try.prog 28 #[.int .i64 e, .slice (some ⟨g, 0, none⟩) 9 9] W fun e w' => e = .returned (.int .i64 0) ∧ W = w') := fun g W hb => row_read e [0, 1, 0, 2, 5, 0, 0, 5, 5] rfl _ he g W hb
  have HV : Hid (∀ W, ∃ c l, Calls Try.prog 13 #[.int .i64 e] W fun e w' => e = .returned (.string ⟨(c :: l).toArray⟩) ∧ Below W.heap.size W w') := fun W => phEvent_yes e W h
  clear he hqe h
  go_enter Try.func9, Try.ntmps9
  go_wp2_with (first | (go_at_call 27; refine (rowOf_2 _).mono ?_; rintro e w2 ⟨rfl, hb2⟩; have HB2 := Lib.hid hb2; clear hb2) | (go_at_call 13; obtain ⟨c, l, hc⟩ := HV.out _; refine hc.mono ?_; clear hc; rintro e w4 ⟨rfl, hb4⟩; have BK := Lib.hid (Blk.below (blk_new w2 52 [.int .i64 0, .int .i64 1, .int .i64 0, .int .i64 2, .int .i64 5, .int .i64 0, .int .i64 0, .int .i64 5, .int .i64 5]) hb4 (by simp)); have HB4 := Lib.hid hb4; clear hb4) | (go_at_call 28; refine (HRD.out _ _ BK.out).mono ?_; rintro e w5 ⟨rfl, rfl⟩))
  go_ret2
  exact ⟨rfl, (HB2.out.alloc HB2.out.size _).trans (HB4.out.mono (by have := HB2.out.size; simp; omega))⟩
theorem next_2y (e : Int) (w : World) (h : 0 ≤ e ∧ e ≤ 8) (hq : phEnt 2 e ≠ 0) : Calls Try.prog 9 #[.int .i64 2, .int .i64 e] w fun r w' => r = .returned (.tuple #[.int .i64 (phEnt 2 e - 1), .int .i64 0]) ∧ Below w.heap.size w w' := by
  have EQ : ∀ W, (Op.equalIn 10000 52 (.agg #[.int .i64 0, .int .i64 1, .int .i64 0, .int .i64 2, .int .i64 5, .int .i64 0, .int .i64 0, .int .i64 5, .int .i64 5]) (.agg #[.int .i64 0, .int .i64 0, .int .i64 0, .int .i64 0, .int .i64 0, .int .i64 0, .int .i64 0, .int .i64 0, .int .i64 0])).run Try.prog W = .ok false W := fun _ => by kernel_rfl
  obtain ⟨he, hq0, hq1⟩ := ent_2 e h
  obtain ⟨q, hqe⟩ : ∃ q, phEnt 2 e = q := ⟨_, rfl⟩
  rw [hqe] at he hq hq0 hq1 ⊢
  have ht : (q == 0) = false := by simpa using hq
  have HRD : Hid (∀ g W, Blk W g 52 [.int .i64 0, .int .i64 1, .int .i64 0, .int .i64 2, .int .i64 5, .int .i64 0, .int .i64 0, .int .i64 5, .int .i64 5] → Calls Try.prog 28 #[.int .i64 e, .slice (some ⟨g, 0, none⟩) 9 9] W fun e w' => e = .returned (.int .i64 q) ∧ W = w') := fun g W hb => row_read e [0, 1, 0, 2, 5, 0, 0, 5, 5] rfl _ he g W hb
  have HV : Hid (∀ W, ∃ c l, Calls Try.prog 13 #[.int .i64 e] W fun e w' => e = .returned (.string ⟨(c :: l).toArray⟩) ∧ Below W.heap.size W w') := fun W => phEvent_yes e W h
  clear he hqe h hq
  go_enter Try.func9, Try.ntmps9
  go_wp2_with (first | (go_at_call 27; refine (rowOf_2 _).mono ?_; rintro e w2 ⟨rfl, hb2⟩; have HB2 := Lib.hid hb2; clear hb2) | (go_at_call 13; obtain ⟨c, l, hc⟩ := HV.out _; refine hc.mono ?_; clear hc; rintro e w4 ⟨rfl, hb4⟩; have BK := Lib.hid (Blk.below (blk_new w2 52 [.int .i64 0, .int .i64 1, .int .i64 0, .int .i64 2, .int .i64 5, .int .i64 0, .int .i64 0, .int .i64 5, .int .i64 5]) hb4 (by simp)); have HB4 := Lib.hid hb4; clear hb4) | (go_at_call 28; refine (HRD.out _ _ BK.out).mono ?_; rintro e w5 ⟨rfl, rfl⟩))
  go_ret2
  exact ⟨rfl, (HB2.out.alloc HB2.out.size _).trans (HB4.out.mono (by have := HB2.out.size; simp; omega))⟩
theorem next_2n (e : Int) (w : World) (h : ¬ (0 ≤ e ∧ e ≤ 8)) : Calls Try.prog 9 #[.int .i64 2, .int .i64 e] w fun r w' => r = .returned (.tuple #[.int .i64 0, .int .i64 1]) ∧ Below w.heap.size w w' := by
  have EQ : ∀ W, (Op.equalIn 10000 52 (.agg #[.int .i64 0, .int .i64 1, .int .i64 0, .int .i64 2, .int .i64 5, .int .i64 0, .int .i64 0, .int .i64 5, .int .i64 5]) (.agg #[.int .i64 0, .int .i64 0, .int .i64 0, .int .i64 0, .int .i64 0, .int .i64 0, .int .i64 0, .int .i64 0, .int .i64 0])).run Try.prog W = .ok false W := fun _ => by kernel_rfl
  have HV : Hid (∀ W, Calls Try.prog 13 #[.int .i64 e] W fun e w' => e = .returned (.string ⟨#[]⟩) ∧ Below W.heap.size W w') := fun W => phEvent_no e W h
  clear h
  go_enter Try.func9, Try.ntmps9
  go_wp2_with (first | (go_at_call 27; refine (rowOf_2 _).mono ?_; rintro e w2 ⟨rfl, hb2⟩; have HB2 := Lib.hid hb2; clear hb2) | (go_at_call 13; refine (HV.out _).mono ?_; rintro e w4 ⟨rfl, hb4⟩; have HB4 := Lib.hid hb4; clear hb4))
  go_ret2
  exact ⟨rfl, (HB2.out.alloc HB2.out.size _).trans (HB4.out.mono (by have := HB2.out.size; simp; omega))⟩
theorem ent_3 (e : Int) (h : 0 ≤ e ∧ e ≤ 8) : (if 0 ≤ e then numAt [0, 1, 0, 2, 5, 0, 0, 5, 5] e.toNat else 0) = phEnt 3 e ∧ 0 ≤ phEnt 3 e ∧ phEnt 3 e ≤ 5 := by
  have key : ∀ b, b < 9 → (numAt [0, 1, 0, 2, 5, 0, 0, 5, 5] b = phEnt 3 (Int.ofNat b) ∧ 0 ≤ phEnt 3 (Int.ofNat b) ∧ phEnt 3 (Int.ofNat b) ≤ 5) := by decide +kernel
  obtain ⟨b, rfl⟩ := Int.eq_ofNat_of_zero_le h.1
  rw [if_pos h.1, Int.toNat_natCast]
  exact key b (by omega)
theorem next_3z (e : Int) (w : World) (h : 0 ≤ e ∧ e ≤ 8) (hq : phEnt 3 e = 0) : Calls Try.prog 9 #[.int .i64 3, .int .i64 e] w fun r w' => r = .returned (.tuple #[.int .i64 0, .int .i64 290]) ∧ Below w.heap.size w w' := by
  have EQ : ∀ W, (Op.equalIn 10000 52 (.agg #[.int .i64 0, .int .i64 1, .int .i64 0, .int .i64 2, .int .i64 5, .int .i64 0, .int .i64 0, .int .i64 5, .int .i64 5]) (.agg #[.int .i64 0, .int .i64 0, .int .i64 0, .int .i64 0, .int .i64 0, .int .i64 0, .int .i64 0, .int .i64 0, .int .i64 0])).run Try.prog W = .ok false W := fun _ => by kernel_rfl
  obtain ⟨he, hq0, hq1⟩ := ent_3 e h
  obtain ⟨q, hqe⟩ : ∃ q, phEnt 3 e = q := ⟨_, rfl⟩
  rw [hqe] at he hq hq0 hq1
  subst hq
  have HRD : Hid (∀ g W, Blk W g 52 [.int .i64 0, .int .i64 1, .int .i64 0, .int .i64 2, .int .i64 5, .int .i64 0, .int .i64 0, .int .i64 5, .int .i64 5] → Calls Try.prog 28 #[.int .i64 e, .slice (some ⟨g, 0, none⟩) 9 9] W fun e w' => e = .returned (.int .i64 0) ∧ W = w') := fun g W hb => row_read e [0, 1, 0, 2, 5, 0, 0, 5, 5] rfl _ he g W hb
  have HV : Hid (∀ W, ∃ c l, Calls Try.prog 13 #[.int .i64 e] W fun e w' => e = .returned (.string ⟨(c :: l).toArray⟩) ∧ Below W.heap.size W w') := fun W => phEvent_yes e W h
  clear he hqe h
  go_enter Try.func9, Try.ntmps9
  go_wp2_with (first | (go_at_call 27; refine (rowOf_3 _).mono ?_; rintro e w2 ⟨rfl, hb2⟩; have HB2 := Lib.hid hb2; clear hb2) | (go_at_call 13; obtain ⟨c, l, hc⟩ := HV.out _; refine hc.mono ?_; clear hc; rintro e w4 ⟨rfl, hb4⟩; have BK := Lib.hid (Blk.below (blk_new w2 52 [.int .i64 0, .int .i64 1, .int .i64 0, .int .i64 2, .int .i64 5, .int .i64 0, .int .i64 0, .int .i64 5, .int .i64 5]) hb4 (by simp)); have HB4 := Lib.hid hb4; clear hb4) | (go_at_call 28; refine (HRD.out _ _ BK.out).mono ?_; rintro e w5 ⟨rfl, rfl⟩))
  go_ret2
  exact ⟨rfl, (HB2.out.alloc HB2.out.size _).trans (HB4.out.mono (by have := HB2.out.size; simp; omega))⟩
theorem next_3y (e : Int) (w : World) (h : 0 ≤ e ∧ e ≤ 8) (hq : phEnt 3 e ≠ 0) : Calls Try.prog 9 #[.int .i64 3, .int .i64 e] w fun r w' => r = .returned (.tuple #[.int .i64 (phEnt 3 e - 1), .int .i64 0]) ∧ Below w.heap.size w w' := by
  have EQ : ∀ W, (Op.equalIn 10000 52 (.agg #[.int .i64 0, .int .i64 1, .int .i64 0, .int .i64 2, .int .i64 5, .int .i64 0, .int .i64 0, .int .i64 5, .int .i64 5]) (.agg #[.int .i64 0, .int .i64 0, .int .i64 0, .int .i64 0, .int .i64 0, .int .i64 0, .int .i64 0, .int .i64 0, .int .i64 0])).run Try.prog W = .ok false W := fun _ => by kernel_rfl
  obtain ⟨he, hq0, hq1⟩ := ent_3 e h
  obtain ⟨q, hqe⟩ : ∃ q, phEnt 3 e = q := ⟨_, rfl⟩
  rw [hqe] at he hq hq0 hq1 ⊢
  have ht : (q == 0) = false := by simpa using hq
  have HRD : Hid (∀ g W, Blk W g 52 [.int .i64 0, .int .i64 1, .int .i64 0, .int .i64 2, .int .i64 5, .int .i64 0, .int .i64 0, .int .i64 5, .int .i64 5] → Calls Try.prog 28 #[.int .i64 e, .slice (some ⟨g, 0, none⟩) 9 9] W fun e w' => e = .returned (.int .i64 q) ∧ W = w') := fun g W hb => row_read e [0, 1, 0, 2, 5, 0, 0, 5, 5] rfl _ he g W hb
  have HV : Hid (∀ W, ∃ c l, Calls Try.prog 13 #[.int .i64 e] W fun e w' => e = .returned (.string ⟨(c :: l).toArray⟩) ∧ Below W.heap.size W w') := fun W => phEvent_yes e W h
  clear he hqe h hq
  go_enter Try.func9, Try.ntmps9
  go_wp2_with (first | (go_at_call 27; refine (rowOf_3 _).mono ?_; rintro e w2 ⟨rfl, hb2⟩; have HB2 := Lib.hid hb2; clear hb2) | (go_at_call 13; obtain ⟨c, l, hc⟩ := HV.out _; refine hc.mono ?_; clear hc; rintro e w4 ⟨rfl, hb4⟩; have BK := Lib.hid (Blk.below (blk_new w2 52 [.int .i64 0, .int .i64 1, .int .i64 0, .int .i64 2, .int .i64 5, .int .i64 0, .int .i64 0, .int .i64 5, .int .i64 5]) hb4 (by simp)); have HB4 := Lib.hid hb4; clear hb4) | (go_at_call 28; refine (HRD.out _ _ BK.out).mono ?_; rintro e w5 ⟨rfl, rfl⟩))
  go_ret2
  exact ⟨rfl, (HB2.out.alloc HB2.out.size _).trans (HB4.out.mono (by have := HB2.out.size; simp; omega))⟩
theorem next_3n (e : Int) (w : World) (h : ¬ (0 ≤ e ∧ e ≤ 8)) : Calls Try.prog 9 #[.int .i64 3, .int .i64 e] w fun r w' => r = .returned (.tuple #[.int .i64 0, .int .i64 1]) ∧ Below w.heap.size w w' := by
  have EQ : ∀ W, (Op.equalIn 10000 52 (.agg #[.int .i64 0, .int .i64 1, .int .i64 0, .int .i64 2, .int .i64 5, .int .i64 0, .int .i64 0, .int .i64 5, .int .i64 5]) (.agg #[.int .i64 0, .int .i64 0, .int .i64 0, .int .i64 0, .int .i64 0, .int .i64 0, .int .i64 0, .int .i64 0, .int .i64 0])).run Try.prog W = .ok false W := fun _ => by kernel_rfl
  have HV : Hid (∀ W, Calls Try.prog 13 #[.int .i64 e] W fun e w' => e = .returned (.string ⟨#[]⟩) ∧ Below W.heap.size W w') := fun W => phEvent_no e W h
  clear h
  go_enter Try.func9, Try.ntmps9
  go_wp2_with (first | (go_at_call 27; refine (rowOf_3 _).mono ?_; rintro e w2 ⟨rfl, hb2⟩; have HB2 := Lib.hid hb2; clear hb2) | (go_at_call 13; refine (HV.out _).mono ?_; rintro e w4 ⟨rfl, hb4⟩; have HB4 := Lib.hid hb4; clear hb4))
  go_ret2
  exact ⟨rfl, (HB2.out.alloc HB2.out.size _).trans (HB4.out.mono (by have := HB2.out.size; simp; omega))⟩
theorem ent_4 (e : Int) (h : 0 ≤ e ∧ e ≤ 8) : (if 0 ≤ e then numAt [0, 1, 0, 5, 1, 0, 0, 5, 5] e.toNat else 0) = phEnt 4 e ∧ 0 ≤ phEnt 4 e ∧ phEnt 4 e ≤ 5 := by
  have key : ∀ b, b < 9 → (numAt [0, 1, 0, 5, 1, 0, 0, 5, 5] b = phEnt 4 (Int.ofNat b) ∧ 0 ≤ phEnt 4 (Int.ofNat b) ∧ phEnt 4 (Int.ofNat b) ≤ 5) := by decide +kernel
  obtain ⟨b, rfl⟩ := Int.eq_ofNat_of_zero_le h.1
  rw [if_pos h.1, Int.toNat_natCast]
  exact key b (by omega)
theorem next_4z (e : Int) (w : World) (h : 0 ≤ e ∧ e ≤ 8) (hq : phEnt 4 e = 0) : Calls Try.prog 9 #[.int .i64 4, .int .i64 e] w fun r w' => r = .returned (.tuple #[.int .i64 0, .int .i64 290]) ∧ Below w.heap.size w w' := by
  have EQ : ∀ W, (Op.equalIn 10000 52 (.agg #[.int .i64 0, .int .i64 1, .int .i64 0, .int .i64 5, .int .i64 1, .int .i64 0, .int .i64 0, .int .i64 5, .int .i64 5]) (.agg #[.int .i64 0, .int .i64 0, .int .i64 0, .int .i64 0, .int .i64 0, .int .i64 0, .int .i64 0, .int .i64 0, .int .i64 0])).run Try.prog W = .ok false W := fun _ => by kernel_rfl
  obtain ⟨he, hq0, hq1⟩ := ent_4 e h
  obtain ⟨q, hqe⟩ : ∃ q, phEnt 4 e = q := ⟨_, rfl⟩
  rw [hqe] at he hq hq0 hq1
  subst hq
  have HRD : Hid (∀ g W, Blk W g 52 [.int .i64 0, .int .i64 1, .int .i64 0, .int .i64 5, .int .i64 1, .int .i64 0, .int .i64 0, .int .i64 5, .int .i64 5] → Calls Try.prog 28 #[.int .i64 e, .slice (some ⟨g, 0, none⟩) 9 9] W fun e w' => e = .returned (.int .i64 0) ∧ W = w') := fun g W hb => row_read e [0, 1, 0, 5, 1, 0, 0, 5, 5] rfl _ he g W hb
  have HV : Hid (∀ W, ∃ c l, Calls Try.prog 13 #[.int .i64 e] W fun e w' => e = .returned (.string ⟨(c :: l).toArray⟩) ∧ Below W.heap.size W w') := fun W => phEvent_yes e W h
  clear he hqe h
  go_enter Try.func9, Try.ntmps9
  go_wp2_with (first | (go_at_call 27; refine (rowOf_4 _).mono ?_; rintro e w2 ⟨rfl, hb2⟩; have HB2 := Lib.hid hb2; clear hb2) | (go_at_call 13; obtain ⟨c, l, hc⟩ := HV.out _; refine hc.mono ?_; clear hc; rintro e w4 ⟨rfl, hb4⟩; have BK := Lib.hid (Blk.below (blk_new w2 52 [.int .i64 0, .int .i64 1, .int .i64 0, .int .i64 5, .int .i64 1, .int .i64 0, .int .i64 0, .int .i64 5, .int .i64 5]) hb4 (by simp)); have HB4 := Lib.hid hb4; clear hb4) | (go_at_call 28; refine (HRD.out _ _ BK.out).mono ?_; rintro e w5 ⟨rfl, rfl⟩))
  go_ret2
  exact ⟨rfl, (HB2.out.alloc HB2.out.size _).trans (HB4.out.mono (by have := HB2.out.size; simp; omega))⟩
theorem next_4y (e : Int) (w : World) (h : 0 ≤ e ∧ e ≤ 8) (hq : phEnt 4 e ≠ 0) : Calls Try.prog 9 #[.int .i64 4, .int .i64 e] w fun r w' => r = .returned (.tuple #[.int .i64 (phEnt 4 e - 1), .int .i64 0]) ∧ Below w.heap.size w w' := by
  have EQ : ∀ W, (Op.equalIn 10000 52 (.agg #[.int .i64 0, .int .i64 1, .int .i64 0, .int .i64 5, .int .i64 1, .int .i64 0, .int .i64 0, .int .i64 5, .int .i64 5]) (.agg #[.int .i64 0, .int .i64 0, .int .i64 0, .int .i64 0, .int .i64 0, .int .i64 0, .int .i64 0, .int .i64 0, .int .i64 0])).run Try.prog W = .ok false W := fun _ => by kernel_rfl
  obtain ⟨he, hq0, hq1⟩ := ent_4 e h
  obtain ⟨q, hqe⟩ : ∃ q, phEnt 4 e = q := ⟨_, rfl⟩
  rw [hqe] at he hq hq0 hq1 ⊢
  have ht : (q == 0) = false := by simpa using hq
  have HRD : Hid (∀ g W, Blk W g 52 [.int .i64 0, .int .i64 1, .int .i64 0, .int .i64 5, .int .i64 1, .int .i64 0, .int .i64 0, .int .i64 5, .int .i64 5] → Calls Try.prog 28 #[.int .i64 e, .slice (some ⟨g, 0, none⟩) 9 9] W fun e w' => e = .returned (.int .i64 q) ∧ W = w') := fun g W hb => row_read e [0, 1, 0, 5, 1, 0, 0, 5, 5] rfl _ he g W hb
  have HV : Hid (∀ W, ∃ c l, Calls Try.prog 13 #[.int .i64 e] W fun e w' => e = .returned (.string ⟨(c :: l).toArray⟩) ∧ Below W.heap.size W w') := fun W => phEvent_yes e W h
  clear he hqe h hq
  go_enter Try.func9, Try.ntmps9
  go_wp2_with (first | (go_at_call 27; refine (rowOf_4 _).mono ?_; rintro e w2 ⟨rfl, hb2⟩; have HB2 := Lib.hid hb2; clear hb2) | (go_at_call 13; obtain ⟨c, l, hc⟩ := HV.out _; refine hc.mono ?_; clear hc; rintro e w4 ⟨rfl, hb4⟩; have BK := Lib.hid (Blk.below (blk_new w2 52 [.int .i64 0, .int .i64 1, .int .i64 0, .int .i64 5, .int .i64 1, .int .i64 0, .int .i64 0, .int .i64 5, .int .i64 5]) hb4 (by simp)); have HB4 := Lib.hid hb4; clear hb4) | (go_at_call 28; refine (HRD.out _ _ BK.out).mono ?_; rintro e w5 ⟨rfl, rfl⟩))
  go_ret2
  exact ⟨rfl, (HB2.out.alloc HB2.out.size _).trans (HB4.out.mono (by have := HB2.out.size; simp; omega))⟩
theorem next_4n (e : Int) (w : World) (h : ¬ (0 ≤ e ∧ e ≤ 8)) : Calls Try.prog 9 #[.int .i64 4, .int .i64 e] w fun r w' => r = .returned (.tuple #[.int .i64 0, .int .i64 1]) ∧ Below w.heap.size w w' := by
  have EQ : ∀ W, (Op.equalIn 10000 52 (.agg #[.int .i64 0, .int .i64 1, .int .i64 0, .int .i64 5, .int .i64 1, .int .i64 0, .int .i64 0, .int .i64 5, .int .i64 5]) (.agg #[.int .i64 0, .int .i64 0, .int .i64 0, .int .i64 0, .int .i64 0, .int .i64 0, .int .i64 0, .int .i64 0, .int .i64 0])).run Try.prog W = .ok false W := fun _ => by kernel_rfl
  have HV : Hid (∀ W, Calls Try.prog 13 #[.int .i64 e] W fun e w' => e = .returned (.string ⟨#[]⟩) ∧ Below W.heap.size W w') := fun W => phEvent_no e W h
  clear h
  go_enter Try.func9, Try.ntmps9
  go_wp2_with (first | (go_at_call 27; refine (rowOf_4 _).mono ?_; rintro e w2 ⟨rfl, hb2⟩; have HB2 := Lib.hid hb2; clear hb2) | (go_at_call 13; refine (HV.out _).mono ?_; rintro e w4 ⟨rfl, hb4⟩; have HB4 := Lib.hid hb4; clear hb4))
  go_ret2
  exact ⟨rfl, (HB2.out.alloc HB2.out.size _).trans (HB4.out.mono (by have := HB2.out.size; simp; omega))⟩
theorem next_no (s e : Int) (w : World) (h : s < 0 ∨ 5 ≤ s) : Calls Try.prog 9 #[.int .i64 s, .int .i64 e] w fun r w' => r = .returned (.tuple #[.int .i64 0, .int .i64 1]) ∧ Below w.heap.size w w' := by
  have EQ : ∀ W, (Op.equalIn 10000 52 (.agg #[.int .i64 0, .int .i64 0, .int .i64 0, .int .i64 0, .int .i64 0, .int .i64 0, .int .i64 0, .int .i64 0, .int .i64 0]) (.agg #[.int .i64 0, .int .i64 0, .int .i64 0, .int .i64 0, .int .i64 0, .int .i64 0, .int .i64 0, .int .i64 0, .int .i64 0])).run Try.prog W = .ok true W := fun _ => by kernel_rfl
  have HR := Lib.hid (rowOf_no s w h)
  clear h
  go_enter Try.func9, Try.ntmps9
  go_wp2_with (go_at_call 27; refine HR.out.mono ?_; rintro e w2 ⟨rfl, hb2⟩; have HB2 := Lib.hid hb2; clear hb2)
  go_ret2
  exact ⟨rfl, HB2.out.alloc HB2.out.size _⟩
/-- whatever is asked -/
theorem phNext_any (s e : Int) (w : World) : Calls Try.prog 9 #[.int .i64 s, .int .i64 e] w fun r w' => r = .returned (.tuple #[.int .i64 (nxPS s e), .int .i64 (nxPE s e)]) ∧ Below w.heap.size w w' := by
  by_cases hs : 0 ≤ s ∧ s ≤ 4
  · by_cases he : 0 ≤ e ∧ e ≤ 8
    · have ho : okPE s e = true := decide_eq_true ⟨hs.1, hs.2, he.1, he.2⟩
      by_cases hq : phEnt s e = 0
      · have e1 : nxPE s e = 290 := by unfold nxPE; rw [ho, if_pos rfl, if_pos hq]
        have e2 : nxPS s e = 0 := by unfold nxPS; rw [e1]; rfl
        rw [e1, e2]
        have hc : s = 0 ∨ s = 1 ∨ s = 2 ∨ s = 3 ∨ s = 4 := by omega
        rcases hc with rfl | rfl | rfl | rfl | rfl
        · exact next_0z e w he hq
        · exact next_1z e w he hq
        · exact next_2z e w he hq
        · exact next_3z e w he hq
        · exact next_4z e w he hq
      · have e1 : nxPE s e = 0 := by unfold nxPE; rw [ho, if_pos rfl, if_neg hq]
        have e2 : nxPS s e = phEnt s e - 1 := by unfold nxPS; rw [e1]; rfl
        rw [e1, e2]
        have hc : s = 0 ∨ s = 1 ∨ s = 2 ∨ s = 3 ∨ s = 4 := by omega
        rcases hc with rfl | rfl | rfl | rfl | rfl
        · exact next_0y e w he hq
        · exact next_1y e w he hq
        · exact next_2y e w he hq
        · exact next_3y e w he hq
        · exact next_4y e w he hq
    · have ho : okPE s e = false := decide_eq_false fun h => he ⟨h.2.2.1, h.2.2.2⟩
      have e1 : nxPE s e = 1 := by unfold nxPE; rw [ho]; rfl
      have e2 : nxPS s e = 0 := by unfold nxPS; rw [e1]; rfl
      rw [e1, e2]
      have hc : s = 0 ∨ s = 1 ∨ s = 2 ∨ s = 3 ∨ s = 4 := by omega
      rcases hc with rfl | rfl | rfl | rfl | rfl
      · exact next_0n e w he
      · exact next_1n e w he
      · exact next_2n e w he
      · exact next_3n e w he
      · exact next_4n e w he
  · have ho : okPE s e = false := decide_eq_false fun h => hs ⟨h.1, h.2.1⟩
    have e1 : nxPE s e = 1 := by unfold nxPE; rw [ho]; rfl
    have e2 : nxPS s e = 0 := by unfold nxPS; rw [e1]; rfl
    rw [e1, e2]
    exact next_no s e w (by omega)
end Go.Proofs.Ytandakinbcfleaa
