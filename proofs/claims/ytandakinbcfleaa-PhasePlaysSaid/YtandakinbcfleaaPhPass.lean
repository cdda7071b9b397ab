/-
  spell.Proto; which protocols may pass: the program's answer and the reference's.
-/
import Derived.Test.YtandakinbcfleaaPhMath
import Derived.Laws.BitsAllLaws
import Derived.Lib.RabinKarpLaws
namespace Go.Proofs.Ytandakinbcfleaa
open Go.RowKit
set_option maxRecDepth 100000
set_option maxHeartbeats 1000000
set_option linter.unusedSimpArgs false
set_option linter.unusedVariables false

theorem i64_and_nat (a b : Nat) (ha : a < 9223372036854775808) (hb : b < 9223372036854775808) : bits .and .i64 (a : Int) (b : Int) = ((a &&& b : Nat) : Int) := by
  have ea : (BitVec.ofInt 64 (a : Int)).toNat = a := by rw [BitVec.toNat_ofInt]; omega
  have eb : (BitVec.ofInt 64 (b : Int)).toNat = b := by rw [BitVec.toNat_ofInt]; omega
  have key : (BitVec.ofInt 64 (a : Int) &&& BitVec.ofInt 64 (b : Int)).toNat = a &&& b := by rw [BitVec.toNat_and, ea, eb]
  show IntKind.i64.wrap ((BitVec.ofInt 64 (a : Int) &&& BitVec.ofInt 64 (b : Int)).toNat : Nat) = _
  have hle : a &&& b ≤ a := Nat.and_le_left
  rw [key, IntKind.wrap_i64]
  omega
theorem and257_nat (m : Nat) : m &&& 257 = m % 2 + 256 * (m / 256 % 2) := by
  have h1 : m &&& 1 = m % 2 := Nat.and_two_pow_sub_one_eq_mod m 1
  have h2 : m &&& 256 = 256 * (m / 256 % 2) := by
    have a := Nat.and_mod_two_pow (a := m) (b := 256) (n := 8)
    have b := Nat.and_div_two_pow (a := m) (b := 256) (n := 8)
    have c : m / 2 ^ 8 &&& 256 / 2 ^ 8 = m / 256 % 2 := Nat.and_two_pow_sub_one_eq_mod (m / 256) 1
    rw [c] at b
    rw [show 256 % 2 ^ 8 = 0 from rfl, Nat.and_zero] at a
    omega
  have h3 : (257 : Nat) = 2 ^ 8 * 1 ||| 1 := by decide
  have h4 := Nat.two_pow_add_eq_or_of_lt (show m % 2 < 2 ^ 8 by omega) (m / 256 % 2)
  rw [h3, Nat.and_or_distrib_left, show 2 ^ 8 * 1 = 256 from rfl, h1, h2, Nat.add_comm]
  exact h4.symm
theorem and257 (n : Int) (h0 : 0 < n) (h1 : n ≤ 65535) : (bits .and .i64 n 257 == 1) = protP n := by
  obtain ⟨m, rfl⟩ := Int.eq_ofNat_of_zero_le (show 0 ≤ n by omega)
  have e : bits .and .i64 (m : Int) 257 = ((m &&& 257 : Nat) : Int) := i64_and_nat m 257 (by omega) (by omega)
  rw [e]
  have hb : m &&& 257 = m % 2 + 256 * (m / 256 % 2) := and257_nat m
  unfold protP
  rw [hb, Bool.eq_iff_iff]
  simp
  omega
theorem proto_any (n : Int) (w : World) : Calls Try.prog 32 #[.int .i64 n] w fun e w' => e = .returned (.bool (protP n)) ∧ w = w' := by
  by_cases h0 : 0 < n
  · by_cases h1 : n ≤ 65535
    · have e := and257 n h0 h1
      have d0 : decide (0 < n) = true := by simp; omega
      have d1 : decide (n ≤ 65535) = true := by simp; omega
      cases hp : protP n
      all_goals
        rw [hp] at e
        clear hp
        go_enter Try.func32, Try.ntmps32
        go_wp2
        go_ret
        exact ⟨rfl, rfl⟩
    · have e : protP n = false := by unfold protP; simp; omega
      rw [e]
      have d0 : decide (0 < n) = true := by simp; omega
      have d1 : decide (n ≤ 65535) = false := by simp; omega
      go_enter Try.func32, Try.ntmps32
      go_wp2
      go_ret
      exact ⟨rfl, rfl⟩
  · have e : protP n = false := by unfold protP; simp; omega
    rw [e]
    have d0 : decide (0 < n) = false := by simp; omega
    go_enter Try.func32, Try.ntmps32
    go_wp2
    go_ret
    exact ⟨rfl, rfl⟩
theorem rproto_any (n : Int) (w : World) : Calls Try.prog 33 #[.int .i64 n] w fun e w' => e = .returned (.bool (protP n)) ∧ w = w' := by
  by_cases h0 : 1 ≤ n
  · have d0 : decide (1 ≤ n) = true := by simpa using h0
    by_cases h1 : n ≤ 65535
    · have d1 : decide (n ≤ 65535) = true := by simpa using h1
      have e : protP n = ((n % 2 == 1) && (n / 256 % 2 == 0)) := by
        unfold protP
        rw [Bool.eq_iff_iff]
        simp
        omega
      rw [e]
      rcases e1 : (n % 2 == 1) with _ | _
      · clear e
        go_enter Try.func33, Try.ntmps33
        go_wp2
        go_ret
        exact ⟨rfl, rfl⟩
      · rcases e2 : (n / 256 % 2 == 0) with _ | _
        all_goals
          clear e
          go_enter Try.func33, Try.ntmps33
          go_wp2
          go_ret
          exact ⟨rfl, rfl⟩
    · have d1 : decide (n ≤ 65535) = false := by simpa using h1
      have e : protP n = false := by unfold protP; simp; omega
      rw [e]
      go_enter Try.func33, Try.ntmps33
      go_wp2
      go_ret
      exact ⟨rfl, rfl⟩
  · have d0 : decide (1 ≤ n) = false := by simpa using h0
    have e : protP n = false := by unfold protP; simp; omega
    rw [e]
    go_enter Try.func33, Try.ntmps33
    go_wp2
    go_ret
    exact ⟨rfl, rfl⟩

theorem ofLink_any (n : Int) (w : World) : Calls Try.prog 31 #[.int .i64 n] w fun e w' => e = .returned (.bool (ofLinkB n)) ∧ w = w' := by
  by_cases h : n = 49185 ∨ n = 49187 ∨ n = 49699 ∨ n = 49703
  · rw [show ofLinkB n = true from decide_eq_true h]
    rcases h with rfl | rfl | rfl | rfl
    all_goals
      go_enter Try.func31, Try.ntmps31
      go_wp2
      go_ret
      exact ⟨rfl, rfl⟩
  · rw [show ofLinkB n = false from decide_eq_false h]
    have t1 : (n == 49185) = false := by simp; omega
    have t2 : (n == 49187) = false := by simp; omega
    have t3 : (n == 49699) = false := by simp; omega
    have t4 : (n == 49703) = false := by simp; omega
    clear h
    go_enter Try.func31, Try.ntmps31
    go_wp2
    go_ret
    exact ⟨rfl, rfl⟩
theorem passes_any (s n : Int) (w : World) : Calls Try.prog 15 #[.int .i64 s, .int .i64 n] w fun e w' => e = .returned (.bool (passB s n)) ∧ w = w' := by
  by_cases h14 : s = 1 ∨ s = 4
  · rw [show passB s n = (n == 49185) from if_pos h14]
    cases ht : (n == 49185)
    all_goals
      rcases h14 with rfl | rfl
      all_goals
        go_enter Try.func15, Try.ntmps15
        go_wp2
        go_ret
        exact ⟨rfl, rfl⟩
  · by_cases h2 : s = 2
    · rw [show passB s n = ofLinkB n from (if_neg h14).trans (if_pos h2)]
      subst h2
      clear h14
      go_enter Try.func15, Try.ntmps15
      go_wp2_with (go_at_call 31; refine (ofLink_any _ _).mono ?_; rintro e w' ⟨rfl, rfl⟩)
      go_ret
      exact ⟨rfl, rfl⟩
    · by_cases h3 : s = 3
      · rw [show passB s n = (ofLinkB n || (decide (n < 49152) && protP n)) from ((if_neg h14).trans (if_neg h2)).trans (if_pos h3)]
        subst h3
        clear h14 h2
        have P1 := Lib.hid (ofLink_any n w)
        have P2 := Lib.hid (proto_any n w)
        rcases hl : ofLinkB n with _ | _
        · rw [hl] at P1
          rcases hp : protP n with _ | _
          · rw [hp] at P2
            rcases hd : decide (n < 49152) with _ | _
            all_goals
              clear hl hp
              go_enter Try.func15, Try.ntmps15
              go_wp2_with (first | (go_at_call 31; refine P1.out.mono ?_; rintro e w' ⟨rfl, rfl⟩) | (go_at_call 32; refine P2.out.mono ?_; rintro e w' ⟨rfl, rfl⟩))
              go_ret
              exact ⟨rfl, rfl⟩
          · rw [hp] at P2
            rcases hd : decide (n < 49152) with _ | _
            all_goals
              clear hl hp
              go_enter Try.func15, Try.ntmps15
              go_wp2_with (first | (go_at_call 31; refine P1.out.mono ?_; rintro e w' ⟨rfl, rfl⟩) | (go_at_call 32; refine P2.out.mono ?_; rintro e w' ⟨rfl, rfl⟩))
              go_ret
              exact ⟨rfl, rfl⟩
        · rw [hl] at P1
          clear hl P2
          go_enter Try.func15, Try.ntmps15
          go_wp2_with (go_at_call 31; refine P1.out.mono ?_; rintro e w' ⟨rfl, rfl⟩)
          go_ret
          exact ⟨rfl, rfl⟩
      · rw [show passB s n = false from ((if_neg h14).trans (if_neg h2)).trans (if_neg h3)]
        have t1 : (s == 1) = false := by simp; omega
        have t4 : (s == 4) = false := by simp; omega
        have t2 : (s == 2) = false := by simp; omega
        have t3 : (s == 3) = false := by simp; omega
        clear h14 h2 h3
        go_enter Try.func15, Try.ntmps15
        go_wp2
        go_ret
        exact ⟨rfl, rfl⟩
theorem passB_no {n : Int} (h : protP n = false) (s : Int) : passB s n = false := by
  have h2 : ¬ (0 < n ∧ n ≤ 65535 ∧ n % 2 = 1 ∧ n / 256 % 2 = 0) := of_decide_eq_false h
  have hl : ofLinkB n = false := decide_eq_false (by rintro (rfl | rfl | rfl | rfl) <;> exact h2 (by decide))
  have hq : (n == 49185) = false := by
    simp only [beq_eq_false_iff_ne]
    rintro rfl
    exact h2 (by decide)
  unfold passB
  rw [hl, hq, h]
  simp
theorem rpasses_any (s n : Int) (w : World) : Calls Try.prog 16 #[.int .i64 s, .int .i64 n] w fun e w' => e = .returned (.bool (passB s n)) ∧ w = w' := by
  have P2 := Lib.hid (rproto_any n w)
  rcases hp : protP n with _ | _
  · rw [passB_no hp s]
    rw [hp] at P2
    clear hp
    go_enter Try.func16, Try.ntmps16
    go_wp2_with (go_at_call 33; refine P2.out.mono ?_; rintro e w' ⟨rfl, rfl⟩)
    go_ret
    exact ⟨rfl, rfl⟩
  · by_cases hs : s = 1 ∨ s = 2 ∨ s = 3 ∨ s = 4
    · rw [hp] at P2
      by_cases h : n = 49185 ∨ n = 49187 ∨ n = 49699 ∨ n = 49703
      · clear hp
        rcases h with rfl | rfl | rfl | rfl
        all_goals
          rcases hs with rfl | rfl | rfl | rfl
          all_goals
            go_enter Try.func16, Try.ntmps16
            go_wp2_with (go_at_call 33; refine P2.out.mono ?_; rintro e w' ⟨rfl, rfl⟩)
            go_ret
            exact ⟨rfl, rfl⟩
      · have t1 : (n == 49185) = false := by simp; omega
        have t2 : (n == 49187) = false := by simp; omega
        have t3 : (n == 49699) = false := by simp; omega
        have t4 : (n == 49703) = false := by simp; omega
        have e : passB s n = (if s = 3 then decide (n < 49152) else false) := by
          unfold passB
          rw [t1, hp, show ofLinkB n = false from decide_eq_false h]
          rcases hs with rfl | rfl | rfl | rfl <;> simp
        rw [e]
        clear e hp h
        cases hd : decide (n < 49152)
        all_goals
          rcases hs with rfl | rfl | rfl | rfl
          all_goals
            go_enter Try.func16, Try.ntmps16
            go_wp2_with (go_at_call 33; refine P2.out.mono ?_; rintro e w' ⟨rfl, rfl⟩)
            go_ret
            exact ⟨rfl, rfl⟩
    · rw [show passB s n = false by unfold passB; rw [if_neg (by omega), if_neg (by omega), if_neg (by omega)]]
      rw [hp] at P2
      have t1 : (s == 1) = false := by simp; omega
      have t4 : (s == 4) = false := by simp; omega
      have t2 : (s == 2) = false := by simp; omega
      have t3 : (s == 3) = false := by simp; omega
      clear hs hp
      cases hd : decide (n == 49187)
      all_goals
        go_enter Try.func16, Try.ntmps16
        go_wp2_with (go_at_call 33; refine P2.out.mono ?_; rintro e w' ⟨rfl, rfl⟩)
        all_goals
          go_ret
          exact ⟨rfl, rfl⟩
end Go.Proofs.Ytandakinbcfleaa
