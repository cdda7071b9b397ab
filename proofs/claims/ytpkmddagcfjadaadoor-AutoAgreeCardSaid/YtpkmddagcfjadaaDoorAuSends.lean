/-
  What actions send, and whether the timer begins anew: the program's and the reference's.
-/
import Derived.Test.YtpkmddagcfjadaaDoorAuAwake
import Derived.Deep.QuietTactic
import Derived.BigQuiet
namespace Go.Proofs.YtpkmddagcfjadaaDoor
open Go.RowKit
set_option maxRecDepth 100000
set_option maxHeartbeats 2000000
set_option linter.unusedSimpArgs false
set_option linter.unusedVariables false

theorem numbers_yes (A C : Option Addr) (n ca cb : Nat) (l : List Int) (w : World) (B B2 : Nat) (ha : RdI w B A n l) (hb : RdI w B2 C n l) (hm : n ≤ 1152921504606846976) :
    Calls Tryd.prog 14 #[.slice A n ca, .slice C n cb] w fun e w' => e = .returned (.bool true) ∧ ∃ k, w' = w.drewN k := by
  have heq : ((n : Int) != (n : Int)) = false := by simp
  have Ha := Lib.hid ha
  have Hb := Lib.hid hb
  clear ha hb
  go_enter Tryd.func14, Tryd.ntmps14
  go_wp2
  go_loopw [13] (fun i wr => ∃ k : Nat, k ≤ n ∧ i = .int .i64 k ∧ ∃ m, wr = w.drewN m) (fun i _ => n - (intOf i).toNat)
  case atStart => exact ⟨0, Nat.zero_le _, rfl, 0, rfl⟩
  case round =>
    obtain ⟨k, hk, rfl, m, rfl⟩ := hrel
    by_cases hlt : k < n
    · obtain ⟨a, o, rfl, _, hc⟩ := Ha.out.2 (by omega)
      obtain ⟨b, q, rfl, _, hd⟩ := Hb.out.2 (by omega)
      have h1 := hc k hlt
      have h2 := hd k hlt
      have hs : (numAt l k != numAt l k) = false := by simp
      clear hc hd
      go_wp2
      go_quiet (fail)
      go_wp2
      go_roundw
      case rel => exact ⟨k + 1, by omega, by go_num, _, rfl⟩
      case measure => simp [intOf]; omega
    · go_wp2
      go_ret
      exact ⟨rfl, _, rfl⟩
theorem has_any (A : Option Addr) (n c B : Nat) (l : List Int) (x : Int) (w : World) (hr : RdI w B A n l) (hm : n ≤ 1152921504606846976) :
    Calls Tryd.prog 42 #[.slice A n c, .int .i64 x] w fun e w' => e = .returned (.bool (l.contains x)) ∧ w = w' := by
  have HR := Lib.hid hr
  have HL : Hid (l.length = n) := hr.1
  clear hr
  obtain ⟨r, hr⟩ : ∃ r, l.contains x = r := ⟨_, rfl⟩
  rw [hr]
  have HC := Lib.hid hr
  clear hr
  go_enter Tryd.func42, Tryd.ntmps42
  go_wp2
  go_loop [9] (fun i => ∃ k : Nat, k ≤ n ∧ i = .int .i64 k ∧ Hid (∀ j, j < k → numAt l j ≠ x)) (fun i => n - (intOf i).toNat)
  case atStart => exact ⟨0, Nat.zero_le _, rfl, fun j hj => absurd hj (Nat.not_lt_zero _)⟩
  case round =>
    obtain ⟨k, hk, rfl, hno⟩ := hrel
    by_cases hlt : k < n
    · obtain ⟨b, off, rfl, hb, hc⟩ := HR.out.2 (by omega)
      have hcell := hc k hlt
      obtain ⟨y, hy⟩ : ∃ y, numAt l k = y := ⟨_, rfl⟩
      rw [hy] at hcell
      have HY := Lib.hid hy
      clear hc hy
      by_cases hxy : y = x
      · have ht : (y == x) = true := by simp [hxy]
        have HX := Lib.hid hxy
        clear hxy
        go_wp2
        go_ret
        have e : r = true := by
          rw [← HC.out, List.contains_iff_mem]
          exact mem_numAt.2 ⟨k, by rw [HL.out]; exact hlt, by rw [HY.out, HX.out]⟩
        exact ⟨by subst e; rfl, rfl⟩
      · have ht : (y == x) = false := by simp [hxy]
        have HX := Lib.hid hxy
        clear hxy
        go_wp2
        go_round
        case rel => exact ⟨k + 1, by omega, by go_num, fun j hj => by
          rcases Nat.lt_succ_iff_lt_or_eq.1 hj with h | h
          · exact hno.out j h
          · rw [h, HY.out]; exact HX.out⟩
        case measure => simp [intOf]; omega
    · have e : r = false := by
        rw [← HC.out, Bool.eq_false_iff]
        intro h
        rw [List.contains_iff_mem] at h
        obtain ⟨j, hj, e⟩ := mem_numAt.1 h
        exact absurd e (hno.out j (by have := HL.out; omega))
      have E := Lib.hid e
      clear e
      go_wp2
      go_ret
      exact ⟨by rw [E.out]; rfl, rfl⟩
def beg (l : List Int) : Bool := l.contains 7 || (l.contains 10 || l.contains 6)
theorem rbegins_any (A : Option Addr) (n c B : Nat) (l : List Int) (w : World) (hr : RdI w B A n l) (hm : n ≤ 1152921504606846976) :
    Calls Tryd.prog 25 #[.slice A n c] w fun e w' => e = .returned (.bool (beg l)) ∧ w = w' := by
  have H7 := Lib.hid (has_any A n c B l 7 w hr hm)
  have H10 := Lib.hid (has_any A n c B l 10 w hr hm)
  have H6 := Lib.hid (has_any A n c B l 6 w hr hm)
  clear hr
  unfold beg
  obtain ⟨a, ha⟩ : ∃ a, l.contains 7 = a := ⟨_, rfl⟩
  obtain ⟨b, hb⟩ : ∃ b, l.contains 10 = b := ⟨_, rfl⟩
  obtain ⟨d, hd⟩ : ∃ d, l.contains 6 = d := ⟨_, rfl⟩
  rw [ha] at H7 ⊢
  rw [hb] at H10 ⊢
  rw [hd] at H6 ⊢
  clear ha hb hd
  cases a
  · cases b
    · cases d
      all_goals
        go_enter Tryd.func25, Tryd.ntmps25
        go_wp2_with (first
          | (go_at_call 42; ((with_reducible refine H7.out.mono ?_); rintro e w' ⟨rfl, rfl⟩))
          | (go_at_call 42; ((with_reducible refine H10.out.mono ?_); rintro e w' ⟨rfl, rfl⟩))
          | (go_at_call 42; ((with_reducible refine H6.out.mono ?_); rintro e w' ⟨rfl, rfl⟩)))
        go_ret
        exact ⟨rfl, rfl⟩
    · go_enter Tryd.func25, Tryd.ntmps25
      go_wp2_with (first
        | (go_at_call 42; ((with_reducible refine H7.out.mono ?_); rintro e w' ⟨rfl, rfl⟩))
        | (go_at_call 42; ((with_reducible refine H10.out.mono ?_); rintro e w' ⟨rfl, rfl⟩)))
      go_ret
      exact ⟨rfl, rfl⟩
  · go_enter Tryd.func25, Tryd.ntmps25
    go_wp2_with (go_at_call 42; ((with_reducible refine H7.out.mono ?_); rintro e w' ⟨rfl, rfl⟩))
    go_ret
    exact ⟨rfl, rfl⟩
theorem beg_of_mem {l : List Int} {k : Nat} {y : Int} (hk : k < l.length) (e : numAt l k = y) (h : y = 7 ∨ y = 10 ∨ y = 6) : beg l = true := by
  have hm : y ∈ l := mem_numAt.2 ⟨k, hk, e⟩
  unfold beg
  rcases h with rfl | rfl | rfl
  all_goals simp [List.contains_iff_mem, hm]
theorem beg_none {l : List Int} (h : ∀ j, j < l.length → numAt l j ≠ 7 ∧ numAt l j ≠ 10 ∧ numAt l j ≠ 6) : beg l = false := by
  have key : ∀ x, (x = 7 ∨ x = 10 ∨ x = 6) → l.contains x = false := by
    intro x hx
    rw [Bool.eq_false_iff]
    intro hc
    rw [List.contains_iff_mem] at hc
    obtain ⟨j, hj, e⟩ := mem_numAt.1 hc
    have := h j hj
    rw [e] at this
    omega
  unfold beg
  rw [key 7 (by omega), key 10 (by omega), key 6 (by omega)]
  rfl
theorem begins_any (A : Option Addr) (n c B : Nat) (l : List Int) (w : World) (hr : RdI w B A n l) (hm : n ≤ 1152921504606846976) :
    Calls Tryd.prog 24 #[.slice A n c] w fun e w' => e = .returned (.bool (beg l)) ∧ w = w' := by
  have HR := Lib.hid hr
  have HL : Hid (l.length = n) := hr.1
  clear hr
  obtain ⟨r, hr⟩ : ∃ r, beg l = r := ⟨_, rfl⟩
  rw [hr]
  have HC := Lib.hid hr
  clear hr
  go_enter Tryd.func24, Tryd.ntmps24
  go_wp2
  go_loop [7] (fun i => ∃ k : Nat, k ≤ n ∧ i = .int .i64 k ∧ Hid (∀ j, j < k → numAt l j ≠ 7 ∧ numAt l j ≠ 10 ∧ numAt l j ≠ 6)) (fun i => n - (intOf i).toNat)
  case atStart => exact ⟨0, Nat.zero_le _, rfl, fun j hj => absurd hj (Nat.not_lt_zero _)⟩
  case round =>
    obtain ⟨k, hk, rfl, hno⟩ := hrel
    by_cases hlt : k < n
    · obtain ⟨b, off, rfl, hb, hc⟩ := HR.out.2 (by omega)
      have hcell := hc k hlt
      obtain ⟨y, hy⟩ : ∃ y, numAt l k = y := ⟨_, rfl⟩
      rw [hy] at hcell
      have HY := Lib.hid hy
      clear hc hy
      by_cases hin : y = 7 ∨ y = 10 ∨ y = 6
      · have E := Lib.hid (HC.out.symm.trans (beg_of_mem (by rw [HL.out]; exact hlt) HY.out hin))
        clear HY HC
        rcases hin with rfl | rfl | rfl
        all_goals
          go_wp2
          go_ret
          exact ⟨by rw [E.out]; rfl, rfl⟩
      · have t7 : (y == 7) = false := by simp; omega
        have t10 : (y == 10) = false := by simp; omega
        have t6 : (y == 6) = false := by simp; omega
        have HX := Lib.hid hin
        clear hin
        go_wp2
        go_round
        case rel => exact ⟨k + 1, by omega, by go_num, fun j hj => by
          rcases Nat.lt_succ_iff_lt_or_eq.1 hj with h | h
          · exact hno.out j h
          · rw [h, HY.out]; have := HX.out; omega⟩
        case measure => simp [intOf]; omega
    · have E := Lib.hid (HC.out.symm.trans (beg_none (fun j hj => hno.out j (by have := HL.out; omega))))
      clear HC
      go_wp2
      go_ret
      exact ⟨by rw [E.out]; rfl, rfl⟩
end Go.Proofs.YtpkmddagcfjadaaDoor
