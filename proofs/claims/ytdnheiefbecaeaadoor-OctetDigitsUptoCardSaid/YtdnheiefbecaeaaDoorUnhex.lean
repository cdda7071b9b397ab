/-
  octet.Unhex and tetherref01.Unhex: digits back as bytes. They make memory of their own alone.
-/
import Derived.Test.YtdnheiefbecaeaaDoorHexRun
namespace Go.Proofs.YtdnheiefbecaeaaDoor
open Go.RowKit
set_option maxRecDepth 100000
set_option maxHeartbeats 1000000
set_option linter.unusedSimpArgs false
set_option linter.unusedVariables false

theorem isDig_cases {c : UInt8} (h : isDig c = true) : (48 ≤ (c.toNat : Int) ∧ (c.toNat : Int) ≤ 57 ∧ digVal c = c.toNat - 48) ∨ (97 ≤ (c.toNat : Int) ∧ (c.toNat : Int) ≤ 102 ∧ digVal c = c.toNat - 87) ∨ (65 ≤ (c.toNat : Int) ∧ (c.toNat : Int) ≤ 70 ∧ digVal c = c.toNat - 55) := by
  unfold isDig at h
  unfold digVal
  simp only [Bool.or_eq_true, Bool.and_eq_true, decide_eq_true_eq] at h
  rcases h with (⟨h1, h2⟩ | ⟨h1, h2⟩) | ⟨h1, h2⟩
  · exact .inl ⟨by omega, by omega, by rw [if_pos ⟨h1, h2⟩]⟩
  · exact .inr (.inl ⟨by omega, by omega, by rw [if_neg (by omega), if_pos ⟨h1, h2⟩]⟩)
  · exact .inr (.inr ⟨by omega, by omega, by rw [if_neg (by omega), if_neg (by omega), if_pos ⟨h1, h2⟩]⟩)
theorem isDig_not {c : UInt8} (h : isDig c = false) : ((c.toNat : Int) < 48 ∨ (57 < (c.toNat : Int) ∧ (c.toNat : Int) < 65) ∨ (70 < (c.toNat : Int) ∧ (c.toNat : Int) < 97) ∨ 102 < (c.toNat : Int)) := by
  unfold isDig at h
  simp only [Bool.or_eq_false_iff, Bool.and_eq_false_iff, decide_eq_false_iff_not] at h
  omega
theorem u8_in (x : Int) (h0 : 0 ≤ x) (h1 : x ≤ 255) : IntKind.u8.wrap x = x := by rw [IntKind.wrap_u8']; omega
theorem digitValue_yes (c : UInt8) (h : isDig c = true) (w : World) :
    Calls Tryd.prog 62 #[.int .u8 (c.toNat : Int)] w fun e w' => e = .returned (.tuple #[.int .u8 (digVal c : Nat), .bool true]) ∧ w = w' := by
  have hc := isDig_cases h
  clear h
  obtain ⟨z, hz⟩ : ∃ z : Int, z = (c.toNat : Int) := ⟨_, rfl⟩
  obtain ⟨d, hd⟩ : ∃ d : Int, d = ((digVal c : Nat) : Int) := ⟨_, rfl⟩
  rw [← hd, ← hz]
  have hc2 : (48 ≤ z ∧ z ≤ 57 ∧ d = z - 48) ∨ (97 ≤ z ∧ z ≤ 102 ∧ d = z - 97 + 10) ∨ (65 ≤ z ∧ z ≤ 70 ∧ d = z - 65 + 10) := by omega
  clear hz hd hc
  rcases hc2 with ⟨h1, h2, hd⟩ | ⟨h1, h2, hd⟩ | ⟨h1, h2, hd⟩
  all_goals
    have D := Lib.hid hd
    clear hd
    go_enter Tryd.func62, Tryd.ntmps62
    go_wp2
    go_ret2
    exact ⟨by rw [D.out]; first | rfl | (congr 4; omega), rfl⟩
theorem digitValue_no (c : UInt8) (h : isDig c = false) (w : World) :
    Calls Tryd.prog 62 #[.int .u8 (c.toNat : Int)] w fun e w' => e = .returned (.tuple #[.int .u8 0, .bool false]) ∧ w = w' := by
  have hc := isDig_not h
  clear h
  generalize (c.toNat : Int) = z at *
  rcases hc with h1 | ⟨h1, h2⟩ | ⟨h1, h2⟩ | h1
  all_goals
    go_enter Tryd.func62, Tryd.ntmps62
    go_wp2
    go_ret2
    exact ⟨rfl, rfl⟩
theorem rdigit_yes (c : UInt8) (h : isDig c = true) (w : World) :
    Calls Tryd.prog 63 #[.int .u8 (c.toNat : Int)] w fun e w' => e = .returned (.int .i64 (digVal c : Nat)) ∧ w = w' := by
  have hc := isDig_cases h
  clear h
  obtain ⟨z, hz⟩ : ∃ z : Int, z = (c.toNat : Int) := ⟨_, rfl⟩
  obtain ⟨d, hd⟩ : ∃ d : Int, d = ((digVal c : Nat) : Int) := ⟨_, rfl⟩
  rw [← hd, ← hz]
  have hc2 : (48 ≤ z ∧ z ≤ 57 ∧ d = z - 48) ∨ (97 ≤ z ∧ z ≤ 102 ∧ d = z - 97 + 10) ∨ (65 ≤ z ∧ z ≤ 70 ∧ d = z - 65 + 10) := by omega
  clear hz hd hc
  rcases hc2 with ⟨h1, h2, hd⟩ | ⟨h1, h2, hd⟩ | ⟨h1, h2, hd⟩
  all_goals
    have D := Lib.hid hd
    clear hd
    go_enter Tryd.func63, Tryd.ntmps63
    go_wp2
    go_ret
    exact ⟨by rw [D.out]; first | rfl | (congr 2; omega), rfl⟩
theorem rdigit_no (c : UInt8) (h : isDig c = false) (w : World) :
    Calls Tryd.prog 63 #[.int .u8 (c.toNat : Int)] w fun e w' => e = .returned (.int .i64 (-1)) ∧ w = w' := by
  have hc := isDig_not h
  clear h
  generalize (c.toNat : Int) = z at *
  rcases hc with h1 | ⟨h1, h2⟩ | ⟨h1, h2⟩ | h1
  all_goals
    go_enter Tryd.func63, Tryd.ntmps63
    go_wp2
    go_ret
    exact ⟨rfl, rfl⟩
end Go.Proofs.YtdnheiefbecaeaaDoor
