/-
  tetherref01.Get: the number at a place, or the error; it only reads.
-/
import Derived.Test.YtamcoppfjmggcaaGet
import Derived.LoopTactic
namespace Go.Proofs.Ytamcoppfjmggcaa
open Go.RowKit
set_option maxRecDepth 100000
set_option linter.unusedSimpArgs false
set_option linter.unusedVariables false

theorem refget_arg (A : Option Addr) (n c : Nat) (p s : Int) (w : World) (h : ¬ (1 ≤ s ∧ s ≤ 8) ∨ p < 0 ∨ (n : Int) < p) :
    Calls Try.prog 14 #[.slice A n c, .int .i64 p, .int .i64 s] w fun e w' => e = .returned (.tuple #[.int .u64 0, .int .i64 1]) ∧ w = w' := by
  by_cases h1 : s < 1
  · clear h
    go_enter Try.func14, Try.ntmps14
    go_wp2
    go_ret2
    exact ⟨rfl, rfl⟩
  · by_cases h2 : 8 < s
    · clear h
      go_enter Try.func14, Try.ntmps14
      go_wp2
      go_ret2
      exact ⟨rfl, rfl⟩
    · by_cases h3 : p < 0
      · clear h
        go_enter Try.func14, Try.ntmps14
        go_wp2
        go_ret2
        exact ⟨rfl, rfl⟩
      · have h4 : (n : Int) < p := by omega
        clear h
        go_enter Try.func14, Try.ntmps14
        go_wp2
        go_ret2
        exact ⟨rfl, rfl⟩

theorem refget_short (A : Option Addr) (n c : Nat) (p s : Int) (w : World) (hs1 : 1 ≤ s) (hs8 : s ≤ 8) (hp0 : 0 ≤ p) (hp : p ≤ (n : Int)) (hm : (n : Int) ≤ 140737488351232) (hlt : (n : Int) - p < s) :
    Calls Try.prog 14 #[.slice A n c, .int .i64 p, .int .i64 s] w fun e w' => e = .returned (.tuple #[.int .u64 0, .int .i64 8]) ∧ w = w' := by
  go_enter Try.func14, Try.ntmps14
  go_wp2
  go_ret2
  exact ⟨rfl, rfl⟩

theorem num_below (l : List UInt8) (k : Nat) (h : k < 8) : num l k < 72057594037927936 := by
  have h1 := num_hi l k
  rcases (show k = 0 ∨ k = 1 ∨ k = 2 ∨ k = 3 ∨ k = 4 ∨ k = 5 ∨ k = 6 ∨ k = 7 by omega) with rfl | rfl | rfl | rfl | rfl | rfl | rfl | rfl <;> omega

theorem refget_ok (A : Option Addr) (n c p s : Nat) (l : List UInt8) (w : World) (B : Nat) (hr : Rd w B A n l) (hs1 : 1 ≤ s) (hs8 : s ≤ 8) (hm : n ≤ 140737488351232) (hle : p + s ≤ n) :
    Calls Try.prog 14 #[.slice A n c, .int .i64 (p : Int), .int .i64 (s : Int)] w fun e w' => e = .returned (.tuple #[.int .u64 (num (l.drop p) s), .int .i64 0]) ∧ w = w' := by
  obtain ⟨b, o, rfl, _, hcell⟩ := hr.2 (by omega)
  have H := Lib.hid hcell
  clear hcell hr
  go_enter Try.func14, Try.ntmps14
  go_wp2
  go_loop [8, 9] (fun v i => ∃ k : Nat, k ≤ s ∧ i = .int .i64 k ∧ v = .int .u64 (num (l.drop p) k)) (fun _ i => s - (intOf i).toNat)
  case atStart => exact ⟨0, Nat.zero_le _, rfl, rfl⟩
  case round =>
    obtain ⟨k, hk, rfl, rfl⟩ := hrel
    by_cases hlt : k < s
    · have hc : w.cell? ⟨b, o + (p + k), none⟩ = some (.int .u8 (byteAt l (p + k))) := H.out (p + k) (by omega)
      rw [← byteAt_drop] at hc
      have g0 := num_lo (l.drop p) k
      have g1 := num_below (l.drop p) k (by omega)
      have g2 := byteAt_lo (l.drop p) k
      have g3 := byteAt_hi (l.drop p) k
      have E := Lib.hid (show bits .or .u64 (num (l.drop p) k * 256) (byteAt (l.drop p) k) = num (l.drop p) (k + 1) from or_8 _ _ (by omega) (by omega) (by omega) (by omega) (by omega))
      go_wp2
      go_round
      case rel => exact ⟨k + 1, by omega, by go_num, by rw [E.out]⟩
      case measure => simp [intOf]; omega
    · have : k = s := by omega
      subst this
      go_wp2
      go_ret2
      exact ⟨rfl, rfl⟩
end Go.Proofs.Ytamcoppfjmggcaa
