/-
  octet.Get and tetherref01.Get: the number at a place, or the error; both only read.
-/
import Derived.Test.YtjkdlmielckaaaaDoorSub
import Derived.Test.YtjkdlmielckaaaaDoorNum
namespace Go.Proofs.YtjkdlmielckaaaaDoor
open Go.RowKit
set_option maxRecDepth 100000
set_option linter.unusedSimpArgs false
set_option linter.unusedVariables false

theorem get_arg (A : Option Addr) (n c : Nat) (p s : Int) (w : World) (h : ¬ (1 ≤ s ∧ s ≤ 8) ∨ p < 0 ∨ (n : Int) < p) :
    Calls Tryd.prog 40 #[.slice A n c, .int .i64 p, .int .i64 s] w fun e w' => e = .returned (.tuple #[.int .u64 0, .int .i64 1]) ∧ w = w' := by
  by_cases hs : 1 ≤ s ∧ s ≤ 8
  · have hd : decide (1 ≤ s ∧ s ≤ 8) = true := by simpa using hs
    have h2 : p < 0 ∨ (n : Int) < p := h.resolve_left (fun k => k hs)
    clear h hs
    by_cases hp : p < 0
    · go_enter Tryd.func40, Tryd.ntmps40
      go_wp2_with (go_at_call 37; refine (size_right _ _).mono ?_; rintro e w' ⟨rfl, rfl⟩)
      go_ret2
      exact ⟨rfl, rfl⟩
    · have hn : (n : Int) < p := by omega
      clear h2
      go_enter Tryd.func40, Tryd.ntmps40
      go_wp2_with (go_at_call 37; refine (size_right _ _).mono ?_; rintro e w' ⟨rfl, rfl⟩)
      go_ret2
      exact ⟨rfl, rfl⟩
  · have hd : decide (1 ≤ s ∧ s ≤ 8) = false := by simpa using hs
    clear h hs
    go_enter Tryd.func40, Tryd.ntmps40
    go_wp2_with (go_at_call 37; refine (size_right _ _).mono ?_; rintro e w' ⟨rfl, rfl⟩)
    go_ret2
    exact ⟨rfl, rfl⟩

theorem get_short (A : Option Addr) (n c : Nat) (p s : Int) (w : World) (hs : 1 ≤ s ∧ s ≤ 8) (hp0 : 0 ≤ p) (hp : p ≤ (n : Int)) (hm : (n : Int) ≤ 140737488351232) (hlt : (n : Int) - p < s) :
    Calls Tryd.prog 40 #[.slice A n c, .int .i64 p, .int .i64 s] w fun e w' => e = .returned (.tuple #[.int .u64 0, .int .i64 8]) ∧ w = w' := by
  have hd : decide (1 ≤ s ∧ s ≤ 8) = true := by simpa using hs
  clear hs
  go_enter Tryd.func40, Tryd.ntmps40
  go_wp2_with (go_at_call 37; refine (size_right _ _).mono ?_; rintro e w' ⟨rfl, rfl⟩)
  go_ret2
  exact ⟨rfl, rfl⟩

theorem get_ok (A : Option Addr) (n c p s : Nat) (l : List UInt8) (w : World) (B : Nat) (hr : Rd w B A n l) (hs1 : 1 ≤ s) (hs8 : s ≤ 8) (hm : n ≤ 140737488355328) (hc : n ≤ c) (hle : p + s ≤ n) :
    Calls Tryd.prog 40 #[.slice A n c, .int .i64 (p : Int), .int .i64 (s : Int)] w fun e w' => e = .returned (.tuple #[.int .u64 (num (l.drop p) s), .int .i64 0]) ∧ w = w' := by
  have hd : decide (1 ≤ (s : Int) ∧ (s : Int) ≤ 8) = true := by simp; omega
  obtain ⟨b, o, rfl, _, _⟩ := hr.2 (by omega)
  have hsub := hr.sub hle
  have e : num ((l.drop p).take s) s = num (l.drop p) s := num_congr _ _ s fun j hj => byteAt_take _ _ _ hj
  have hnum := number_any (some ⟨b, o + p, none⟩) s (c - p) _ w B hsub hs8 (by omega)
  rw [e] at hnum
  have HN := Lib.hid hnum
  clear hnum e hsub hr
  have e1 : ((p : Int) + (s : Int)).toNat = p + s := by omega
  have e2 : p + s - p = s := by omega
  have hcp : ¬ c = p := by omega
  go_enter Tryd.func40, Tryd.ntmps40
  go_wp2_with (first
    | (go_at_call 37; refine (size_right _ _).mono ?_; rintro e w' ⟨rfl, rfl⟩)
    | (go_at_call 35; refine (HN.out).mono ?_; rintro e w' ⟨rfl, rfl⟩))
  go_ret2
  exact ⟨rfl, rfl⟩
end Go.Proofs.YtjkdlmielckaaaaDoor
