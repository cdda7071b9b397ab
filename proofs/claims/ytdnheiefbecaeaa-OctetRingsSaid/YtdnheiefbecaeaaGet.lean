/-
  octet.Get and tetherref01.Get: the number at a place, or the error; both only read.
-/
import Derived.Test.YtdnheiefbecaeaaNum
namespace Go.Proofs.Ytdnheiefbecaeaa
open Go.RowKit
set_option maxRecDepth 100000
set_option linter.unusedSimpArgs false
set_option linter.unusedVariables false

theorem get_arg (A : Option Addr) (n c : Nat) (p s : Int) (w : World) (h : ¬ (1 ≤ s ∧ s ≤ 8) ∨ p < 0 ∨ (n : Int) < p) :
    Calls Try.prog 20 #[.slice A n c, .int .i64 p, .int .i64 s] w fun e w' => e = .returned (.tuple #[.int .u64 0, .int .i64 1]) ∧ w = w' := by
  by_cases hs : 1 ≤ s ∧ s ≤ 8
  · have hd : decide (1 ≤ s ∧ s ≤ 8) = true := by simpa using hs
    have h2 : p < 0 ∨ (n : Int) < p := h.resolve_left (fun k => k hs)
    clear h hs
    by_cases hp : p < 0
    · go_enter Try.func20, Try.ntmps20
      go_wp2_with (go_at_call 23; refine (size_right _ _).mono ?_; rintro e w' ⟨rfl, rfl⟩)
      go_ret2
      exact ⟨rfl, rfl⟩
    · have hn : (n : Int) < p := by omega
      clear h2
      go_enter Try.func20, Try.ntmps20
      go_wp2_with (go_at_call 23; refine (size_right _ _).mono ?_; rintro e w' ⟨rfl, rfl⟩)
      go_ret2
      exact ⟨rfl, rfl⟩
  · have hd : decide (1 ≤ s ∧ s ≤ 8) = false := by simpa using hs
    clear h hs
    go_enter Try.func20, Try.ntmps20
    go_wp2_with (go_at_call 23; refine (size_right _ _).mono ?_; rintro e w' ⟨rfl, rfl⟩)
    go_ret2
    exact ⟨rfl, rfl⟩

theorem get_short (A : Option Addr) (n c : Nat) (p s : Int) (w : World) (hs : 1 ≤ s ∧ s ≤ 8) (hp0 : 0 ≤ p) (hp : p ≤ (n : Int)) (hm : (n : Int) ≤ 140737488351232) (hlt : (n : Int) - p < s) :
    Calls Try.prog 20 #[.slice A n c, .int .i64 p, .int .i64 s] w fun e w' => e = .returned (.tuple #[.int .u64 0, .int .i64 8]) ∧ w = w' := by
  have hd : decide (1 ≤ s ∧ s ≤ 8) = true := by simpa using hs
  clear hs
  go_enter Try.func20, Try.ntmps20
  go_wp2_with (go_at_call 23; refine (size_right _ _).mono ?_; rintro e w' ⟨rfl, rfl⟩)
  go_ret2
  exact ⟨rfl, rfl⟩

theorem Rd.sub {w : World} {B b o n p s : Nat} {l : List UInt8} (h : Rd w B (some ⟨b, o, none⟩) n l) (hs : p + s ≤ n) : Rd w B (some ⟨b, o + p, none⟩) s ((l.drop p).take s) := by
  have hl := h.1
  refine ⟨by rw [List.length_take, List.length_drop]; omega, fun h0 => ?_⟩
  obtain ⟨b', o', e, hb, hc⟩ := h.2 (by omega)
  injection e with e
  injection e with e1 e2 e3
  subst e1 e2
  refine ⟨b, o + p, rfl, hb, fun j hj => ?_⟩
  rw [Nat.add_assoc, hc (p + j) (by omega)]
  congr 2
  unfold byteAt
  rw [List.getD_eq_getElem?_getD, List.getD_eq_getElem?_getD, List.getElem?_take_of_lt hj, List.getElem?_drop]
theorem byteAt_drop (l : List UInt8) (p j : Nat) : byteAt (l.drop p) j = byteAt l (p + j) := by
  unfold byteAt
  rw [List.getD_eq_getElem?_getD, List.getD_eq_getElem?_getD, List.getElem?_drop]
theorem byteAt_take (l : List UInt8) (s j : Nat) (h : j < s) : byteAt (l.take s) j = byteAt l j := by
  unfold byteAt
  rw [List.getD_eq_getElem?_getD, List.getD_eq_getElem?_getD, List.getElem?_take_of_lt h]

theorem get_ok (A : Option Addr) (n c p s : Nat) (l : List UInt8) (w : World) (B : Nat) (hr : Rd w B A n l) (hs1 : 1 ≤ s) (hs8 : s ≤ 8) (hm : n ≤ 140737488355328) (hc : n ≤ c) (hle : p + s ≤ n) :
    Calls Try.prog 20 #[.slice A n c, .int .i64 (p : Int), .int .i64 (s : Int)] w fun e w' => e = .returned (.tuple #[.int .u64 (num (l.drop p) s), .int .i64 0]) ∧ w = w' := by
  have hd : decide (1 ≤ (s : Int) ∧ (s : Int) ≤ 8) = true := by simp; omega
  obtain ⟨b, o, rfl, _, _⟩ := hr.2 (by omega)
  have hsub := hr.sub hle
  have e : num ((l.drop p).take s) s = num (l.drop p) s := num_congr _ _ s fun j hj => byteAt_take _ _ _ hj
  have hnum := number_any (some ⟨b, o + p, none⟩) s (c - p) _ w B hsub hs8 (by omega)
  rw [e] at hnum
  have HN := Lib.hid hnum
  clear hnum e hsub hr
  have e1 : ((p : Int) + (s : Int)).toNat = p + s := by omega
  have e2 : p + s - p = s := by omega
  have hcp : ¬ c = p := by omega
  go_enter Try.func20, Try.ntmps20
  go_wp2_with (first
    | (go_at_call 23; refine (size_right _ _).mono ?_; rintro e w' ⟨rfl, rfl⟩)
    | (go_at_call 25; refine (HN.out).mono ?_; rintro e w' ⟨rfl, rfl⟩))
  go_ret2
  exact ⟨rfl, rfl⟩
end Go.Proofs.Ytdnheiefbecaeaa
