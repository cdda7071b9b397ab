/-
  What actions may be: plain mathematics over the table.
-/
import Derived.Test.YtpkmddagcfjadaaDoorAuEnds
import Derived.Test.YtpkmddagcfjadaaDoorAuSnd
namespace Go.Proofs.YtpkmddagcfjadaaDoor
open Go.RowKit
set_option maxRecDepth 100000
set_option maxHeartbeats 2000000
set_option linter.unusedSimpArgs false
set_option linter.unusedVariables false

/-- what may be, of the actions of an event e that leads to ns, up being b ahead of them -/
def chk (ns e : Int) : Bool → List Int → Bool
  | b, [] => b == decide (ns = 9)
  | b, x :: r => !(x == 1 && b) && (!(x == 2 && !b) && (!(x == 7 && !(ns == 6 || ns == 8)) && (!(x == 8 && !(e == 6)) && (!(x == 9 && !(e == 7)) && chk ns e (if x = 1 then true else if x = 2 then false else b) r))))
theorem chk_step {ns e : Int} {b : Bool} {l : List Int} {k : Nat} (hk : k < l.length) (h : chk ns e b (l.drop k) = true) (x : Int) (hx : numAt l k = x) :
    (x = 1 → b = false) ∧ (x = 2 → b = true) ∧ (x = 7 → ns = 6 ∨ ns = 8) ∧ (x = 8 → e = 6) ∧ (x = 9 → e = 7) ∧ chk ns e (if x = 1 then true else if x = 2 then false else b) (l.drop (k + 1)) = true := by
  rw [List.drop_eq_getElem_cons hk, ← numAt_eq hk, hx, chk] at h
  simp only [Bool.and_eq_true, Bool.not_eq_true', Bool.and_eq_false_iff, beq_eq_false_iff_ne, Bool.not_eq_false', Bool.or_eq_true, beq_iff_eq] at h
  obtain ⟨h1, h2, h3, h4, h5, h6⟩ := h
  refine ⟨fun e => ?_, fun e => ?_, fun e => ?_, fun e => ?_, fun e => ?_, h6⟩
  · rcases h1 with h | h
    · exact absurd e h
    · exact h
  · rcases h2 with h | h
    · exact absurd e h
    · exact h
  · rcases h3 with h | h
    · exact absurd e h
    · exact h
  · rcases h4 with h | h
    · exact absurd e h
    · exact h
  · rcases h5 with h | h
    · exact absurd e h
    · exact h
theorem chk_end {ns e : Int} {b : Bool} {l : List Int} (h : chk ns e b (l.drop l.length) = true) : b = decide (ns = 9) := by
  rw [List.drop_length, chk] at h
  simpa using h
def mayB (s e : Nat) : Bool := if nxE s e = 0 then chk (nxS s e) e (decide ((s : Int) = 9)) (nxA s e) && (decide (snd (nxA s e) = []) || decide (2 ≤ nxS s e)) else true
theorem may_all : ∀ s, s < 10 → ∀ e, e < 16 → mayB s e = true := by decide +kernel
theorem may_next {s e : Int} (h : nxE s e = 0) : chk (nxS s e) e (decide (s = 9)) (nxA s e) = true ∧ (snd (nxA s e) = [] ∨ 2 ≤ nxS s e) := by
  by_cases hin : 0 ≤ s ∧ s ≤ 9 ∧ 0 ≤ e ∧ e ≤ 15
  · obtain ⟨k, rfl⟩ := Int.eq_ofNat_of_zero_le hin.1
    obtain ⟨j, rfl⟩ := Int.eq_ofNat_of_zero_le hin.2.2.1
    have hm := may_all k (by omega) j (by omega)
    unfold mayB at hm
    rw [if_pos h] at hm
    simpa [Bool.and_eq_true, Bool.or_eq_true] using hm
  · rw [(nx_bad hin).1] at h
    omega
theorem may_do (s c e : Int) : chk (doS s c e) e (decide (s = 9)) (doA s c e) = true ∧ (snd (doA s c e) = [] ∨ 2 ≤ doS s c e) := by
  by_cases h : doE s c e = 0
  · obtain ⟨h1, _, h3⟩ := do_done (mc := 0) (mt := 0) h
    rw [h1, h3]
    refine may_next ?_
    unfold doE at h
    split at h
    · assumption
    · assumption
  · obtain ⟨h1, _, h3⟩ := do_refused (mc := 0) (mt := 0) rfl h
    rw [h1, h3]
    exact ⟨by simp [chk], .inl rfl⟩
theorem may_to (s c : Int) : ∃ e, (e = 4 ∨ e = 5) ∧ chk (toS s c) e (decide (s = 9)) (toA s c) = true ∧ (snd (toA s c) = [] ∨ 2 ≤ toS s c) := by
  cases hr : runsB s with
  | false =>
    obtain ⟨_, e2, _, e4⟩ := to_not (c := c) (mc := 0) (mt := 0) hr
    rw [e2, e4]
    exact ⟨4, .inl rfl, by simp [chk], .inl rfl⟩
  | true =>
    obtain ⟨_, e2, _, e4⟩ := to_runs (c := c) (mc := 0) (mt := 0) hr
    rw [e2, e4]
    refine ⟨tev c, ?_, may_do s c (tev c)⟩
    unfold tev
    split
    · exact .inl rfl
    · exact .inr rfl
end Go.Proofs.YtpkmddagcfjadaaDoor
