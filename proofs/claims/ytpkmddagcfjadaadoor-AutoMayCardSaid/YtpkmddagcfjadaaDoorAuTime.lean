/-
  The automaton's Timeout.
-/
import Derived.Test.YtpkmddagcfjadaaDoorAuAwake
namespace Go.Proofs.YtpkmddagcfjadaaDoor
open Go.RowKit
set_option maxRecDepth 100000
set_option maxHeartbeats 2000000
set_option linter.unusedSimpArgs false
set_option linter.unusedVariables false

/-- the event that a timeout is -/
def tev (c : Int) : Int := if 0 < c then 4 else 5
def toE (s c : Int) : Int := if runsB s then doE s c (tev c) else 290
def toS (s c : Int) : Int := if runsB s then doS s c (tev c) else s
def toC (s c mc mt : Int) : Int := if runsB s then doC s c mc mt (tev c) else c
def toA (s c : Int) : List Int := if runsB s then doA s c (tev c) else []
theorem to_not {s c mc mt : Int} (h : runsB s = false) : toE s c = 290 ∧ toS s c = s ∧ toC s c mc mt = c ∧ toA s c = [] := by
  unfold toE toS toC toA
  rw [h]
  exact ⟨rfl, rfl, rfl, rfl⟩
theorem to_runs {s c mc mt : Int} (h : runsB s = true) : toE s c = doE s c (tev c) ∧ toS s c = doS s c (tev c) ∧ toC s c mc mt = doC s c mc mt (tev c) ∧ toA s c = doA s c (tev c) := by
  unfold toE toS toC toA
  rw [h]
  exact ⟨rfl, rfl, rfl, rfl⟩
theorem toC_bounds {s c mc mt : Int} (h1 : 0 ≤ mc ∧ mc ≤ 255) (h2 : 0 ≤ mt ∧ mt ≤ 255) (h3 : 0 ≤ c ∧ c ≤ 255) : 0 ≤ toC s c mc mt ∧ toC s c mc mt ≤ 255 := by
  unfold toC
  split
  · exact doC_bounds h1 h2 h3
  · exact h3
theorem toA_length (s c : Int) : (toA s c).length ≤ 3 := by
  unfold toA
  split
  · exact doA_length _ _ _
  · simp
theorem timeout_any (g : Nat) (s c mc mt : Int) (w : World) (ha : AuB w g s c mc mt) (hT : TabA w) (h1 : 0 ≤ mc ∧ mc ≤ 255) (h2 : 0 ≤ mt ∧ mt ≤ 255) (h3 : 0 ≤ c ∧ c ≤ 255) :
    Calls Tryd.prog 32 #[.pointer (some ⟨g, 0, none⟩)] w fun r w' => ∃ v, r = .returned (.tuple #[v, .int .i64 (toE s c)]) ∧ OwnI w' w.heap.size v (toA s c) ∧ AuB w' g (toS s c) (toC s c mc mt) mc mt ∧ w.grownBy w' (some g) := by
  have RN := Lib.hid (running_any g s c mc mt w ha)
  have k1 : w.cell? ⟨g, 1, none⟩ = some (.int .i64 c) := ha.cell 1
  cases hr : runsB s with
  | false =>
    obtain ⟨e1, e2, e3, e4⟩ := to_not (c := c) (mc := mc) (mt := mt) hr
    rw [e1, e2, e3, e4]
    rw [hr] at RN
    have HA := Lib.hid ha
    clear ha hr e1 e2 e3 e4 hT h1 h2
    go_enter Tryd.func32, Tryd.ntmps32
    go_wp2_with (go_at_call 35; refine RN.out.mono ?_; rintro e w' ⟨rfl, rfl⟩)
    go_ret2
    exact ⟨_, rfl, OwnI.nil _ _, HA.out, World.grownBy.refl _ _⟩
  | true =>
    obtain ⟨e1, e2, e3, e4⟩ := to_runs (c := c) (mc := mc) (mt := mt) hr
    rw [e1, e2, e3, e4]
    rw [hr] at RN
    clear e1 e2 e3 e4 hr
    unfold tev
    by_cases hc : 0 < c
    · rw [if_pos hc]
      have D := Lib.hid (do_any g s c mc mt 4 w ha hT h1 h2 h3)
      clear ha hT h1 h2
      go_enter Tryd.func32, Tryd.ntmps32
      go_wp2_with (first
        | (go_at_call 35; refine RN.out.mono ?_; rintro e w' ⟨rfl, rfl⟩)
        | (go_at_call 33; refine D.out.mono ?_; rintro e w' ⟨v, rfl, ho, ha, hg⟩; obtain ⟨A0, c0, rfl, _, _⟩ := ho.slice; have HO := Lib.hid ho; have HA := Lib.hid ha; have HG := Lib.hid hg; clear ho ha hg))
      go_ret2
      exact ⟨_, rfl, HO.out, HA.out, HG.out⟩
    · rw [if_neg hc]
      have D := Lib.hid (do_any g s c mc mt 5 w ha hT h1 h2 h3)
      clear ha hT h1 h2
      go_enter Tryd.func32, Tryd.ntmps32
      go_wp2_with (first
        | (go_at_call 35; refine RN.out.mono ?_; rintro e w' ⟨rfl, rfl⟩)
        | (go_at_call 33; refine D.out.mono ?_; rintro e w' ⟨v, rfl, ho, ha, hg⟩; obtain ⟨A0, c0, rfl, _, _⟩ := ho.slice; have HO := Lib.hid ho; have HA := Lib.hid ha; have HG := Lib.hid hg; clear ho ha hg))
      go_ret2
      exact ⟨_, rfl, HO.out, HA.out, HG.out⟩

/-- what a timeout does in a state in which the timer runs -/
def tab4B (s : Nat) : Bool := decide (nxE s 4 = 0) && decide (4 ≤ nxS s 4) && decide (nxS s 4 ≤ 8) && (decide (nxA s 4 = [7]) || decide (nxA s 4 = [10])) && decide (nxE s 5 = 0) && (decide (nxS s 5 = 2) || decide (nxS s 5 = 3))
theorem tab4_all : ∀ s, s < 5 → tab4B (s + 4) = true := by decide +kernel
theorem tab4 (s : Nat) (h0 : s < 10) (h1 : 4 ≤ s) (h2 : s ≤ 8) : (nxE (s : Nat) 4 = 0 ∧ 4 ≤ nxS (s : Nat) 4 ∧ nxS (s : Nat) 4 ≤ 8 ∧ (nxA (s : Nat) 4 = [7] ∨ nxA (s : Nat) 4 = [10])) ∧ nxE (s : Nat) 5 = 0 ∧ (nxS (s : Nat) 5 = 2 ∨ nxS (s : Nat) 5 = 3) := by
  have h := tab4_all (s - 4) (by omega)
  rw [show s - 4 + 4 = s by omega] at h
  unfold tab4B at h
  simp only [Bool.and_eq_true, Bool.or_eq_true, decide_eq_true_eq] at h
  obtain ⟨⟨⟨⟨⟨a, b⟩, c⟩, d⟩, e⟩, f⟩ := h
  exact ⟨⟨a, b, c, d⟩, e, f⟩
theorem to_down {s c mc mt : Int} (hs : 4 ≤ s ∧ s ≤ 8) (hc : 0 < c) : toE s c = 0 ∧ (4 ≤ toS s c ∧ toS s c ≤ 8) ∧ toC s c mc mt = c - 1 := by
  have hr : runsB s = true := decide_eq_true hs
  obtain ⟨e1, e2, e3, e4⟩ := to_runs (c := c) (mc := mc) (mt := mt) hr
  obtain ⟨k, rfl⟩ := Int.eq_ofNat_of_zero_le (show 0 ≤ s by omega)
  have t := (tab4 k (by omega) (by omega) (by omega)).1
  have hv : tev c = 4 := if_pos hc
  rw [hv] at e1 e2 e3
  have hD : doE (k : Int) c 4 = 0 := by
    unfold doE outOf
    rw [if_pos t.1, if_neg]
    simp
    omega
  obtain ⟨f1, f2, f3⟩ := do_done (mc := mc) (mt := mt) hD
  refine ⟨e1.trans hD, by rw [e2, f1]; exact ⟨t.2.1, t.2.2.1⟩, ?_⟩
  rw [e3, f2]
  rcases t.2.2.2 with h | h
  all_goals
    rw [h]
    simp [rkn, stp]
    omega
theorem to_over {s c mc mt : Int} (hs : 4 ≤ s ∧ s ≤ 8) (hc : c = 0) : toE s c = 0 ∧ (toS s c = 2 ∨ toS s c = 3) := by
  subst hc
  have hr : runsB s = true := decide_eq_true hs
  obtain ⟨e1, e2, e3, e4⟩ := to_runs (c := 0) (mc := mc) (mt := mt) hr
  obtain ⟨k, rfl⟩ := Int.eq_ofNat_of_zero_le (show 0 ≤ s by omega)
  have t := (tab4 k (by omega) (by omega) (by omega)).2
  have hv : tev 0 = 5 := rfl
  rw [hv] at e1 e2 e3
  have hD : doE (k : Int) 0 5 = 0 := by
    unfold doE outOf
    rw [if_pos t.1, if_neg]
    simp
  obtain ⟨f1, f2, f3⟩ := do_done (mc := mc) (mt := mt) hD
  exact ⟨e1.trans hD, by rw [e2, f1]; exact t.2⟩
end Go.Proofs.YtpkmddagcfjadaaDoor
