/-
  ipv6cp.Given, Want and Done, and the reference's: an identifier to be given.
-/
import Derived.Test.YtciijnhagdfpiaaBase
import Derived.Test.YtciijnhagdfpiaaNumPut
import Derived.LoopTactic
import Derived.Lib.Hide
import Derived.WalkMore
import Derived.BigQuiet
import Derived.Deep.Cut
import Derived.Deep.Light
import Derived.Deep.QuietTactic
import Derived.Deep.RegionLaw
import Derived.Outline
import Derived.ScopeJumps
namespace Go.Proofs.Ytciijnhagdfpiaa
open Go.RowKit
set_option maxRecDepth 100000
set_option maxHeartbeats 4000000
set_option linter.unusedSimpArgs false
set_option linter.unusedVariables false

/-- the k-th number from d on, round the machine's end -/
def gst (d : Int) : Nat → Int
  | 0 => d
  | k + 1 => (gst d k + 1) % 18446744073709551616
def okG (x m : Int) : Bool := !(x == 0) && !(x == m)
def giv (d m : Int) : Int := if okG d m then d else if okG (gst d 1) m then gst d 1 else gst d 2
def In64 (x : Int) : Prop := 0 ≤ x ∧ x < 18446744073709551616
theorem gst_in {d : Int} (h : In64 d) : ∀ k, In64 (gst d k)
  | 0 => h
  | k + 1 => by unfold In64 gst; omega
theorem gst_far {d : Int} (h : In64 d) : ∀ k, k ≤ 3 → (gst d k - d) % 18446744073709551616 = k := by
  intro k hk
  unfold In64 at h
  rcases (show k = 0 ∨ k = 1 ∨ k = 2 ∨ k = 3 by omega) with rfl | rfl | rfl | rfl <;> simp only [gst] <;> omega
theorem okG_no {x m : Int} : okG x m = false ↔ x = 0 ∨ x = m := by
  unfold okG
  by_cases h1 : x = 0 <;> by_cases h2 : x = m <;> simp [h1, h2]
theorem okG_yes {x m : Int} : okG x m = true ↔ x ≠ 0 ∧ x ≠ m := by
  unfold okG
  by_cases h1 : x = 0 <;> by_cases h2 : x = m <;> simp [h1, h2]
theorem gst_three {d m : Int} (h : In64 d) : ∃ k, k ≤ 2 ∧ okG (gst d k) m = true := by
  unfold In64 at h
  by_cases h0 : okG (gst d 0) m = true
  · exact ⟨0, by omega, h0⟩
  by_cases h1 : okG (gst d 1) m = true
  · exact ⟨1, by omega, h1⟩
  refine ⟨2, by omega, okG_yes.2 ?_⟩
  have h0' := okG_no.1 (Bool.eq_false_iff.2 h0)
  have h1' := okG_no.1 (Bool.eq_false_iff.2 h1)
  simp only [gst] at *
  omega
theorem giv_at {d m : Int} {k : Nat} (hk : k ≤ 2) (hn : ∀ j, j < k → okG (gst d j) m = false) (h : okG (gst d k) m = true) : giv d m = gst d k := by
  unfold giv
  rcases (show k = 0 ∨ k = 1 ∨ k = 2 by omega) with rfl | rfl | rfl
  · have : okG d m = true := h
    rw [if_pos this]; rfl
  · have h0 : ¬ okG d m = true := by have := hn 0 (by omega); simpa [gst] using this
    rw [if_neg h0, if_pos h]
  · have h0 : ¬ okG d m = true := by have := hn 0 (by omega); simpa [gst] using this
    have h1 : ¬ okG (gst d 1) m = true := by rw [hn 1 (by omega)]; simp
    rw [if_neg h0, if_neg h1]
theorem giv_in {d : Int} (m : Int) (h : In64 d) : In64 (giv d m) := by
  unfold giv
  split
  · exact h
  · split
    · exact gst_in h 1
    · exact gst_in h 2
theorem giv_ok {d : Int} (m : Int) (h : In64 d) : giv d m ≠ 0 ∧ giv d m ≠ m := by
  obtain ⟨k, hk, ho⟩ := gst_three (m := m) h
  unfold giv
  by_cases h0 : okG d m = true
  · rw [if_pos h0]; exact okG_yes.1 h0
  rw [if_neg h0]
  by_cases h1 : okG (gst d 1) m = true
  · rw [if_pos h1]; exact okG_yes.1 h1
  rw [if_neg h1]
  rcases (show k = 0 ∨ k = 1 ∨ k = 2 by omega) with rfl | rfl | rfl
  · exact absurd ho h0
  · exact absurd ho h1
  · exact okG_yes.1 ho
/-- the way to it: k numbers were not to be given -/
def GJ (d m : Int) (k : Nat) : Prop := k ≤ 2 ∧ ∀ j, j < k → okG (gst d j) m = false
theorem GJ.next {d m : Int} {k : Nat} (h : GJ d m k) (hd : In64 d) (hn : okG (gst d k) m = false) : GJ d m (k + 1) := by
  have hb : ∀ j, j < k + 1 → okG (gst d j) m = false := fun j hj => by
    rcases Nat.lt_succ_iff_lt_or_eq.1 hj with h2 | rfl
    · exact h.2 j h2
    · exact hn
  refine ⟨?_, hb⟩
  obtain ⟨q, hq, ho⟩ := gst_three (m := m) hd
  rcases Nat.lt_or_ge q (k + 1) with hlt | hge
  · rw [hb q hlt] at ho; cases ho
  · omega
theorem rgiven_any (d m : Int) (w : World) (hd : In64 d) : Calls Try.prog 25 #[.int .u64 d, .int .u64 m] w fun e w' => e = .returned (.int .u64 (giv d m)) ∧ w' = w := by
  go_enter Try.func25, Try.ntmps25
  go_wp2
  go_loopw [0] (fun i wr => wr = w ∧ ∃ k : Nat, i = .int .u64 (gst d k) ∧ Hid (GJ d m k)) (fun i _ => (3 - (intOf i - d) % 18446744073709551616).toNat)
  case atStart => exact ⟨rfl, 0, rfl, Lib.hid ⟨by omega, fun j hj => by omega⟩⟩
  case round =>
    obtain ⟨rfl, k, rfl, hJ⟩ := hrel
    have hin := gst_in hd k
    have hs : IntKind.u64.wrap (gst d k + 1) = gst d (k + 1) := by rw [IntKind.wrap_u64]; rfl
    by_cases h0 : gst d k = 0
    · have e0 : (gst d k == 0) = true := by simpa using h0
      have HN := Lib.hid (hJ.out.next hd (okG_no.2 (.inl h0)))
      have HS := Lib.hid hs
      clear h0 hs
      go_wp2
      go_roundw
      case rel => exact ⟨trivial, k + 1, by rw [HS.out], HN⟩
      case measure =>
        rw [HS.out]
        have a1 := gst_far hd k (by have := hJ.out.1; omega)
        have a2 := gst_far hd (k + 1) (by have := HN.out.1; omega)
        have h2 := HN.out.1
        simp only [intOf]
        omega
    · have e0 : (gst d k == 0) = false := by simpa using h0
      by_cases h1 : gst d k = m
      · have e1 : (gst d k == m) = true := by simpa using h1
        have HN := Lib.hid (hJ.out.next hd (okG_no.2 (.inr h1)))
        have HS := Lib.hid hs
        clear h0 h1 hs
        go_wp2
        go_roundw
        case rel => exact ⟨trivial, k + 1, by rw [HS.out], HN⟩
        case measure =>
          rw [HS.out]
          have a1 := gst_far hd k (by have := hJ.out.1; omega)
          have a2 := gst_far hd (k + 1) (by have := HN.out.1; omega)
          have h2 := HN.out.1
          simp only [intOf]
          omega
      · have e1 : (gst d k == m) = false := by simpa using h1
        have HG := Lib.hid (giv_at hJ.out.1 hJ.out.2 (okG_yes.2 ⟨h0, h1⟩))
        clear h0 h1 hs
        go_wp2
        go_ret
        exact ⟨by rw [HG.out]; rfl, rfl⟩
theorem given_any (d m : Int) (w : World) (hd : In64 d) : Calls Try.prog 24 #[.int .u64 d, .int .u64 m] w fun e w' => e = .returned (.int .u64 (giv d m)) ∧ w' = w := by
  go_enter Try.func24, Try.ntmps24
  go_wp2
  refine wp_scope_jumps 0 (fun a' w' => w' = w ∧ ∃ (k : Nat) (u6 u7 u8 u9 u10 u11 u12 u13 u14 u15 : Value), a' = { tmps := #[.int .u64 d, .int .u64 m, undef, undef, .int .u64 0, .int .u64 (gst d k), u6, u7, u8, u9, u10, u11, u12, u13, u14, u15, undef], defers := [] } ∧ Hid (GJ d m k)) (fun a' _ => (3 - (intOf (a'.tmps.getD 5 undef) - d) % 18446744073709551616).toNat) rfl ?_ ?_
  · have hJ : Hid (GJ d m 0) := ⟨by omega, fun j hj => by omega⟩
    have hs : IntKind.u64.wrap (d + 1) = gst d 1 := by rw [IntKind.wrap_u64]; rfl
    by_cases hg : okG d m = true
    · obtain ⟨h0, h1⟩ := okG_yes.1 hg
      have e0 : (d == 0) = false := by simpa using h0
      have e1 : (d == m) = false := by simpa using h1
      have HG := Lib.hid (giv_at (k := 0) hJ.out.1 hJ.out.2 hg)
      clear h0 h1 hg hs
      go_wp2
      go_step3
      go_wp2
      simp only [Exit.jump]
      go_ret
      exact ⟨by rw [HG.out]; rfl, rfl⟩
    · have hg' := Bool.eq_false_iff.2 hg
      have HN := Lib.hid (hJ.out.next hd hg')
      have HS := Lib.hid hs
      have e2 : (d == 0 || d == m) = true := by
        rcases okG_no.1 hg' with h | h <;> simp [h]
      by_cases h0 : d = 0
      · have e0 : (d == 0) = true := by simpa using h0
        clear h0 hg hg' hs e2
        go_wp2
        go_step3
        go_wp2
        go_step3
        exact ⟨rfl, rfl, 1, _, _, _, _, _, _, _, _, _, _, by rw [HS.out], HN⟩
      · have h1 : d = m := by rcases okG_no.1 hg' with h | h; exact absurd h h0; exact h
        have e0 : (d == 0) = false := by simpa using h0
        have e1 : (d == m) = true := by simpa using h1
        clear h0 h1 hg hg' hs e2
        go_wp2
        go_step3
        go_wp2
        go_step3
        exact ⟨rfl, rfl, 1, _, _, _, _, _, _, _, _, _, _, by rw [HS.out], HN⟩
  · rintro a' w' ⟨rfl, k, u6, u7, u8, u9, u10, u11, u12, u13, u14, u15, rfl, hJ⟩
    have hin := gst_in hd k
    have hs : IntKind.u64.wrap (gst d k + 1) = gst d (k + 1) := by rw [IntKind.wrap_u64]; rfl
    by_cases hg : okG (gst d k) m = true
    · obtain ⟨h0, h1⟩ := okG_yes.1 hg
      have e0 : (gst d k == 0) = false := by simpa using h0
      have e1 : (gst d k == m) = false := by simpa using h1
      have HG := Lib.hid (giv_at hJ.out.1 hJ.out.2 hg)
      clear h0 h1 hg hs
      go_wp2
      simp only [Exit.jump]
      go_ret
      exact ⟨by rw [HG.out]; rfl, rfl⟩
    · have hg' := Bool.eq_false_iff.2 hg
      have HN := Lib.hid (hJ.out.next hd hg')
      have HS := Lib.hid hs
      have HM : Hid ((3 - (gst d (k + 1) - d) % 18446744073709551616).toNat < (3 - (gst d k - d) % 18446744073709551616).toNat) := by
        show _ < _
        have a1 := gst_far hd k (by have := hJ.out.1; omega)
        have a2 := gst_far hd (k + 1) (by have := HN.out.1; omega)
        have h2 := HN.out.1
        omega
      by_cases h0 : gst d k = 0
      · have e0 : (gst d k == 0) = true := by simpa using h0
        clear h0 hg hg' hs
        go_wp2
        go_step3
        exact ⟨rfl, ⟨rfl, k + 1, _, _, _, _, _, _, _, _, _, _, by rw [HS.out], HN⟩, by rw [HS.out]; exact HM.out⟩
      · have h1 : gst d k = m := by rcases okG_no.1 hg' with h | h; exact absurd h h0; exact h
        have e0 : (gst d k == 0) = false := by simpa using h0
        have e1 : (gst d k == m) = true := by simpa using h1
        clear h0 h1 hg hg' hs
        go_wp2
        go_step3
        exact ⟨rfl, ⟨rfl, k + 1, _, _, _, _, _, _, _, _, _, _, by rw [HS.out], HN⟩, by rw [HS.out]; exact HM.out⟩
end Go.Proofs.Ytciijnhagdfpiaa
