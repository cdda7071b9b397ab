/-
  An append of whole numbers, wherever they lie.
-/
import Derived.Test.YtdjifjlkpimiaaaAuWords
namespace Go.Proofs.Ytdjifjlkpimiaaa
open Go.RowKit
set_option maxRecDepth 100000
set_option maxHeartbeats 2000000
set_option linter.unusedSimpArgs false
set_option linter.unusedVariables false

/-- an append of whole numbers, wherever they lie -/
theorem appI_rd {w : World} {base B : Nat} {v : Value} {l k : List Int} {A : Option Addr} {n c : Nat} (h : OwnI w base v l) (hr : RdI w B A n k) (hz : A = none → c = 0) (hm : (l.length + n) * 8 ≤ 140737488355328) (hb : base ≤ w.heap.size) :
    ∃ v' w', (Builtin.append_ #[22, 22] 22 #[v, .slice A n c]).run Try.prog w = .ok v' w' ∧ OwnI w' base v' (l ++ k) ∧ w.grownBy w' v.ownBlock ∧ (v'.ownBlock = v.ownBlock ∨ v'.ownBlock = some w.heap.size) := by
  cases A with
  | none =>
    have hn : n = 0 := by
      rcases Nat.eq_zero_or_pos n with e | e
      · exact e
      · obtain ⟨b, off, e2, _⟩ := hr.2 e
        cases e2
    subst hn
    rw [hz rfl]
    obtain ⟨i, hi, _, h1, _⟩ := info_parts infoI
    refine ⟨v, w, run_append_owned_none w base 22 22 3 i 1 Try.underlying22 hi v _ _ h, ?_, World.grownBy.refl _ _, .inl rfl⟩
    rw [hr.of_zero, List.append_nil]
    exact h
  | some p =>
    rcases Nat.eq_zero_or_pos n with e | e
    · subst e
      have hk := hr.of_zero
      subst hk
      obtain ⟨i, hi, hz, h1, h2⟩ := info_parts infoI
      obtain ⟨v', w', hrun, h3, h4, _, h5⟩ := run_append_own_at (P := Try.prog) w base 22 22 3 i _ 1 8 Try.underlying22 hi hz h1 h2 rfl (by decide) v _ _ h p 0 c []
        rfl (fun j u hj => by simp at hj) (by simp) (by unfold maxLen; omega) (by omega) hb
      refine ⟨v', w', hrun, ?_, h4, h5⟩
      rw [List.append_nil] at h3 ⊢
      exact h3
    · obtain ⟨b, off, e2, hbl, hc⟩ := hr.2 e
      injection e2 with e2
      subst e2
      exact appI_any h b off n c k hr.1 hc hm hb

end Go.Proofs.Ytdjifjlkpimiaaa
