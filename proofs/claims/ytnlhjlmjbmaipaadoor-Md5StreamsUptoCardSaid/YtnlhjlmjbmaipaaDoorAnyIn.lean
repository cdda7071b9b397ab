/-
  A region that draws its order, inside a fence with a round: walked as outside of one, where no operation enters anything.
-/
import Derived.RegionTactic
import Derived.OrdersIn
import Derived.RegionIn
import Derived.WalkKit
namespace Go.Proofs.YtnlhjlmjbmaipaaDoor
open Go.RowKit
set_option linter.unusedSimpArgs false
set_option linter.unusedVariables false

/-- an operation that enters nothing -/
structure Flat (P : Program) (o : Oper) : Prop where
  plain : ∀ c, o.op ≠ .defer c
  about : ∀ w ρ, o.about P w ρ = none
  run : ∀ w ρ, (∃ v w', (execOp ρ o).run P w = .ok (.value v) w') ∨ (∃ w', (execOp ρ o).run P w = .ok .skip w') ∨ ∃ h w', (execOp ρ o).run P w = .halt h w'
theorem flat_wp {F : Fence} {n : Nat} {P : Program} {o : Oper} {a : Act} {w : World} {K : Act → World → Prop} {Q : Exit → Act → World → Prop} (hf : Flat P o) (hQ : ¬ LetsOut Q)
    (h : o.wp P a w K Q ∨ (o.asks P a w ∧ LetsOut Q)) : o.wpIn F n P a w K Q := by
  rcases h with h | ⟨_, h⟩
  · refine ⟨fun f e => (by rw [hf.about] at e; cases e), ?_⟩
    unfold Oper.wp at h
    rw [Oper.semAt_eq _ _ _ hf.plain]
    rcases hf.run w a.eval with ⟨v, w', e⟩ | ⟨w', e⟩ | ⟨x, w', e⟩
    · rw [e] at h ⊢
      exact h
    · rw [e] at h ⊢
      exact h
    · rw [e] at h ⊢
      cases x <;> exact h
  · exact absurd h hQ
theorem any_in {F : Fence} {n : Nat} {P : Program} {md : Region.Mode} {ops : Array Oper} {Q : Exit → Act → World → Prop} (hp : ∀ o ∈ ops.toList, Flat P o) (hQ : ¬ LetsOut Q) :
    ∀ (fuel : Nat) (listed : Array Bool) (a : Act) (w : World), wpAny P md ops Q fuel listed a w → wpAnyIn F n P md ops Q fuel listed a w := by
  intro fuel
  induction fuel with
  | zero => exact fun _ _ _ h => h
  | succ fuel ih =>
    intro listed a w h
    refine ⟨h.1, fun i hi => ?_⟩
    have h2 := wpOp_mono (fun a w => ih _ a w) (h.2 i hi)
    unfold wpOp at h2
    unfold wpOpIn
    cases ho : ops[i]? with
    | none =>
      rw [ho] at h2
      exact h2
    | some o =>
      rw [ho] at h2
      have hm : o ∈ ops.toList := by
        obtain ⟨hlt, he⟩ := Array.getElem?_eq_some_iff.1 ho
        rw [← he]
        exact Array.getElem_mem_toList hlt
      dsimp only at h2 ⊢
      split
      · rename_i hw
        rw [if_pos hw] at h2
        exact flat_wp (hp o hm) hQ h2
      · rename_i hw
        rw [if_neg hw] at h2
        exact ⟨fun f e => (by rw [(hp o hm).about] at e; cases e), h2⟩
theorem wpIn_region_flat {F : Fence} {n : Nat} {P : Program} {id : Nat} {ops : Array Oper} {Q : Exit → Act → World → Prop} {a : Act} {w : World} (hm : P.follows .mixedOrders = true) (hQ : ¬ LetsOut Q) (hp : ∀ o ∈ ops.toList, Flat P o)
    (h : wpAny P .any ops Q ops.size (Array.replicate ops.size false) a w.drew) : (Code.region id ops true).wpIn F n P Q a w :=
  wpIn_region_any hm (any_in hp hQ _ _ _ _ h)
theorem sem_v (s : Sem Value) (P : Program) (w : World) : (∃ v w', (do pure (Next.value (← s)) : Sem Next).run P w = .ok (.value v) w') ∨ (∃ w', (do pure (Next.value (← s)) : Sem Next).run P w = .ok .skip w') ∨ ∃ h w', (do pure (Next.value (← s)) : Sem Next).run P w = .halt h w' := by
  simp only [Sem.run_bind, Sem.run_pure]
  cases h : s.run P w with
  | ok v w' => exact .inl ⟨v, w', rfl⟩
  | halt x w' => exact .inr (.inr ⟨x, w', rfl⟩)
theorem sem_u (s : Sem Unit) (P : Program) (w : World) : (∃ v w', (do s; pure Next.skip : Sem Next).run P w = .ok (.value v) w') ∨ (∃ w', (do s; pure Next.skip : Sem Next).run P w = .ok .skip w') ∨ ∃ h w', (do s; pure Next.skip : Sem Next).run P w = .halt h w' := by
  simp only [Sem.run_bind, Sem.run_pure]
  cases h : s.run P w with
  | ok v w' => exact .inr (.inl ⟨w', rfl⟩)
  | halt x w' => exact .inr (.inr ⟨x, w', rfl⟩)
theorem flat_load (P : Program) {o : Oper} (t : TypeId) (x : Operand) (h : o.op = .load t x) : Flat P o :=
  ⟨fun c e => (by rw [h] at e; cases e), fun w ρ => (by unfold Oper.about; rw [h]), fun w ρ => by unfold execOp; rw [h]; exact sem_v _ P w⟩
theorem flat_store (P : Program) {o : Oper} (t : TypeId) (x y : Operand) (h : o.op = .store t x y) : Flat P o :=
  ⟨fun c e => (by rw [h] at e; cases e), fun w ρ => (by unfold Oper.about; rw [h]), fun w ρ => by unfold execOp; rw [h]; exact sem_u _ P w⟩
theorem flat_field (P : Program) {o : Oper} (t : TypeId) (x : Operand) (k : Nat) (h : o.op = .fieldAddr t x k) : Flat P o :=
  ⟨fun c e => (by rw [h] at e; cases e), fun w ρ => (by unfold Oper.about; rw [h]), fun w ρ => by unfold execOp; rw [h]; exact sem_v _ P w⟩
theorem flat_buildSlice (P : Program) {o : Oper} (t : TypeId) (k : Nat) (ps : Array (Nat × Operand)) (h : o.op = .buildSlice t k ps) : Flat P o :=
  ⟨fun c e => (by rw [h] at e; cases e), fun w ρ => (by unfold Oper.about; rw [h]), fun w ρ => by unfold execOp; rw [h]; exact sem_v _ P w⟩
theorem flat_append (P : Program) {o : Oper} (args : Array Operand) (ts : Array TypeId) (h : o.op = .call { callee := .builtin .append, args := args, argTypes := ts }) : Flat P o :=
  ⟨fun c e => (by rw [h] at e; cases e), fun w ρ => (by unfold Oper.about; rw [h]; simp [resolve, Target.leads, Sem.run_pure]), fun w ρ => by
    unfold execOp
    rw [h]
    simp only [resolve, invoke, builtin, Sem.run_bind, Sem.run_pure, Result.andThen_ok]
    generalize hr : (Builtin.append_ _ _ _).run P w = r
    cases r with
    | ok v w' => exact .inl ⟨v, w', rfl⟩
    | halt x w' => exact .inr (.inr ⟨x, w', rfl⟩)⟩
theorem nil_halts (P : Program) (w : World) : ∃ h w', (runtimePanic (α := Next) .nilDeref).run P w = .halt h w' := by
  unfold runtimePanic goPanic
  exact ⟨_, _, rfl⟩
theorem flat_nilCheck (P : Program) {o : Oper} (x : Operand) (h : o.op = .nilCheck x) : Flat P o := by
  refine ⟨fun c e => (by rw [h] at e; cases e), fun w ρ => (by unfold Oper.about; rw [h]), fun w ρ => ?_⟩
  unfold execOp
  rw [h]
  dsimp only
  split
  · exact .inr (.inr (nil_halts P w))
  · exact .inr (.inr (nil_halts P w))
  · exact .inr (.inr (nil_halts P w))
  · split
    · exact .inr (.inr (nil_halts P w))
    · simp only [Sem.run_bind]
      generalize (program.run P w) = r1
      cases r1 with
      | halt x w' => exact .inr (.inr ⟨x, w', rfl⟩)
      | ok p w1 =>
        simp only [Result.andThen_ok]
        generalize (Sem.run P (nilAhead _ _ _ _) w1) = r2
        cases r2 with
        | halt x w' => exact .inr (.inr ⟨x, w', rfl⟩)
        | ok p w2 =>
          simp only [Result.andThen_ok]
          split
          · exact .inr (.inr ⟨_, _, rfl⟩)
          · exact .inl ⟨_, _, rfl⟩
    · exact .inl ⟨_, _, rfl⟩
  · exact .inl ⟨_, _, rfl⟩
end Go.Proofs.YtnlhjlmjbmaipaaDoor
