/-
  The reference's queue: Copy, and All, in order.
-/
import Derived.Test.YtdlnmhobhafobaaTmSort
namespace Go.Proofs.Ytdlnmhobhafobaa
open Go.RowKit Go.Shelf
set_option maxRecDepth 100000
set_option maxHeartbeats 2000000
set_option linter.unusedSimpArgs false
set_option linter.unusedVariables false

theorem step_appR {w : World} {ops : Array Oper} {o : Oper} {a : Act} {K : Act → World → Prop} {Q : Exit → Act → World → Prop} {E : Prop} (hgd : o.guard = none) (s x : Operand)
    (ho : o.op = .call { callee := .builtin .append, args := #[s, x], argTypes := #[26, 26] }) (v u : Value) (hs : a.eval s = v) (hx : a.eval x = u)
    (v' : Value) (w2 : World) (hrun : (Builtin.append_ #[26, 26] o.type #[v, u]).run Try.prog w = .ok v' w2)
    (h : K (a.put o.dst v') w2) : if Region.wanted o (yielded ops a.tmps) = true then Oper.wp Try.prog o a w K Q else E := by
  have hw : Region.wanted o (yielded ops a.tmps) = true := by simp [Region.wanted, hgd]
  rw [if_pos hw]
  unfold Oper.wp execOp
  simp only [ho, resolve, invoke, builtin, Sem.run_bind, Sem.run_pure, Result.andThen_ok, List.map_toArray, List.map_cons, List.map_nil, hs, hx, hrun]
  exact h
theorem rtmcopy_any (base g : Nat) (ys : List T2) (v : Value) (w : World) (h : Rq w base g ys v) (hm : ys.length ≤ 100) :
    Calls Try.prog 12 #[.pointer (some ⟨g, 0, none⟩)] w fun e w' => e = .returned (.pointer (some ⟨w.heap.size, 0, none⟩)) ∧ ∃ v', Rq w' w.heap.size w.heap.size ys v' ∧ Below w.heap.size w w' := by
  have hgl := Blk.lt h.blk
  have hBx : Below w.heap.size w (w.alloc (.cells #[.slice none 0 0] 28)) := (Below.refl _ _).alloc (Nat.le_refl _) _
  have hnew : Blk (w.alloc (.cells #[.slice none 0 0] 28)) w.heap.size 28 [.slice none 0 0] := blk_new w _ _
  have hsz : (w.alloc (.cells #[.slice none 0 0] 28)).heap.size = w.heap.size + 1 := by simp
  have hq := h.later hBx
  obtain ⟨W1, hW1⟩ : ∃ W1, w.alloc (.cells #[.slice none 0 0] 28) = W1 := ⟨_, rfl⟩
  rw [hW1] at hBx hnew hsz hq
  have AP : ∃ A n c w', (Builtin.append_ #[26, 26] 26 #[.slice none 0 0, v]).run Try.prog W1.drew = .ok (.slice A n c) w' ∧ w'.cell? ⟨w.heap.size, 0, none⟩ = some (.slice none 0 0) ∧ w'.frozen? ⟨w.heap.size, 0, none⟩ = false ∧
      Rq (w'.setCell ⟨w.heap.size, 0, none⟩ (.slice A n c)) w.heap.size w.heap.size ys (.slice A n c) ∧ Below w.heap.size w (w'.setCell ⟨w.heap.size, 0, none⟩ (.slice A n c)) := by
    have hBd : Below w.heap.size w W1.drew := below_drewM hBx 1
    have hqd := h.later hBd
    have hnd : Blk W1.drew w.heap.size 28 [.slice none 0 0] := hnew
    have fin : ∀ v' w', OwnR w' (w.heap.size + 1) v' ys → W1.drew.grownBy w' none → ∃ A n c, v' = .slice A n c ∧ w'.cell? ⟨w.heap.size, 0, none⟩ = some (.slice none 0 0) ∧ w'.frozen? ⟨w.heap.size, 0, none⟩ = false ∧
        Rq (w'.setCell ⟨w.heap.size, 0, none⟩ (.slice A n c)) w.heap.size w.heap.size ys (.slice A n c) ∧ Below w.heap.size w (w'.setCell ⟨w.heap.size, 0, none⟩ (.slice A n c)) := by
      intro v' w' ho hg
      obtain ⟨A, c, hsl, _⟩ := ho.slice
      have hbk : Blk w' w.heap.size 28 [.slice none 0 0] := (hg.block _ (Blk.lt hnd) (by simp)).trans hnd
      have hgs : w'.grownBy (w'.setCell ⟨w.heap.size, 0, none⟩ v') (some w.heap.size) := grownBy_setCell' w' w.heap.size v'
      have hne : v'.ownBlock ≠ some w.heap.size := fun e => by have := (ho.block _ e).1; omega
      have hP : Rq (w'.setCell ⟨w.heap.size, 0, none⟩ v') w.heap.size w.heap.size ys v' ∧ Below w.heap.size w (w'.setCell ⟨w.heap.size, 0, none⟩ v') :=
        ⟨⟨Blk.set_ hbk 0 v', (ho.wide (by omega)).grown hgs (.inr hne), hne⟩, (hBd.grown hg (Nat.le_of_lt (Blk.lt hnd)) (fun k e => by cases e)).setCell (Nat.le_refl _) _⟩
      subst hsl
      exact ⟨A, _, c, rfl, hbk.cell 0, hbk.frozen 0, hP⟩
    have en : OwnR W1.drew (w.heap.size + 1) (.slice none 0 0) [] := OwnR.nil _ _
    rcases hqd.own.form with ⟨rfl, e0⟩ | ⟨gr, cap, hv, _, _, _, _⟩
    · have hr : (Builtin.append_ #[26, 26] 26 #[.slice none 0 0, .slice none 0 0]).run Try.prog W1.drew = .ok (.slice none 0 0) W1.drew := by kernel_rfl
      obtain ⟨A, n, c, e1, r⟩ := fin (.slice none 0 0) W1.drew (by rw [e0]; exact OwnR.nil _ _) ⟨rfl, rfl, rfl, Nat.le_refl _, fun _ _ _ => rfl⟩
      injection e1 with e2 e3 e4
      subst e2 e3 e4
      exact ⟨none, 0, 0, _, hr, r⟩
    · have ho := hqd.own
      rw [hv] at ho ⊢
      obtain ⟨v', w', hrun, ho', hg', _⟩ := appR_run en gr ys.length cap ys rfl (rcells ho) (by simp; omega) (by show w.heap.size + 1 ≤ W1.heap.size; omega)
      rw [List.nil_append] at ho'
      obtain ⟨A, n, c, e1, r⟩ := fin v' w' ho' hg'
      subst e1
      exact ⟨A, n, c, w', hrun, r⟩
  obtain ⟨A, n, c, w', hrun, x1, x2, x3⟩ := AP
  obtain ⟨Ai, ci, hsl, _⟩ := h.own.slice
  obtain ⟨m, hmm⟩ : ∃ m, ys.length = m := ⟨_, rfl⟩
  rw [hmm] at hsl
  subst hsl
  have y0 : W1.cell? ⟨g, 0, none⟩ = some (.slice Ai m ci) := hq.blk.cell 0
  have y1 : W1.cell? ⟨w.heap.size, 0, none⟩ = some (.slice none 0 0) := hnew.cell 0
  have y2 : w.heap.size < W1.heap.size := by omega
  have y3 : g < W1.heap.size := by omega
  have HW := Lib.hid hW1
  have HR := Lib.hid hrun
  have HQ := Lib.hid x3
  clear h hBx hnew hq hW1 hrun x3
  go_enter Try.func12, Try.ntmps12
  go_upto_region 2 with (rw [HW.out])
  go_region_law (refine step_appR rfl (.tmp 10) (.tmp 14) rfl _ _ rfl rfl _ _ HR.out ?_)
  all_goals
    go_wp2
    go_ret
    exact ⟨rfl, _, HQ.out⟩
end Go.Proofs.Ytdlnmhobhafobaa
