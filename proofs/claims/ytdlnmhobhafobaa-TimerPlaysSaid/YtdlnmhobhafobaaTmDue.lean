/-
  The method Due.
-/
import Derived.Test.YtdlnmhobhafobaaTmDelete
namespace Go.Proofs.Ytdlnmhobhafobaa
open Go.RowKit Go.Shelf
set_option maxRecDepth 100000
set_option maxHeartbeats 2000000
set_option linter.unusedSimpArgs false
set_option linter.unusedVariables false

def OwnI (w : World) (base : Nat) (v : Value) (l : List Int) : Prop := w.ownsRow base 3 1 v l.length (l.map fun z => .int .i64 z)
theorem OwnI.nil (w : World) (base : Nat) : OwnI w base (.slice none 0 0) [] := World.ownsRow_nil _ _ _ _
theorem OwnI.form {w : World} {base : Nat} {v : Value} {l : List Int} (h : OwnI w base v l) : (∃ A c, v = .slice A l.length c ∧ l.length ≤ c) ∧ ∀ k, v.ownBlock = some k → base ≤ k ∧ k < w.heap.size := by
  rcases h.2 with ⟨e, h0⟩ | ⟨g, cap, cur, e, hb, hg, hc, hm, _⟩
  · refine ⟨⟨none, 0, by rw [e, h0], by omega⟩, fun k hk => ?_⟩
    rw [e] at hk
    simp [Value.ownBlock] at hk
  · refine ⟨⟨_, cap, e, hc⟩, fun k hk => ?_⟩
    rw [e] at hk
    simp [Value.ownBlock] at hk
    subst hk
    exact ⟨hb, (Array.getElem?_eq_some_iff.1 hg).1⟩
theorem OwnI.grown {w w' : World} {base : Nat} {v : Value} {l : List Int} {row : Option Nat} (h : OwnI w base v l) (hg : w.grownBy w' row) (hne : v.ownBlock = none ∨ v.ownBlock ≠ row) : OwnI w' base v l := World.ownsRow.kept h hg hne
theorem appI_run {w : World} {base : Nat} {v : Value} {l : List Int} (h : OwnI w base v l) (z : Int) (hm : (l.length + 1) * 8 ≤ 140737488355328) (hb : base ≤ w.heap.size) :
    ∃ v' w', (Builtin.append_ #[99, 99] 99 #[v, .slice (some ⟨w.heap.size, 0, none⟩) 1 1]).run Try.prog (w.alloc (.cells #[.int .i64 z] 3)) = .ok v' w' ∧ OwnI w' base v' (l ++ [z]) ∧
      Below base w w' := by
  have hi : ∃ i, Try.prog.info? 3 = some i ∧ i.zero = some (.int .i64 0) ∧ i.size = 1 ∧ i.bytes = 8 :=
    info_parts (show (Try.prog.info? 3).map (fun i => (i.zero, i.size, i.bytes)) = some (some (.int .i64 0), 1, 8) by kernel_rfl)
  obtain ⟨i, hi, hz, h1, h2⟩ := hi
  have hal : OwnI (w.alloc (.cells #[.int .i64 z] 3)) base v l := World.ownsRow.alloc h _
  obtain ⟨v', w', hrun, h3, h4, _, h5⟩ := run_append_own_at (P := Try.prog) (w.alloc (.cells #[.int .i64 z] 3)) base 99 99 3 i _ 1 8 Try.underlying99 hi hz h1 h2 rfl (by decide) v _ _ hal ⟨w.heap.size, 0, none⟩ 1 1 [.int .i64 z]
    rfl (fun j u hj => by rw [addr_add]; exact (blk_new w 3 [.int .i64 z]).cell j ▸ hj) (by intro u hu; simp at hu; rw [hu]; rfl) (by unfold maxLen; omega) (by omega) (by simp; omega)
  refine ⟨v', w', hrun, ?_, ?_⟩
  · unfold OwnI
    rw [List.length_append, List.map_append]
    exact h3
  · exact ((Below.refl base w).alloc hb _).grown h4 (by simp; omega) (fun k e => (h.form.2 k e).1)
theorem delete_any (base k : Nat) (v : Value) (xs : List T2) (w : World) (ho : OwnT w base v xs) (hk : k ≤ xs.length) :
    Calls Try.prog 98 #[v, .int .i64 0, .int .i64 k] w fun e w' =>
      ∃ v', e = .returned v' ∧ OwnT w' base v' (xs.drop k) ∧ w.grownBy w' v.ownBlock ∧ v'.ownBlock = v.ownBlock := by
  by_cases h0 : k = 0
  · subst h0
    refine (delete_none base v xs w ho).mono ?_
    rintro e w' ⟨rfl, rfl⟩
    exact ⟨v, rfl, ho, World.grownBy.refl _ _, rfl⟩
  · rcases ho.form with ⟨rfl, rfl⟩ | ⟨g, cap, rfl, hbg, hgl, hlc, hcm⟩
    · simp at hk
      omega
    · refine (delete_some base g xs.length cap k xs w ho (by omega) hk).mono ?_
      rintro e w' ⟨rfl, h1, h2⟩
      exact ⟨_, rfl, h1, h2, rfl⟩
end Go.Proofs.Ytdlnmhobhafobaa
