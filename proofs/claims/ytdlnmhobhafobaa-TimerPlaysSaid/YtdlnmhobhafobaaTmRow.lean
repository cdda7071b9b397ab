/-
  Rows of timers written in place: a store, pieces, clear, copy.
-/
import Derived.Test.YtdlnmhobhafobaaTmBase
import Derived.Laws.Slices
import Derived.Laws.CopyRow
namespace Go.Proofs.Ytdlnmhobhafobaa
open Go.RowKit Go.Shelf
set_option maxRecDepth 100000
set_option maxHeartbeats 1000000
set_option linter.unusedSimpArgs false
set_option linter.unusedVariables false

/-- the row as its block has it -/
theorem OwnT.raw {w : World} {base g n cap : Nat} {xs : List T2} (h : OwnT w base (.slice (some ⟨g, 0, none⟩) n cap) xs) :
    ∃ cur : List Value, Blk w g 95 cur ∧ base ≤ g ∧ n = xs.length ∧ n ≤ cap ∧ cap ≤ maxLen ∧ cur.length = cap * 2 ∧ cur.take (n * 2) = xs.flatMap cellsT := by
  rcases h.2 with ⟨e, _⟩ | ⟨g', cap', cur, e, hb, hg, h1, h2, h3, h4⟩
  · cases e
  · injection e with e1 e2 e3
    injection e1 with e1
    injection e1 with e1 _ _
    subst e1 e2 e3
    refine ⟨cur.toList, ?_, hb, rfl, h1, h2, by simpa using h3, by rw [← h4]⟩
    unfold Blk
    simpa using hg
theorem ownT_mk {w : World} {base g n cap : Nat} {xs : List T2} {cur : List Value} (h1 : Blk w g 95 cur) (h2 : base ≤ g) (h3 : n = xs.length) (h4 : n ≤ cap) (h5 : cap ≤ maxLen) (h6 : cur.length = cap * 2) (h7 : cur.take (n * 2) = xs.flatMap cellsT) :
    OwnT w base (.slice (some ⟨g, 0, none⟩) n cap) xs := by
  subst h3
  exact ⟨by rw [flat_length]; omega, .inr ⟨g, cap, cur.toArray, rfl, h2, h1, h4, h5, by simpa using h6, by simpa using h7⟩⟩
theorem flat_take : ∀ (xs : List T2) (i : Nat), (xs.flatMap cellsT).take (i * 2) = (xs.take i).flatMap cellsT
  | [], i => by simp
  | x :: xs, 0 => by simp
  | x :: xs, i + 1 => by
    rw [List.flatMap_cons, List.take_succ_cons, List.flatMap_cons, ← flat_take xs i, List.take_append]
    have e : (cellsT x).length = 2 := rfl
    rw [e, List.take_of_length_le (by rw [e]; omega), show (i + 1) * 2 - 2 = i * 2 by omega]
theorem flat_drop : ∀ (xs : List T2) (i : Nat), (xs.flatMap cellsT).drop (i * 2) = (xs.drop i).flatMap cellsT
  | [], i => by simp
  | x :: xs, 0 => by simp
  | x :: xs, i + 1 => by
    rw [List.flatMap_cons, List.drop_succ_cons, ← flat_drop xs i, List.drop_append]
    have e : (cellsT x).length = 2 := rfl
    rw [e, List.drop_of_length_le (by rw [e]; omega), List.nil_append]
    congr 1
    omega
theorem flat_set : ∀ (xs : List T2) (i : Nat) (x : T2), i < xs.length → (((xs.flatMap cellsT).set (i * 2) (.int .i64 x.1)).set (i * 2 + 1) (.int .i64 x.2)) = (xs.set i x).flatMap cellsT
  | [], i, x, h => by simp at h
  | y :: xs, 0, x, h => by simp [cellsT]
  | y :: xs, i + 1, x, h => by
    have ih := flat_set xs i x (by simpa using h)
    rw [List.set_cons_succ, List.flatMap_cons, List.flatMap_cons, ← ih, show (i + 1) * 2 = i * 2 + 2 by omega]
    simp [cellsT]
theorem OwnT.set2 {w : World} {base g n cap : Nat} {xs : List T2} (h : OwnT w base (.slice (some ⟨g, 0, none⟩) n cap) xs) (i : Nat) (x : T2) (hi : i < xs.length) :
    OwnT ((w.setCell ⟨g, i * 2, none⟩ (.int .i64 x.1)).setCell ⟨g, i * 2 + 1, none⟩ (.int .i64 x.2)) base (.slice (some ⟨g, 0, none⟩) n cap) (xs.set i x) ∧ w.grownBy ((w.setCell ⟨g, i * 2, none⟩ (.int .i64 x.1)).setCell ⟨g, i * 2 + 1, none⟩ (.int .i64 x.2)) (some g) := by
  obtain ⟨cur, _, _, hn, _⟩ := h.raw
  subst hn
  have h1 : w.ownsRow base 95 2 (.slice (some ⟨g, 0, none⟩) xs.length cap) xs.length (xs.flatMap cellsT) := h
  obtain ⟨h2, g2⟩ := h1.stored (i * 2) (.int .i64 x.1)
  obtain ⟨h3, g3⟩ := h2.stored (i * 2 + 1) (.int .i64 x.2)
  refine ⟨?_, only_then g2 g3 (fun k e => .inl e)⟩
  unfold OwnT
  rw [List.length_set, ← flat_set xs i x hi]
  exact h3
theorem tslice_elem : Try.prog.elem 90 = 95 := by kernel_rfl
theorem timer_sizeOf (w : World) : (Go.sizeOf 95).run Try.prog w = .ok 2 w := by kernel_rfl
/-- s[i:] -/
theorem tslice_from (g n cap i : Nat) (hi : i ≤ n) (hc : n ≤ cap) : ∃ A', (∀ W, (Instr.slice 90 (.slice (some ⟨g, 0, none⟩) n cap) (some (.int .i64 (i : Int))) none none).run Try.prog W = .ok (.slice A' (n - i) (cap - i)) W) ∧ (i < cap → A' = some ⟨g, i * 2, none⟩) ∧ ∃ o, A' = some ⟨g, o, none⟩ := by
  refine ⟨if cap = i then some ⟨g, 0, none⟩ else some ⟨g, i * 2, none⟩, fun W => ?_, fun h => by rw [if_neg (by omega)], ?_⟩
  · rw [run_slice_l W 90 _ _ _ (by rw [tslice_elem]; exact Try.underlying90) .i64 _ (by omega) (by omega), tslice_elem, timer_sizeOf]
    simp only [Result.andThen_ok, sliced, Int.toNat_natCast]
    congr 2
    split
    · rfl
    · exact congrArg some (addr_add g (i * 2))
  · split
    · exact ⟨_, rfl⟩
    · exact ⟨_, rfl⟩
/-- s[:i] -/
theorem tslice_to (g n cap i : Nat) (hi : i ≤ cap) : ∀ W, (Instr.slice 90 (.slice (some ⟨g, 0, none⟩) n cap) none (some (.int .i64 (i : Int))) none).run Try.prog W = .ok (.slice (some ⟨g, 0, none⟩) i cap) W := by
  intro W
  rw [run_slice_h W 90 _ _ _ (by rw [tslice_elem]; exact Try.underlying90) .i64 _ (by omega) (by omega), tslice_elem, timer_sizeOf]
  simp only [Result.andThen_ok, sliced, Int.toNat_natCast, Nat.sub_zero]
  congr 2
  split
  · rfl
  · exact congrArg some (addr_add g (0 * 2))
theorem zeroCellsT (n : Nat) : (Builtin.zeroCells #[.int .i64 0, .int .i64 0] n).toList = List.replicate (n * 2) (.int .i64 0) := by
  apply List.ext_getElem
  · simp [Builtin.zeroCells]
  · intro i h1 h2
    simp [Builtin.zeroCells]
    rcases Nat.mod_two_eq_zero_or_one i with h | h <;> simp [h]
/-- clear(s[i:]), then s[:i] -/
theorem clearT {w : World} {base g n cap : Nat} {xs : List T2} (h : OwnT w base (.slice (some ⟨g, 0, none⟩) n cap) xs) (i : Nat) (hi : i ≤ n) (A' : Option Addr) (hA : i < cap → A' = some ⟨g, i * 2, none⟩) :
    ∃ w', (∀ ty, (Builtin.clear_ #[90] ty #[.slice A' (n - i) (cap - i)]).run Try.prog w = .ok (.tuple #[]) w') ∧ OwnT w' base (.slice (some ⟨g, 0, none⟩) i cap) (xs.take i) ∧ w.grownBy w' (some g) := by
  obtain ⟨cur, hb, hbg, hn, hc, hcm, hl, ht⟩ := h.raw
  by_cases h0 : i = n
  · subst h0
    refine ⟨w, fun ty => ?_, ?_, World.grownBy.refl _ _⟩
    · rw [Nat.sub_self]
      unfold Builtin.clear_
      simp [run_underlying Try.underlying90]
      cases A' <;> rfl
    · rw [List.take_of_length_le (by omega)]
      exact h
  · obtain rfl := hA (by omega)
    obtain ⟨m, hm⟩ : ∃ m, n - i = m + 1 := ⟨n - i - 1, by omega⟩
    have hst := run_storeCells_at (P := Try.prog) g (i * 2) 95 (List.replicate ((n - i) * 2) (Value.int .i64 0)) 0 cur.toArray w hb (by simp; omega) (by intro v hv; rw [List.eq_of_mem_replicate hv]; rfl)
    refine ⟨w.setRow g (cur.take (i * 2) ++ List.replicate ((n - i) * 2) (Value.int .i64 0) ++ cur.drop (i * 2 + (n - i) * 2)).toArray, fun ty => ?_, ?_, grown_setRow _⟩
    · have hz : ∀ w : World, (zeroValue 95).run Try.prog w = .ok (.agg #[.int .i64 0, .int .i64 0]) w := fun w => by kernel_rfl
      rw [Nat.add_zero] at hst
      simp only [List.length_replicate] at hst
      obtain ⟨W', hW'⟩ : ∃ W', W' = w.setRow g (cur.take (i * 2) ++ List.replicate ((n - i) * 2) (Value.int .i64 0) ++ cur.drop (i * 2 + (n - i) * 2)).toArray := ⟨_, rfl⟩
      rw [← hW'] at hst ⊢
      rw [hm] at hst ⊢
      unfold Builtin.clear_
      simp [run_underlying Try.underlying90, hz, Value.cells, zeroCellsT, hst]
    · have h2 := setRow_heap w g _ (cur.take (i * 2) ++ List.replicate ((n - i) * 2) (Value.int .i64 0) ++ cur.drop (i * 2 + (n - i) * 2)).toArray _ _ hb
      refine ownT_mk h2 hbg (by rw [List.length_take]; omega) (by omega) hcm ?_ ?_
      · simp
        omega
      · rw [List.append_assoc, List.take_append_of_le_length (by rw [List.length_take]; omega), List.take_take, Nat.min_self, ← flat_take, ← ht, List.take_take, Nat.min_eq_left (by omega)]
end Go.Proofs.Ytdlnmhobhafobaa
