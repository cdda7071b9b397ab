/-
  The reference's queue: without the timer at a place.
-/
import Derived.Test.YtdlnmhobhafobaaTmRBase
import Derived.Test.YtdlnmhobhafobaaTmMeth
namespace Go.Proofs.Ytdlnmhobhafobaa
open Go.RowKit Go.Shelf
set_option maxRecDepth 100000
set_option maxHeartbeats 2000000
set_option linter.unusedSimpArgs false
set_option linter.unusedVariables false

theorem addr_addo (g o i : Nat) : (⟨g, o, none⟩ : Addr).add i = ⟨g, o + i, none⟩ := by
  unfold Addr.add
  split
  · rename_i h
    rw [h]
    rfl
  · rfl
/-- an append onto the reference's timers, from wherever -/
theorem appR_at {w : World} {base : Nat} {v : Value} {xs : List T2} (h : OwnR w base v xs) (b o m c : Nat) (ys : List T2) (hm : ys.length = m) (hcells : ∀ j u, (ys.flatMap cellsT)[j]? = some u → w.cell? ⟨b, o + j, none⟩ = some u) (hl : (xs.length + m) * 16 ≤ 140737488355328) (hb : base ≤ w.heap.size) :
    ∃ v' w', (Builtin.append_ #[26, 26] 26 #[v, .slice (some ⟨b, o, none⟩) m c]).run Try.prog w = .ok v' w' ∧ OwnR w' base v' (xs ++ ys) ∧ w.grownBy w' v.ownBlock ∧ (v'.ownBlock = v.ownBlock ∨ v'.ownBlock = some w.heap.size) := by
  obtain ⟨i, hi, hz, h1, h2⟩ := info_parts infoR
  obtain ⟨v', w', hrun, h3, h4, _, h5⟩ := run_append_own_at (P := Try.prog) w base 26 26 108 i _ 2 16 Try.underlying26 hi hz h1 h2 rfl (by decide) v _ _ h ⟨b, o, none⟩ m c (ys.flatMap cellsT)
    (by rw [flat_length, hm]; omega) (fun j u hj => by rw [addr_addo]; exact hcells j u hj) (flat_one ys) (by unfold maxLen; omega) (by omega) hb
  refine ⟨v', w', hrun, ?_, h4, h5⟩
  unfold OwnR
  rw [List.length_append, List.flatMap_append, hm]
  exact h3
theorem rslice_elem : Try.prog.elem 26 = 108 := by kernel_rfl
theorem ref_sizeOf (w : World) : (Go.sizeOf 108).run Try.prog w = .ok 2 w := by kernel_rfl
/-- s[i:] -/
theorem rslice_from (g n cap i : Nat) (hi : i ≤ n) (hc : n ≤ cap) : ∃ A', (∀ W, (Instr.slice 26 (.slice (some ⟨g, 0, none⟩) n cap) (some (.int .i64 (i : Int))) none none).run Try.prog W = .ok (.slice A' (n - i) (cap - i)) W) ∧ (i < cap → A' = some ⟨g, i * 2, none⟩) ∧ ∃ o, A' = some ⟨g, o, none⟩ := by
  refine ⟨if cap = i then some ⟨g, 0, none⟩ else some ⟨g, i * 2, none⟩, fun W => ?_, fun h => by rw [if_neg (by omega)], ?_⟩
  · rw [run_slice_l W 26 _ _ _ (by rw [rslice_elem]; exact Try.underlying26) .i64 _ (by omega) (by omega), rslice_elem, ref_sizeOf]
    simp only [Result.andThen_ok, sliced, Int.toNat_natCast]
    congr 2
    split
    · rfl
    · exact congrArg some (addr_add g (i * 2))
  · split
    · exact ⟨_, rfl⟩
    · exact ⟨_, rfl⟩
/-- s[:i] -/
theorem rslice_to (g n cap i : Nat) (hi : i ≤ cap) : ∀ W, (Instr.slice 26 (.slice (some ⟨g, 0, none⟩) n cap) none (some (.int .i64 (i : Int))) none).run Try.prog W = .ok (.slice (some ⟨g, 0, none⟩) i cap) W := by
  intro W
  rw [run_slice_h W 26 _ _ _ (by rw [rslice_elem]; exact Try.underlying26) .i64 _ (by omega) (by omega), rslice_elem, ref_sizeOf]
  simp only [Result.andThen_ok, sliced, Int.toNat_natCast, Nat.sub_zero]
  congr 2
  split
  · rfl
  · exact congrArg some (addr_add g (0 * 2))
theorem rcells {w : World} {base g n cap : Nat} {xs : List T2} (h : OwnR w base (.slice (some ⟨g, 0, none⟩) n cap) xs) : ∀ j u, (xs.flatMap cellsT)[j]? = some u → w.cell? ⟨g, j, none⟩ = some u := fun j u hj => by
  have h1 := World.ownsRow.cells h (g := g) rfl j u hj
  rwa [addr_add] at h1
theorem rtmout_any (base g : Nat) (xs : List T2) (v : Value) (k : Nat) (w : World) (h : Rq w base g xs v) (hb : base ≤ w.heap.size) (hk : k < xs.length) (hm : xs.length ≤ 100) :
    Calls Try.prog 70 #[.pointer (some ⟨g, 0, none⟩), .int .i64 k] w fun e w' => e = .returned (.tuple #[]) ∧ ∃ v', Rq w' base g (xs.eraseIdx k) v' ∧ TmF g v v' w w' := by
  have hgl := Blk.lt h.blk
  have hc0 := h.blk.cell 0
  obtain ⟨gr, cap, rfl, hbg, hgr, hlc, _⟩ : ∃ gr cap, v = .slice (some ⟨gr, 0, none⟩) xs.length cap ∧ base ≤ gr ∧ gr < w.heap.size ∧ xs.length ≤ cap ∧ cap ≤ maxLen := by
    rcases h.own.form with ⟨_, e⟩ | h
    · rw [e] at hk; simp at hk
    · exact h
  obtain ⟨n, hn⟩ : ∃ n, xs.length = n := ⟨_, rfl⟩
  have htk : (xs.take k).length = k := by rw [List.length_take]; omega
  have hcl := rcells h.own
  have hst := rslice_to gr n cap k (by omega)
  obtain ⟨A', hsf, hA, o, hA2⟩ := rslice_from gr n cap (k + 1) (by omega) (by omega)
  obtain ⟨v1, w1, hr1, ho1, hg1, hv1⟩ := appR_at (OwnR.nil w w.heap.size) gr 0 k cap (xs.take k) htk (fun j u hj => by
    rw [Nat.zero_add]
    refine hcl j u ?_
    rw [← flat_take, List.getElem?_take] at hj
    split at hj
    · exact hj
    · cases hj) (by simp; omega) (Nat.le_refl _)
  rw [List.nil_append] at ho1
  have hB1 : Below w.heap.size w w1 := ⟨hg1.os, hg1.tape, hg1.output, hg1.size, fun i hi => hg1.block i hi (by simp [Value.ownBlock])⟩
  have q1 := h.later hB1
  have hcl1 := rcells q1.own
  have hdl : (xs.drop (k + 1)).length = n - (k + 1) := by rw [List.length_drop, hn]
  obtain ⟨v2, w2, hr2, ho2, hg2, hv2⟩ := appR_at ho1 gr o (n - (k + 1)) (cap - (k + 1)) (xs.drop (k + 1)) hdl (fun j u hj => by
    have hj0 : j < 2 * (n - (k + 1)) := by
      have := (List.getElem?_eq_some_iff.1 hj).1
      rw [flat_length, hdl] at this
      exact this
    have hoo : o = (k + 1) * 2 := by
      have := hA (by omega)
      rw [hA2] at this
      injection this with this
      injection this
    rw [← flat_drop, List.getElem?_drop] at hj
    rw [hoo]
    exact hcl1 _ _ hj) (by rw [htk]; omega) hB1.size
  rw [← List.eraseIdx_eq_take_drop_succ] at ho2
  have hvb : ∀ i, v2.ownBlock = some i → w.heap.size ≤ i := fun i e => (ho2.block i e).1
  have hB2 : Below w.heap.size w w2 := by
    refine ⟨hg2.os.trans hg1.os, hg2.tape.trans hg1.tape, hg2.output.trans hg1.output, Nat.le_trans hg1.size hg2.size, fun i hi => ?_⟩
    rw [hg2.block i (Nat.lt_of_lt_of_le hi hg1.size) (fun e => by have := (ho1.block i e.symm).1; omega)]
    exact hB1.block i hi
  have q2 := h.later hB2
  obtain ⟨A2, c2, hsl, _⟩ := ho2.slice
  have hE : (xs.eraseIdx k).length = n - 1 := by rw [List.length_eraseIdx, if_pos (by omega), hn]
  rw [hE] at hsl
  subst hsl
  have hne : (Value.slice A2 (n - 1) c2).ownBlock ≠ some g := fun e => by have := hvb g e; omega
  have hgs : w2.grownBy (w2.setCell ⟨g, 0, none⟩ (.slice A2 (n - 1) c2)) (some g) := grownBy_setCell' w2 g _
  have HP : Hid (Rq (w2.setCell ⟨g, 0, none⟩ (.slice A2 (n - 1) c2)) base g (xs.eraseIdx k) (.slice A2 (n - 1) c2) ∧ TmF g (.slice (some ⟨gr, 0, none⟩) n cap) (.slice A2 (n - 1) c2) w (w2.setCell ⟨g, 0, none⟩ (.slice A2 (n - 1) c2))) := by
    refine ⟨⟨Blk.set_ q2.blk 0 _, (ho2.wide hb).grown hgs (.inr hne), hne⟩, hB2.os.trans rfl, hB2.tape.trans rfl, hB2.output.trans rfl, Nat.le_trans hB2.size hgs.size, fun i hi hg _ => (hgs.block i (Nat.lt_of_lt_of_le hi hB2.size) (fun e => by injection e with e; exact hg e)).trans (hB2.block i hi), ?_⟩
    cases e : (Value.slice A2 (n - 1) c2).ownBlock with
    | none => exact .inr (.inl rfl)
    | some r => exact .inr (.inr ⟨r, rfl, hvb r e⟩)
  have x1 : w1.cell? ⟨g, 0, none⟩ = some (.slice (some ⟨gr, 0, none⟩) n cap) := by rw [← hn]; exact q1.blk.cell 0
  have x2 : w2.cell? ⟨g, 0, none⟩ = some (.slice (some ⟨gr, 0, none⟩) n cap) := by rw [← hn]; exact q2.blk.cell 0
  have x3 : w2.frozen? ⟨g, 0, none⟩ = false := q2.blk.frozen 0
  rw [hn] at hc0
  rw [← hn] at HP
  subst hA2
  have R1 := Lib.hid hr1
  have R2 := Lib.hid hr2
  have k0 : (0 : Int) ≤ (k : Int) := by omega
  have k1 : (k : Int) ≤ (cap : Int) := by omega
  have ek : ((k + 1 : Nat) : Int) = (k : Int) + 1 := by omega
  rw [ek] at hsf
  clear h hcl hr1 hr2 ho1 hg1 hv1 hB1 q1 hcl1 ho2 hg2 hv2 hvb hB2 q2 hne hgs hA
  rw [hn]
  rw [hn] at HP
  go_enter Try.func70, Try.ntmps70
  go_wp2_with (first
    | (at_builtin; refine wpList_appT 26 26 rfl (.tmp 5) (.tmp 11) rfl _ _ rfl rfl _ _ R1.out ?_)
    | (at_builtin; refine wpList_appT 26 26 rfl (.tmp 13) (.tmp 20) rfl _ _ rfl rfl _ _ R2.out ?_))
  go_end0
  exact ⟨rfl, _, HP.out⟩
end Go.Proofs.Ytdlnmhobhafobaa
