/-
  slices.Insert of one timer: what copy and the append of made elements do to rows of timers.
-/
import Derived.Test.YtdlnmhobhafobaaTmRow
import Derived.Lib.AppendZeros
import Derived.Lib.Overlaps
import Derived.Laws.Externs
namespace Go.Proofs.Ytdlnmhobhafobaa
open Go.RowKit Go.Shelf
set_option maxRecDepth 100000
set_option maxHeartbeats 1000000
set_option linter.unusedSimpArgs false
set_option linter.unusedVariables false

/-- copy between rows of timers: m elements from where their cells lie, to element o of block g -/
theorem copyT {w : World} {g : Nat} {cur : List Value} (hb : Blk w g 95 cur) (o dLen dCap : Nat) (b off sLen sCap : Nat) (ys : List T2) (hm : ys.length = min sLen dLen) (hs : ∀ j u, (ys.flatMap cellsT)[j]? = some u → w.cell? ⟨b, off + j, none⟩ = some u) (hfit : o * 2 + ys.length * 2 ≤ cur.length) :
    ∃ w', (Builtin.copy_ #[90, 90] 3 #[.slice (some ⟨g, o * 2, none⟩) dLen dCap, .slice (some ⟨b, off, none⟩) sLen sCap]).run Try.prog w = .ok (goInt ys.length) w' ∧
      Blk w' g 95 (cur.take (o * 2) ++ ys.flatMap cellsT ++ cur.drop (o * 2 + ys.length * 2)) ∧ w.grownBy w' (some g) := by
  have hlen : (ys.flatMap cellsT).length = ys.length * 2 := by rw [flat_length]; omega
  have hl := run_loadCells_list (P := Try.prog) w ⟨b, off, none⟩ (ys.flatMap cellsT) (fun j u hj => by
    have e : (⟨b, off, none⟩ : Addr).add j = ⟨b, off + j, none⟩ := by
      unfold Addr.add
      split
      · rename_i h
        rw [h]
        rfl
      · rfl
    rw [e]
    exact hs j u hj)
  have hst := run_storeCells_at (P := Try.prog) g (o * 2) 95 (ys.flatMap cellsT) 0 cur.toArray w hb (by simp [hlen]; omega) (flat_one ys)
  rw [hlen] at hl
  obtain ⟨i, hi, hz, h1, h2⟩ := info_parts infoT
  refine ⟨w.setRow g (cur.take (o * 2) ++ ys.flatMap cellsT ++ cur.drop (o * 2 + ys.length * 2)).toArray, ?_, setRow_heap w g _ _ _ _ hb, grown_setRow _⟩
  simp only [Nat.add_zero, hlen] at hst
  simp [Builtin.copy_, run_underlying Try.underlying90, Builtin.lenOf, Builtin.firstCells, Go.sizeOf, typeInfo, hi, h1, ← hm, hl, hst]
/-- append(s[:i], make([]timer, k)...) where there is no room: a new row -/
theorem appZ {w : World} {base g n cap : Nat} {xs : List T2} (ho : OwnT w base (.slice (some ⟨g, 0, none⟩) n cap) xs) (i k : Nat) (hi : i ≤ n) (hk : 0 < k) (hgrow : cap < i + k) (hsm : i + k ≤ 200) :
    ∃ c' w', (Builtin.append_ #[90, 3] 90 #[.slice (some ⟨g, 0, none⟩) i cap, .int .i64 (k : Int)]).run Try.prog w = .ok (.slice (some ⟨w.heap.size, 0, none⟩) (i + k) c') w' ∧
      OwnT w' w.heap.size (.slice (some ⟨w.heap.size, 0, none⟩) (i + k) c') (xs.take i ++ List.replicate k (0, 0)) ∧ Below w.heap.size w w' := by
  obtain ⟨inf, hinf, hz, h1, h2⟩ := info_parts infoT
  obtain ⟨cur, hb, hbg, hn, hc, hcmx, hl, ht⟩ := ho.raw
  have hlen : ((xs.take i).flatMap cellsT).length = i * 2 := by rw [flat_length, List.length_take]; omega
  have hld := run_loadCells_list (P := Try.prog) w.drew ⟨g, 0, none⟩ ((xs.take i).flatMap cellsT) (fun j u hj => by
    rw [addr_add]
    show w.cell? ⟨g, j, none⟩ = some u
    rw [hb.cell]
    rw [← flat_take, ← ht] at hj
    rw [List.getElem?_take, List.getElem?_take] at hj
    split at hj
    · split at hj
      · exact hj
      · cases hj
    · cases hj)
  rw [hlen] at hld
  have hw : IntKind.i64.wrap (k : Int) = k := by rw [IntKind.wrap_i64]; omega
  have hneg : ¬ ((k : Int) < 0) := by omega
  have hk0 : ¬ (k = 0) := by omega
  have hroom : ¬ (i + k ≤ cap) := by omega
  have h63' : ¬ (9223372036854775807 < ((i + k : Nat) : Int)) := by omega
  have h63'' : ¬ (9223372036854775807 < (i : Int) + (k : Int)) := by omega
  have hgr : Builtin.nextslicecap (i + k) cap ≤ 2 * (i + k) + 2 * cap := by
    unfold Builtin.nextslicecap
    split
    · omega
    · split
      · omega
      · omega
  have h48' : ¬ (281474976710656 < Builtin.nextslicecap (i + k) cap * 16) := by omega
  have h48i : ¬ (281474976710656 < (k : Int) * 16) := by omega
  refine ⟨grownCap w (i + k) cap 95, w.drew.alloc (.cells (((xs.take i).flatMap cellsT).toArray ++ Builtin.zeroCells #[.int .i64 0, .int .i64 0] k ++ Builtin.zeroCells #[.int .i64 0, .int .i64 0] (grownCap w (i + k) cap 95 - (i + k))) 95), ?_, ?_, ⟨rfl, rfl, rfl, by simp, fun j hj => Below.heap_alloc w.drew _ j hj⟩⟩
  · simp [Builtin.append_, run_underlying Try.underlying90, run_underlying Try.underlying3, Go.sizeOf, typeInfo, zeroValue, hinf, hz, h1, h2, asInt, asIntOf, hw, hneg, hk0, hroom, h63', h63'', h48', h48i, Question.forced, Builtin.firstCells, hld, newRow, grownCap, Value.cells]
    intro h
    omega
  · have hge := grownCap_ge w (i + k) cap 95
    have hcl : grownCap w (i + k) cap 95 ≤ maxLen := grownCap_le_maxLen w (i + k) cap 95 (by unfold maxLen; omega)
    have hb2 : Blk (w.drew.alloc (.cells (((xs.take i).flatMap cellsT) ++ List.replicate (k * 2) (Value.int .i64 0) ++ List.replicate ((grownCap w (i + k) cap 95 - (i + k)) * 2) (Value.int .i64 0)).toArray 95)) w.heap.size 95 _ := blk_new w.drew _ _
    have e : (((xs.take i).flatMap cellsT).toArray ++ Builtin.zeroCells #[.int .i64 0, .int .i64 0] k ++ Builtin.zeroCells #[.int .i64 0, .int .i64 0] (grownCap w (i + k) cap 95 - (i + k))) = (((xs.take i).flatMap cellsT) ++ List.replicate (k * 2) (Value.int .i64 0) ++ List.replicate ((grownCap w (i + k) cap 95 - (i + k)) * 2) (Value.int .i64 0)).toArray := by
      apply Array.toList_inj.1
      simp only [Array.toList_append, List.toList_toArray, zeroCellsT]
    rw [e]
    have hfz : (List.replicate k ((0, 0) : T2)).flatMap cellsT = List.replicate (k * 2) (Value.int .i64 0) := by
      clear h48' h48i hgr h63' h63'' hroom hk0 hneg hw hld hgrow hsm hk hb2 e hge hcl
      induction k with
      | zero => rfl
      | succ k ih =>
        rw [List.replicate_succ, List.flatMap_cons, ih, show (k + 1) * 2 = k * 2 + 1 + 1 by omega, List.replicate_succ, List.replicate_succ]
        rfl
    refine ownT_mk hb2 (Nat.le_refl _) (by rw [List.length_append, List.length_take, List.length_replicate]; omega) hge hcl ?_ ?_
    · rw [List.length_append, List.length_append, hlen, List.length_replicate, List.length_replicate]
      omega
    · rw [List.take_append_of_le_length (by rw [List.length_append, hlen, List.length_replicate]; omega), List.take_of_length_le (by rw [List.length_append, hlen, List.length_replicate]; omega), List.flatMap_append, hfz]
end Go.Proofs.Ytdlnmhobhafobaa
