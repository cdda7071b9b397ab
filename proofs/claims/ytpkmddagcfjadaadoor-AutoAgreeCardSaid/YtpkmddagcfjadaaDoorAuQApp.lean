/-
  An append onto a queue.
-/
import Derived.Test.YtpkmddagcfjadaaDoorAuQueue
namespace Go.Proofs.YtpkmddagcfjadaaDoor
open Go.RowKit
set_option maxRecDepth 100000
set_option maxHeartbeats 2000000
set_option linter.unusedSimpArgs false
set_option linter.unusedVariables false

theorem add_off (b off j : Nat) : (⟨b, off, none⟩ : Addr).add j = ⟨b, off + j, none⟩ := by
  unfold Addr.add
  split
  · rename_i h
    rw [h]
    rfl
  · rfl
theorem numAt_app_left {l k : List Int} {j : Nat} (h : j < l.length) : numAt (l ++ k) j = numAt l j := by
  rw [numAt_eq (show j < (l ++ k).length by rw [List.length_append]; omega), numAt_eq h, List.getElem_append_left h]
theorem numAt_app_right {l k : List Int} {j : Nat} (h : l.length ≤ j) (h2 : j < l.length + k.length) : numAt (l ++ k) j = numAt k (j - l.length) := by
  rw [numAt_eq (show j < (l ++ k).length by rw [List.length_append]; omega), numAt_eq (show j - l.length < k.length by omega), List.getElem_append_right h]
theorem grown_setRow {w : World} {g : Nat} (cs : Array Value) : w.grownBy (w.setRow g cs) (some g) :=
  ⟨rfl, rfl, rfl, by simp [World.setRow], fun k _ hne => setRow_other w g k cs (fun e => hne (by rw [e]))⟩
theorem qi_app {w : World} {base B : Nat} {v : Value} {l k : List Int} {A : Option Addr} {n c : Nat} (h : QI w base v l) (hr : RdI w B A n k) (hz : A = none → c = 0) (hm : l.length + n ≤ 1000) (hb : base ≤ w.heap.size) :
    ∃ v' w', (Builtin.append_ #[22, 22] 22 #[v, .slice A n c]).run Tryd.prog w = .ok v' w' ∧ QI w' base v' (l ++ k) ∧ w.grownBy w' v.ownBlock ∧ (v'.ownBlock = v.ownBlock ∨ v'.ownBlock = some w.heap.size) := by
  rcases h with ⟨rfl, rfl⟩ | ⟨g, off, cap, cs, rfl, hbg, hB, h1, h2, h3⟩
  · obtain ⟨v', w', hrun, h3, h4, h5⟩ := appI_rd (OwnI.nil w base) hr hz (by simp; simp at hm; omega) hb
    exact ⟨v', w', hrun, QI.of_own h3, h4, h5⟩
  · obtain ⟨i, hi, hzv, hs1, hs8⟩ := info_parts infoI
    have hQ : QI w base (.slice (some ⟨g, off, none⟩) l.length cap) l := .inr ⟨g, off, cap, cs, rfl, hbg, hB, h1, h2, h3⟩
    cases A with
    | none =>
      have hn : n = 0 := by
        rcases Nat.eq_zero_or_pos n with e | e
        · exact e
        · obtain ⟨b, o2, e2, _⟩ := hr.2 e
          cases e2
      subst hn
      rw [hz rfl, hr.of_zero, List.append_nil]
      refine ⟨_, w, ?_, hQ, World.grownBy.refl _ _, .inl rfl⟩
      simp [Builtin.append_, run_underlying Tryd.underlying22, sizeOf, typeInfo, hi, Builtin.lenOf, Builtin.firstCells, h2, storeCells]
    | some p =>
      have hkn := hr.1
      have hnews : ∀ j u, (k.map fun z => Value.int .i64 z)[j]? = some u → w.cell? (p.add j) = some u := by
        intro j u hj
        rw [List.getElem?_map] at hj
        have hjl : j < n := by
          rcases Nat.lt_or_ge j k.length with x | x
          · omega
          · rw [List.getElem?_eq_none x] at hj; cases hj
        rw [numAt_some (by omega)] at hj
        obtain ⟨b, o2, e2, _, hc⟩ := hr.2 (by omega)
        injection e2 with e2
        subst e2
        rw [add_off, hc j hjl]
        simpa using hj
      have hone : ∀ u ∈ k.map (fun z => Value.int .i64 z), u.oneCell' = true := by
        intro u hu
        obtain ⟨z, _, rfl⟩ := List.mem_map.1 hu
        rfl
      by_cases hroom : l.length + n ≤ cap
      · have hrun := run_append_room_off (P := Tryd.prog) w 22 22 3 i Tryd.underlying22 hi hs1 g off l.length cap cs.toArray hB p n c (k.map fun z => .int .i64 z) (by rw [List.length_map, hkn]) hnews hone hroom (by rw [List.length_map]; simp; omega)
        refine ⟨_, _, hrun, .inr ⟨g, off, cap, cs.take (off + l.length) ++ (k.map fun z => .int .i64 z) ++ cs.drop (off + l.length + (k.map fun z => Value.int .i64 z).length), ?_, hbg, ?_, ?_, ?_, fun j hj => ?_⟩, grown_setRow _, .inl rfl⟩
        · rw [List.length_append, hkn]
        · unfold Blk
          exact setRow_heap w g cs.toArray _ 3 _ hB
        · rw [List.length_append, List.length_append, List.length_take, List.length_drop, List.length_map]
          omega
        · rw [List.length_append]
          omega
        · rw [List.length_append] at hj
          by_cases hjl : j < l.length
          · rw [numAt_app_left hjl, List.append_assoc, List.getElem?_append_left (by rw [List.length_take]; omega), List.getElem?_take_of_lt (by omega)]
            exact h3 j hjl
          · rw [numAt_app_right (by omega) hj, List.append_assoc, List.getElem?_append_right (by rw [List.length_take]; omega), List.length_take, Nat.min_eq_left (by omega), List.getElem?_append_left (by rw [List.length_map]; omega), List.getElem?_map,
              show off + j - (off + l.length) = j - l.length by omega, numAt_some (by omega)]
            rfl
      · have hfit : Builtin.nextslicecap (l.length + n) cap * i.bytes ≤ 281474976710656 := by
          rw [hs8]
          exact growslice_fits (by omega) (by omega)
        have holds : ∀ j u, (l.map fun z => Value.int .i64 z)[j]? = some u → w.cell? ((⟨g, off, none⟩ : Addr).add j) = some u := by
          intro j u hj
          rw [List.getElem?_map] at hj
          have hjl : j < l.length := by
            rcases Nat.lt_or_ge j l.length with x | x
            · exact x
            · rw [List.getElem?_eq_none x] at hj; cases hj
          rw [numAt_some hjl] at hj
          rw [add_off, hB.cell, h3 j hjl]
          simpa using hj
        have hrun := run_append_grow (P := Tryd.prog) w 22 22 3 i _ Tryd.underlying22 hi hzv ⟨g, off, none⟩ l.length cap (l.map fun z => .int .i64 z) (by rw [List.length_map, hs1, Nat.mul_one]) holds p n c (k.map fun z => .int .i64 z) (by rw [List.length_map, hs1, hkn, Nat.mul_one]) hnews (by omega) (by omega) hfit
        have hG := grownCap_ge w (l.length + n) cap 3
        refine ⟨_, _, hrun, .inr ⟨w.heap.size, 0, grownCap w (l.length + n) cap 3, ((l.map fun z => Value.int .i64 z) ++ (k.map fun z => Value.int .i64 z)) ++ (Builtin.zeroCells (Value.int .i64 0).cells (grownCap w (l.length + n) cap 3 - (l.length + n))).toList, ?_, hb, ?_, ?_, ?_, fun j hj => ?_⟩, ?_, .inr rfl⟩
        · rw [List.length_append, hkn]
        · unfold Blk
          have h := heap_alloc_new w.drew (.cells ((l.map fun z => Value.int .i64 z).toArray ++ (k.map fun z => Value.int .i64 z).toArray ++ Builtin.zeroCells (Value.int .i64 0).cells (grownCap w (l.length + n) cap 3 - (l.length + n))) 3)
          refine Eq.trans h ?_
          congr 2
          apply Array.ext'
          simp [List.append_assoc]
        · have hzl : (Builtin.zeroCells (Value.int .i64 0).cells (grownCap w (l.length + n) cap 3 - (l.length + n))).toList.length = (grownCap w (l.length + n) cap 3 - (l.length + n)) * 1 := (Array.length_toList).trans (size_zeroCells _ _)
          rw [List.length_append, List.length_append, List.length_map, List.length_map, hzl]
          omega
        · rw [List.length_append]
          omega
        · rw [List.length_append] at hj
          rw [Nat.zero_add, List.getElem?_append_left (by rw [List.length_append, List.length_map, List.length_map]; omega), ← List.map_append, List.getElem?_map, numAt_some (by rw [List.length_append]; omega)]
          rfl
        · refine ⟨rfl, rfl, rfl, by simp, fun q hq hne => ?_⟩
          exact Below.heap_alloc w.drew _ _ hq
end Go.Proofs.YtpkmddagcfjadaaDoor
