/-
  An append onto bytes of the call's own, where the sum is a little more than 2^47: no doubling comes of it.
-/
import Derived.Test.YtnhadkmbekgfbaaClone
namespace Go.Proofs.Ytnhadkmbekgfbaa
open Go.RowKit
set_option maxRecDepth 100000

theorem growBy_le (need : Nat) : ∀ (r c : Nat), c < need → Builtin.growBy need r c ≤ need + (need + 768) / 4
  | 0, c, h => by
    unfold Builtin.growBy
    omega
  | r + 1, c, h => by
    unfold Builtin.growBy
    rw [if_neg (by omega)]
    by_cases h2 : c + (c + 768) / 4 < need
    · exact growBy_le need r _ h2
    · have : Builtin.growBy need r (c + (c + 768) / 4) = c + (c + 768) / 4 := by
        cases r with
        | zero => rfl
        | succ r =>
          unfold Builtin.growBy
          rw [if_pos (by omega)]
      rw [this]
      omega
theorem nextslicecap_fits {need old : Nat} (h : old < need) (hn : need ≤ 140737488420864) : Builtin.nextslicecap need old ≤ 281474976710656 := by
  unfold Builtin.nextslicecap
  split
  · omega
  · split
    · omega
    · have := growBy_le need 4 old h
      omega
theorem append_big {w : World} {base : Nat} {v : Value} {l : List UInt8} (ho : Own w base v l) {A : Option Addr} {n B : Nat} (c : Nat) {m : List UInt8} (hr : Rd w B A n m) (hnil : A = none → c = 0)
    (hbytes : l.length + n ≤ 140737488420864) (hbase : base ≤ w.heap.size) :
    ∃ v' w2, (Builtin.append_ #[52, 52] 52 #[v, .slice A n c]).run Try.prog w = .ok v' w2 ∧ Own w2 base v' (l ++ m) ∧ w.grownBy w2 v.ownBlock := by
  by_cases hs : l.length + n ≤ 140737488355328
  · obtain ⟨v', w2, h1, h2, h3, _⟩ := append_run ho c hr hnil hs hbase
    exact ⟨v', w2, h1, h2, h3⟩
  obtain ⟨i, hi, hz, h1, h2⟩ := info_parts byte_info
  have hl := hr.1
  rcases A with _ | ⟨b, off, sp⟩
  · have hn : n = 0 := by
      rcases Nat.eq_zero_or_pos n with h0 | h0
      · exact h0
      · obtain ⟨b, off, e, _⟩ := hr.2 h0
        cases e
    subst hn
    obtain rfl := hnil rfl
    obtain rfl : m = [] := List.eq_nil_of_length_eq_zero hl
    refine ⟨v, w, run_append_owned_none (P := Try.prog) (w := w) base 52 52 5 i 1 Try.underlying52 hi v _ _ ho, ?_, World.grownBy.refl _ _⟩
    simpa using ho
  · have hcells : ∀ j u, (m.map cellOf)[j]? = some u → w.cell? ((⟨b, off, sp⟩ : Addr).add j) = some u := by
      intro j u hj
      have hj' : j < m.length := by
        have := (List.getElem?_eq_some_iff.1 hj).1
        simpa using this
      obtain ⟨b', off', e, _, hc⟩ := hr.2 (by omega)
      simp only [Option.some.injEq, Addr.mk.injEq] at e
      obtain ⟨rfl, rfl, rfl⟩ := e
      have e : (⟨b, off, none⟩ : Addr).add j = ⟨b, off + j, none⟩ := by
        unfold Addr.add
        split
        · subst_vars
          rfl
        · rfl
      rw [e, hc j (by omega), ← hj, cells_at m j hj']
    have made : ∀ (cap : Nat), l.length + n ≤ cap → cap ≤ maxLen → ∀ row : Option Nat,
        Own (w.drew.alloc (.cells ((l.map cellOf).toArray ++ (m.map cellOf).toArray ++ Builtin.zeroCells (Value.int .u8 0).cells (cap - (l.length + n))) 5)) base (.slice (some ⟨w.heap.size, 0, none⟩) (l.length + n) cap) (l ++ m) ∧
        w.grownBy (w.drew.alloc (.cells ((l.map cellOf).toArray ++ (m.map cellOf).toArray ++ Builtin.zeroCells (Value.int .u8 0).cells (cap - (l.length + n))) 5)) row := by
      intro cap h3 h4 row
      have hlen : (l ++ m).length = l.length + n := by rw [List.length_append]; omega
      refine ⟨⟨by rw [List.length_map]; omega, .inr ⟨w.heap.size, cap, _, by rw [hlen], hbase, heap_alloc_new w.drew _, by omega, h4, ?_, ?_⟩⟩, ⟨rfl, rfl, rfl, by simp, fun k hk _ => heap_alloc_old w.drew _ hk⟩⟩
      · simp only [Array.size_append, List.size_toArray, size_zeroCells, List.length_map, Value.cells]
        simp
        omega
      · simp only [Array.toList_append]
        rw [hlen, List.map_append, List.take_append_of_le_length (by simp; omega)]
        rw [List.take_of_length_le (by simp; omega)]
    rcases ho.2 with ⟨rfl, h0⟩ | ⟨g, cap, cur, rfl, hbg, hg, hnc, hcm, hcs, htake⟩
    · have hx : l = [] := List.eq_nil_of_length_eq_zero h0
      subst hx
      have hrun := run_append_nil (P := Try.prog) w 52 52 5 i (.int .u8 0) Try.underlying52 hi hz ⟨b, off, sp⟩ n c (m.map cellOf) (by rw [List.length_map, h1]; omega) hcells (by simp at hs; omega) (by simp at hbytes; omega) (by simp at hbytes; rw [h2]; omega)
      have hge := grownCap_ge w n 0 5
      have hcm := grownCap_le_maxLen w n 0 5 (by unfold maxLen; simp at hbytes; omega)
      obtain ⟨k1, k2⟩ := made (grownCap w n 0 5) (by simpa using hge) hcm (Value.ownBlock (.slice none 0 0))
      refine ⟨_, _, hrun, ?_, ?_⟩
      · simpa using k1
      · simpa using k2
    · have hsz : (l.map cellOf).length = l.length * i.size := by rw [List.length_map, h1]; omega
      have hcells2 : ∀ j u, (l.map cellOf)[j]? = some u → w.cell? ((⟨g, 0, none⟩ : Addr).add j) = some u := World.ownsRow.cells ho (g := g) rfl
      by_cases hroom : l.length + n ≤ cap
      · have hfit : l.length * i.size + (m.map cellOf).length ≤ cur.size := by rw [List.length_map, hcs, h1]; omega
        have hrun := run_append_room (P := Try.prog) w 52 52 5 i Try.underlying52 hi g l.length cap cur hg ⟨b, off, sp⟩ n c (m.map cellOf) (by rw [List.length_map, h1]; omega) hcells (cells_one _) hroom hfit
        refine ⟨_, _, hrun, ?_, ⟨rfl, rfl, rfl, by simp, fun k _ hk => setRow_other w g k _ (fun e => hk (by simp [Value.ownBlock, e]))⟩⟩
        have hlen : (l ++ m).length = l.length + n := by rw [List.length_append]; omega
        refine ⟨by rw [List.length_map]; omega, .inr ⟨g, cap, _, by rw [hlen], hbg, setRow_heap w g cur _ 5 _ hg, by omega, hcm, ?_, ?_⟩⟩
        · simp only [List.size_toArray, List.length_append, List.length_take, List.length_drop, Array.length_toList, List.length_map, h1]
          omega
        · have ht : cur.toList.take (l.length * i.size) = l.map cellOf := by rw [h1]; exact htake
          rw [ht, hlen, List.map_append]
          simp only [List.append_assoc]
          rw [← List.append_assoc, Nat.mul_one, show l.length + n = (l.map cellOf ++ m.map cellOf).length by simp; omega]
          exact List.take_left
      · have hrun := run_append_grow (P := Try.prog) w 52 52 5 i (.int .u8 0) Try.underlying52 hi hz ⟨g, 0, none⟩ l.length cap (l.map cellOf) hsz hcells2 ⟨b, off, sp⟩ n c (m.map cellOf) (by rw [List.length_map, h1]; omega) hcells (by omega) (by omega) (by have := nextslicecap_fits (need := l.length + n) (old := cap) (by omega) hbytes; rw [h2]; omega)
        have hge := grownCap_ge w (l.length + n) cap 5
        have hcm2 := grownCap_le_maxLen w (l.length + n) cap 5 (by unfold maxLen; omega)
        obtain ⟨k1, k2⟩ := made (grownCap w (l.length + n) cap 5) hge hcm2 (Value.ownBlock (.slice (some ⟨g, 0, none⟩) l.length cap))
        exact ⟨_, _, hrun, k1, k2⟩
end Go.Proofs.Ytnhadkmbekgfbaa
