/-
  An append of bytes behind a full row that need not begin at its block's head.
-/
import Derived.Test.YtlpboleclehilaaDoorCcSmall
import Derived.Deep.Upon
namespace Go.Proofs.YtlpboleclehilaaDoor
open Go.RowKit
set_option maxRecDepth 100000
set_option maxHeartbeats 2000000
set_option linter.unusedSimpArgs false
set_option linter.unusedVariables false

theorem cells_news {w : World} {B m : Nat} {a : Addr} {l : List UInt8} (hr : Rd w B (some a) m l) (h0 : 0 < m) : ∀ j u, (l.map cellOf)[j]? = some u → w.cell? (a.add j) = some u := by
  intro j u hj
  have hj' : j < l.length := by
    have := (List.getElem?_eq_some_iff.1 hj).1
    simpa using this
  have hl := hr.1
  obtain ⟨b, off, e, _, hc⟩ := hr.2 h0
  injection e with e
  subst e
  have e : (⟨b, off, none⟩ : Addr).add j = ⟨b, off + j, none⟩ := by
    unfold Addr.add
    split
    · rename_i h; rw [h]; rfl
    · rfl
  rw [e, hc j (by omega)]
  rw [List.getElem?_map, List.getElem?_eq_getElem hj'] at hj
  rw [byteAt_eq _ _ hj']
  simpa [cellOf] using hj
theorem add_at (b off j : Nat) : (⟨b, off, none⟩ : Addr).add j = ⟨b, off + j, none⟩ := by
  unfold Addr.add
  split
  · rename_i h; rw [h]; rfl
  · rfl
theorem app_full {w : World} (g o k : Nat) (h : List UInt8) (hk : h.length = k) (h0 : 0 < k) (hc : ∀ i, i < k → w.cell? ⟨g, o + i, none⟩ = some (.int .u8 (byteAt h i))) (hg : g < w.heap.size) (D : Option Addr) (m c B : Nat) (l : List UInt8)
    (hr : Rd w B D m l) (hB : B ≤ w.heap.size) (hD : D = none → c = 0) (hm : k + m ≤ 140737488355328) :
    ∃ A cc w', (Builtin.append_ #[51, 51] 51 #[.slice (some ⟨g, o, none⟩) k k, .slice D m c]).run Tryd.prog w = .ok (.slice A (k + m) cc) w' ∧ Rd w' w'.heap.size A (k + m) (h ++ l) ∧ (A = none → cc = 0) ∧ k + m ≤ cc ∧ Below w.heap.size w w' := by
  obtain ⟨i, hi, hz, h1, h2⟩ := info_parts byte_info
  have hl := hr.1
  have hkc : ∀ j u, (h.map cellOf)[j]? = some u → w.cell? ((⟨g, o, none⟩ : Addr).add j) = some u := by
    intro j u hj
    have hj' : j < h.length := by
      have := (List.getElem?_eq_some_iff.1 hj).1
      simpa using this
    rw [add_at, hc j (by omega), byteAt_eq _ _ hj']
    rw [List.getElem?_map, List.getElem?_eq_getElem hj'] at hj
    simpa [cellOf] using hj
  rcases Nat.eq_zero_or_pos m with hm0 | hm0
  · subst hm0
    have hnil : l = [] := List.eq_nil_of_length_eq_zero hl
    subst hnil
    have hs : Src Tryd.prog i.size 51 (.slice D 0 c) 0 [] w := by
      rcases D with _ | a
      · exact Src.ofNil w Tryd.underlying51 c
      · exact Src.ofSlice w Tryd.underlying51 a 0 c [] (by simp) (fun j u hj => by simp at hj) (fun u hu => by simp at hu)
    refine ⟨_, _, _, run_append_nothing w _ _ _ _ i Tryd.underlying51 hi _ k k (Nat.le_refl _) _ hs, ?_, fun e => (by cases e), Nat.le_refl _, Below.refl _ _⟩
    rw [List.append_nil]
    exact ⟨hk, fun _ => ⟨g, o, rfl, hg, fun j hj => hc j (by omega)⟩⟩
  · obtain ⟨b, off, rfl, _, _⟩ := hr.2 hm0
    have hn := cells_news hr hm0
    have hrun := run_append_grow (P := Tryd.prog) (w := w) 51 51 5 i _ Tryd.underlying51 hi hz ⟨g, o, none⟩ k k (h.map cellOf) (by rw [List.length_map, h1]; omega) hkc ⟨b, off, none⟩ m c (l.map cellOf) (by rw [List.length_map, h1]; omega) hn (by omega) (by omega)
      (growslice_fits (by omega) (by rw [h2]; omega))
    have hge := grownCap_ge w (k + m) k 5
    obtain ⟨G, hG⟩ : ∃ G, grownCap w (k + m) k 5 = G := ⟨_, rfl⟩
    rw [hG] at hrun hge
    refine ⟨_, _, _, hrun, ?_, fun e => (by cases e), hge, ?_⟩
    · refine ⟨by rw [List.length_append]; omega, fun _ => ⟨w.heap.size, 0, rfl, by rw [World.size_alloc]; exact Nat.lt_succ_self _, fun j hj => ?_⟩⟩
      rw [Nat.zero_add]
      have hB2 := blk_new w.drew 5 ((h.map cellOf) ++ (l.map cellOf) ++ (Builtin.zeroCells (Value.int IntKind.u8 0).cells (G - (k + m))).toList)
      have e : ((h.map cellOf) ++ (l.map cellOf) ++ (Builtin.zeroCells (Value.int IntKind.u8 0).cells (G - (k + m))).toList).toArray = (h.map cellOf).toArray ++ (l.map cellOf).toArray ++ Builtin.zeroCells (Value.int IntKind.u8 0).cells (G - (k + m)) := by simp
      rw [e] at hB2
      have hB3 := Blk.cell hB2 j
      have e2 : w.drew.heap.size = w.heap.size := rfl
      rw [e2] at hB3
      rw [hB3, List.getElem?_append_left (by simp; omega), ← List.map_append, List.getElem?_map, List.getElem?_eq_getElem (by rw [List.length_append]; omega), byteAt_eq _ _ (by rw [List.length_append]; omega)]
      rfl
    · have hd : Below w.heap.size w w.drew := below_drewN (Below.refl w.heap.size w) 1
      exact hd.alloc (Nat.le_refl _) _
end Go.Proofs.YtlpboleclehilaaDoor
