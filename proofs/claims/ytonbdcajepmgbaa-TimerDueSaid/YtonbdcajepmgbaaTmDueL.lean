/-
  TimerDue: one by one (the second loop).
-/
import Derived.Test.YtonbdcajepmgbaaTmDueF
import Derived.Test.YtonbdcajepmgbaaTmPop
namespace Go.Proofs.Ytonbdcajepmgbaa
open Go.RowKit Go.Shelf
set_option maxRecDepth 100000
set_option maxHeartbeats 2000000
set_option linter.unusedSimpArgs false
set_option linter.unusedVariables false

/-- what stands between two rounds of the second loop -/
structure L2 (w W : World) (b c d e0 P Q S : Nat) (hi : Int) (vp vq vs want one : Value) (xs : List T2) (k : Nat) : Prop where
  p : Q1 W w.heap.size b P (xs.drop (cnt hi xs)) vp
  s : Q1 W c d S xs vs
  hw : OwnI W d want ((xs.take (cnt hi xs)).map Prod.fst)
  wlt : ∀ i, want.ownBlock = some i → i < e0
  q : Qs W b Q (xs.drop k) vq
  qlo : b ≤ Q
  qhi : Q < c
  qo : ∀ i, vq.ownBlock = some i → (b ≤ i ∧ i < c) ∨ e0 ≤ i
  ho : OwnI W e0 one ((xs.take k).map Prod.fst)
  sep : ∀ i, one.ownBlock = some i → vq.ownBlock ≠ some i
  bel : Below w.heap.size w W
  ab : w.heap.size ≤ b
  bc : b ≤ c
  cd : c ≤ d
  de : d ≤ e0
  ge : e0 ≤ W.heap.size
  len : xs.length ≤ 64
  nd : (xs.map Prod.fst).Nodup
theorem L2.later {w W W' : World} {b c d e0 P Q S : Nat} {hi : Int} {vp vq vs want one : Value} {xs : List T2} {k : Nat} (h : L2 w W b c d e0 P Q S hi vp vq vs want one xs k) (hB : Below W.heap.size W W') : L2 w W' b c d e0 P Q S hi vp vq vs want one xs k := by
  have hd := h.de
  have hg := h.ge
  have hcd := h.cd
  have hbc := h.bc
  have hab := h.ab
  exact ⟨h.p.later hB (by omega), h.s.later hB (by omega), (h.hw.ob.below hB).get, h.wlt, h.q.later hB, h.qlo, h.qhi, h.qo, (h.ho.ob.below hB).get, h.sep, h.bel.trans (hB.mono h.bel.size), h.ab, h.bc, h.cd, h.de, Nat.le_trans hg hB.size, h.len, h.nd⟩
theorem pop_step {w W : World} {b c d e0 P Q S : Nat} {hi : Int} {vp vq vs want one : Value} {xs : List T2} {k : Nat} (h : L2 w W b c d e0 P Q S hi vp vq vs want one xs k) (hk : k < cnt hi xs) :
    Calls Try.prog 25 #[.pointer (some ⟨Q, 0, none⟩), .int .i64 hi] W fun e W1 => ∃ id V one' W2, e = .returned (.tuple #[.int .i64 id, .int .i64 0]) ∧ W1.alloc (.cells #[.int .i64 id] 3) = V ∧
      (Builtin.append_ #[41, 41] 41 #[one, .slice (some ⟨W1.heap.size, 0, none⟩) 1 1]).run Try.prog V = .ok one' W2 ∧ ∃ vq', L2 w W2 b c d e0 P Q S hi vp vq' vs want one' xs (k + 1) := by
  have hcl := cnt_le hi xs
  obtain ⟨x, hx⟩ : ∃ x, xs[k]? = some x := ⟨xs[k]'(by omega), List.getElem?_eq_getElem _⟩
  have hxd : xs.drop k = x :: xs.drop (k + 1) := by
    obtain ⟨hkl, rfl⟩ := List.getElem?_eq_some_iff.1 hx
    exact List.drop_eq_getElem_cons hkl
  have hq := h.q
  rw [hxd] at hq
  have hnd : ((x :: xs.drop (k + 1)).map Prod.fst).Nodup := by
    rw [← hxd]
    exact h.nd.sublist (List.Sublist.map _ (List.drop_sublist ..))
  have hd := h.de
  have hg := h.ge
  have hcd := h.cd
  have hbc := h.bc
  have hab := h.ab
  have ql := h.qlo
  have qh := h.qhi
  have hlen := h.len
  refine (tpop_some b Q x (xs.drop (k + 1)) vq hi W hq (by rw [List.length_drop]; omega) (due_at hk hx)).mono ?_
  rintro e W1 ⟨rfl, vq', hq1, t1⟩
  rw [without_head hnd] at hq1
  have z1 := t1.size
  have p1 : Q1 W1 w.heap.size b P (xs.drop (cnt hi xs)) vp := ⟨h.p.q.tm t1 (by have := h.p.hi; omega) (fun e => by have := h.p.hi; rcases h.qo _ e with q | q <;> omega) (fun e => by have := (h.p.own _ e).2; omega) (fun i e e2 => by have := (h.p.own i e).2; rcases h.qo _ e2 with q | q <;> omega), h.p.lo, h.p.hi, h.p.own, by omega⟩
  have s1 : Q1 W1 c d S xs vs := ⟨h.s.q.tm t1 (by have := h.s.lo; omega) (fun e => by have := h.s.lo; have := h.s.hi; rcases h.qo _ e with q | q <;> omega) (fun e => by have := (h.s.own _ e).1; omega) (fun i e e2 => by have := h.s.own i e; rcases h.qo _ e2 with q | q <;> omega), h.s.lo, h.s.hi, h.s.own, by omega⟩
  have hwb := h.hw.form.2
  have hob := h.ho.form.2
  have w1 := h.hw.tm t1 (fun e => by have := (hwb _ e).1; omega) (fun i e e2 => by have := (hwb i e).1; have := h.wlt i e; rcases h.qo _ e2 with q | q <;> omega)
  have o1 := h.ho.tm t1 (fun e => by have := (hob _ e).1; omega) h.sep
  have sep1 : ∀ i, one.ownBlock = some i → vq'.ownBlock ≠ some i := fun i e e2 => by
    rcases t1.own with e3 | e3 | ⟨j, e3, hj⟩
    · exact h.sep i e (e3 ▸ e2)
    · rw [e3] at e2; cases e2
    · rw [e3] at e2
      injection e2 with e2
      have := (hob i e).2
      omega
  have qo1 : ∀ i, vq'.ownBlock = some i → (b ≤ i ∧ i < c) ∨ e0 ≤ i := fun i e => by
    rcases t1.own with e3 | e3 | ⟨j, e3, hj⟩
    · exact h.qo i (e3 ▸ e)
    · rw [e3] at e; cases e
    · rw [e3] at e
      injection e with e
      exact .inr (by omega)
  have B1 : Below w.heap.size w W1 := h.bel.trans (t1.below h.bel.size (by omega) (fun i e => by rcases h.qo i e with q | q <;> omega))
  have hX : L2 w W1 b c d e0 P Q S hi vp vq' vs want one xs k → True := fun _ => trivial
  have BA : Below W1.heap.size W1 (W1.alloc (.cells #[.int .i64 x.1] 3)) := (Below.refl _ _).alloc (Nat.le_refl _) _
  obtain ⟨V, hV⟩ : ∃ V, W1.alloc (.cells #[.int .i64 x.1] 3) = V := ⟨_, rfl⟩
  have lit : OwnI V W1.heap.size (.slice (some ⟨W1.heap.size, 0, none⟩) 1 1) [x.1] := by
    rw [← hV]
    exact World.ownsRow_lit W1 #[.int .i64 x.1] 1 (Nat.le_refl _) (by unfold maxLen; omega) rfl
  rw [hV] at BA
  have zA := BA.size
  have tk : ((xs.take k).map Prod.fst).length ≤ 64 := by rw [List.length_map, List.length_take]; omega
  obtain ⟨one', W2, hrun, ho2, hg2, hv2⟩ := appI_all (o1.ob.below BA).get lit (by rw [List.length_singleton]; omega) (by omega)
  have z2 := hg2.size
  have oV : ∀ i, one.ownBlock = some i → e0 ≤ i ∧ i < W1.heap.size := fun i e => by
    have a := (hob i e).1
    have b := (hob i e).2
    omega
  have hBg : ∀ {B : Nat}, B ≤ e0 → Below B V W2 := fun hB => ⟨hg2.os, hg2.tape, hg2.output, hg2.size, fun i hi => hg2.block i (by omega) (fun e => by have := (oV i e.symm).1; omega)⟩
  refine ⟨x.1, V, one', W2, rfl, hV, hrun, vq', (p1.later BA p1.le).later (hBg (by omega)) (Nat.le_refl _), (s1.later BA s1.le).later (hBg (by omega)) (Nat.le_refl _), ?_, h.wlt, ?_, h.qlo, h.qhi, qo1, ?_, ?_, ?_, h.ab, h.bc, h.cd, h.de, by omega, h.len, h.nd⟩
  · exact ((w1.ob.below BA).grown hg2 (fun i e e2 => by have := (oV i e).1; have := h.wlt i (mem_own.1 e2); omega)).get
  · exact ((hq1.ob.below BA).grown hg2 (fun i e e2 => by
      rcases List.mem_cons.1 e2 with e3 | e3
      · have := (oV i e).1; omega
      · exact sep1 i e (mem_own.1 e3))).get
  · rw [take_one_more hx, List.map_append]
    exact ho2
  · intro i e e2
    rcases hv2 with e3 | e3
    · exact sep1 i (e3 ▸ e) e2
    · rw [e3] at e
      injection e with e
      have := (hq1.own.block i e2).2
      omega
  · exact (B1.trans (BA.mono B1.size)).trans (hBg (by omega))
theorem pop_end {w W : World} {b c d e0 P Q S : Nat} {hi : Int} {vp vq vs want one : Value} {xs : List T2} (h : L2 w W b c d e0 P Q S hi vp vq vs want one xs (cnt hi xs)) :
    Calls Try.prog 25 #[.pointer (some ⟨Q, 0, none⟩), .int .i64 hi] W fun e W1 => e = .returned (.tuple #[.int .i64 0, .int .i64 5]) ∧ L2 w W1 b c d e0 P Q S hi vp vq vs want one xs (cnt hi xs) := by
  have hlen := h.len
  refine (tpop_none b Q _ vq hi W h.q (by rw [List.length_drop]; omega) (due_rest hi xs)).mono ?_
  rintro e W1 ⟨rfl, hB⟩
  exact ⟨rfl, h.later hB⟩
end Go.Proofs.Ytonbdcajepmgbaa
