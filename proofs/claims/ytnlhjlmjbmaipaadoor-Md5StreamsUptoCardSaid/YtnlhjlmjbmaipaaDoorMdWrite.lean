/-
  (*md5.Stream).Write: bytes put behind the others.
-/
import Derived.Test.YtnlhjlmjbmaipaaDoorMdFrame
import Derived.Test.YtnlhjlmjbmaipaaDoorSliceFrom
import Derived.Test.YtnlhjlmjbmaipaaDoorMdRot
import Derived.Deep.RegionLaw
import Derived.Outline
namespace Go.Proofs.YtnlhjlmjbmaipaaDoor
open Go.RowKit
set_option maxRecDepth 100000
set_option maxHeartbeats 2000000
set_option linter.unusedSimpArgs false
set_option linter.unusedVariables false

/-- copy into a block of whatever type that is known whole -/
theorem copy_into {w : World} {g t : Nat} {cs : List Value} (hb : Blk w g t cs) (o dLen dCap : Nat) {A : Option Addr} {n B : Nat} (c : Nat) {l : List UInt8} (hr : Rd w B A n l) (k : Nat) (hk : k = min n dLen) (hfit : o + k ≤ cs.length) :
    ∃ w2, (Builtin.copy_ #[25, 25] 3 #[.slice (some ⟨g, o, none⟩) dLen dCap, .slice A n c]).run Tryd.prog w = .ok (goInt k) w2 ∧
      Blk w2 g t (cs.take o ++ ((l.take k).map cellOf ++ cs.drop (o + k))) ∧ w.grownBy w2 (some g) := by
  rcases Nat.eq_zero_or_pos k with h0 | h0
  · subst h0
    refine ⟨w, run_copy_none (P := Tryd.prog) w 25 25 3 5 _ _ _ _ _ _ Tryd.underlying25 byte_size hk.symm, ?_, World.grownBy.refl _ _⟩
    simpa using hb
  · obtain ⟨b, off, rfl, _, hc⟩ := hr.2 (by omega)
    have hl := hr.1
    have hlen : ((l.take k).map cellOf).length = k := by
      rw [List.length_map, List.length_take]
      omega
    have hrun := run_copy_row (P := Tryd.prog) w 25 25 3 5 g o dLen dCap ⟨b, off, none⟩ n c cs.toArray t ((l.take k).map cellOf)
      Tryd.underlying25 byte_size hb (by rw [hlen]; exact hk) (fun j v hj => by
        have hj' : j < k := by
          have := (List.getElem?_eq_some_iff.1 hj).1
          omega
        have e : (⟨b, off, none⟩ : Addr).add j = ⟨b, off + j, none⟩ := by
          unfold Addr.add
          split
          · subst_vars
            rfl
          · rfl
        rw [e, hc j (by omega)]
        rw [cells_at _ j (by rw [List.length_take]; omega)] at hj
        rw [← hj]
        congr 2
        unfold byteAt
        rw [List.getD_eq_getElem?_getD, List.getD_eq_getElem?_getD, List.getElem?_take_of_lt hj']) (by rw [hlen]; simpa using hfit) (cells_one _)
    rw [hlen] at hrun
    refine ⟨_, hrun, ?_, grown_setRow _⟩
    have h2 := setRow_heap w g _ (cs.toArray.toList.take o ++ (l.take k).map cellOf ++ cs.toArray.toList.drop (o + k)).toArray _ _ hb
    unfold Blk
    rw [h2]
    simp
theorem stCells_copy (v : Value) (rest m : List UInt8) (n r k : Nat) (hl : rest.length = 64) (hrk : r + k ≤ 64) (hm : k ≤ m.length) :
    (stCells v rest n).take (1 + r) ++ ((m.take k).map cellOf ++ (stCells v rest n).drop (1 + r + k)) = stCells v (rest.take r ++ (m.take k ++ rest.drop (r + k))) n := by
  unfold stCells
  rw [show 1 + r = r + 1 by omega, show r + 1 + k = r + k + 1 by omega, List.take_succ_cons, List.drop_succ_cons, List.take_append_of_le_length (by simp; omega), List.drop_append_of_le_length (by simp; omega)]
  simp [List.map_take, List.map_drop]
/-- a copy whose run is known, as a step of a region -/
theorem step_copy {w : World} {ops : Array Oper} {o : Oper} {a : Act} {K : Act → World → Prop} {Q : Exit → Act → World → Prop} {E : Prop} (hgd : o.guard = none) (s x : Operand)
    (ho : o.op = .call { callee := .builtin .copy, args := #[s, x], argTypes := #[25, 25] }) (v u : Value) (hs : a.eval s = v) (hx : a.eval x = u)
    (v' : Value) (w2 : World) (hrun : (Builtin.copy_ #[25, 25] o.type #[v, u]).run Tryd.prog w = .ok v' w2)
    (h : K (a.put o.dst v') w2) : if Region.wanted o (yielded ops a.tmps) = true then Oper.wp Tryd.prog o a w K Q else E := by
  have hw : Region.wanted o (yielded ops a.tmps) = true := by simp [Region.wanted, hgd]
  rw [if_pos hw]
  unfold Oper.wp execOp
  simp only [ho, resolve, invoke, builtin, Sem.run_bind, Sem.run_pure, Result.andThen_ok, List.map_toArray, List.map_cons, List.map_nil, hs, hx, hrun]
  exact h
/-- the first copy of Write: some bytes fill up the next block -/
theorem write_first {w : World} {base g : Nat} {l : List UInt8} {v : Value} {A : Option Addr} {nn c B : Nat} {m : List UInt8} {rest : List UInt8} {r k : Nat} (h : St w base g (wordsAll l) rest l.length v) (hr : Rd w B A nn m) (hg : ∀ x o, A = some ⟨x, o, none⟩ → 0 < nn → x ≠ g)
    (hr64 : r < 64) (hk : k = min nn (64 - r)) :
    ∃ w2, (Builtin.copy_ #[25, 25] 3 #[.slice (some ⟨g, 1 + r, none⟩) (64 - r) (64 - r), .slice A nn c]).run Tryd.prog (w.setCell ⟨g, 65, none⟩ (.int .i64 ((l.length : Int) + nn))) = .ok (goInt k) w2 ∧
      St w2 base g (wordsAll l) (rest.take r ++ (m.take k ++ rest.drop (r + k))) (l.length + nn) v ∧ w.grownBy w2 (some g) := by
  have hl := hr.1
  have h1 := h.blk.set_ 65 (.int .i64 ((l.length : Int) + nn))
  have e1 : (stCells v rest l.length).set 65 (.int .i64 ((l.length : Int) + nn)) = stCells v rest (l.length + nn) := by
    unfold stCells
    rw [List.set_cons_succ, List.set_append_right _ _ (by simp [h.len]), List.length_map, h.len]
    simp
  rw [e1] at h1
  have hs : w.grownBy (w.setCell ⟨g, 65, none⟩ (.int .i64 ((l.length : Int) + nn))) (some g) := only_set _
  have hr1 : Rd (w.setCell ⟨g, 65, none⟩ (.int .i64 ((l.length : Int) + nn))) B A nn m := by
    refine ⟨hl, fun h0 => ?_⟩
    obtain ⟨b, off, e, hb, hc⟩ := hr.2 h0
    refine ⟨b, off, e, hb, fun j hj => ?_⟩
    rw [World.cell?_of_block (w := w) (a := ⟨b, off + j, none⟩) (Below.heap_setCell w _ _ b (fun e' => hg b off e h0 e'))]
    exact hc j hj
  obtain ⟨w2, hrun, hb2, hg2⟩ := copy_into h1 (1 + r) (64 - r) (64 - r) c hr1 k hk (by rw [stCells_length, h.len]; omega)
  have h64 := h.len
  rw [stCells_copy v rest m (l.length + nn) r k h.len (by omega) (by omega)] at hb2
  have hgg : w.grownBy w2 (some g) := only_then hs hg2 (fun i hi => .inl hi)
  exact ⟨w2, hrun, ⟨hb2, by simp; omega, h.own.grown hgg (.inr h.ne), h.ne, h.ok⟩, hgg⟩
end Go.Proofs.YtnlhjlmjbmaipaaDoor
