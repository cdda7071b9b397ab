/-
  slices.Insert of one timer: the walks.
-/
import Derived.Test.YtdlnmhobhafobaaTmIns
import Derived.Deep.RegionLaw
import Derived.Outline
namespace Go.Proofs.Ytdlnmhobhafobaa
open Go.RowKit Go.Shelf
set_option maxRecDepth 100000
set_option maxHeartbeats 2000000
set_option linter.unusedSimpArgs false
set_option linter.unusedVariables false

def ins (i : Nat) (x : T2) (xs : List T2) : List T2 := xs.take i ++ x :: xs.drop i
theorem ins_end (x : T2) (xs : List T2) : ins xs.length x xs = xs ++ [x] := by simp [ins]
theorem ins_flat (i : Nat) (x : T2) (xs : List T2) : (ins i x xs).flatMap cellsT = (xs.flatMap cellsT).take (i * 2) ++ cellsT x ++ (xs.flatMap cellsT).drop (i * 2) := by
  rw [flat_take, flat_drop]
  simp [ins]
theorem ins_length (i : Nat) (x : T2) (xs : List T2) (h : i ≤ xs.length) : (ins i x xs).length = xs.length + 1 := by
  simp [ins]
  omega
/-- a copy whose run is known, as a step of a walk and of a region -/
theorem wpList_copyT {w : World} {ops : Array Oper} {rest : List Oper} {o : Oper} {a : Act} {Q : Exit → Act → World → Prop} (hgd : o.guard = none) (s x : Operand)
    (ho : o.op = .call { callee := .builtin .copy, args := #[s, x], argTypes := #[90, 90] }) (v u : Value) (hs : a.eval s = v) (hx : a.eval x = u)
    (v' : Value) (w2 : World) (hrun : (Builtin.copy_ #[90, 90] o.type #[v, u]).run Try.prog w = .ok v' w2)
    (h : wpList Try.prog ops Q rest (a.put o.dst v') w2) : wpList Try.prog ops Q (o :: rest) a w := by
  refine wpList_plain hgd fun K hK => ?_
  unfold Oper.wp execOp
  simp only [ho, resolve, invoke, builtin, Sem.run_bind, Sem.run_pure, Result.andThen_ok, List.map_toArray, List.map_cons, List.map_nil, hs, hx, hrun]
  exact hK _ _ h
theorem step_copyT {w : World} {ops : Array Oper} {o : Oper} {a : Act} {K : Act → World → Prop} {Q : Exit → Act → World → Prop} {E : Prop} (hgd : o.guard = none) (s x : Operand)
    (ho : o.op = .call { callee := .builtin .copy, args := #[s, x], argTypes := #[90, 90] }) (v u : Value) (hs : a.eval s = v) (hx : a.eval x = u)
    (v' : Value) (w2 : World) (hrun : (Builtin.copy_ #[90, 90] o.type #[v, u]).run Try.prog w = .ok v' w2)
    (h : K (a.put o.dst v') w2) : if Region.wanted o (yielded ops a.tmps) = true then Oper.wp Try.prog o a w K Q else E := by
  have hw : Region.wanted o (yielded ops a.tmps) = true := by simp [Region.wanted, hgd]
  rw [if_pos hw]
  unfold Oper.wp execOp
  simp only [ho, resolve, invoke, builtin, Sem.run_bind, Sem.run_pure, Result.andThen_ok, List.map_toArray, List.map_cons, List.map_nil, hs, hx, hrun]
  exact h
theorem tslice_nil : ∀ W, (Instr.slice 90 (.slice none 0 0) (some (.int .i64 0)) none none).run Try.prog W = .ok (.slice none 0 0) W := by
  intro W
  rw [run_slice_l W 90 _ _ _ (by rw [tslice_elem]; exact Try.underlying90) .i64 _ (by omega) (by omega), tslice_elem, timer_sizeOf]
  rfl
theorem insert_end (base vb : Nat) (v : Value) (x : T2) (xs : List T2) (w : World) (ho : OwnT w base v xs) (hb : base ≤ w.heap.size) (hx : Blk w vb 95 (cellsT x)) (hsm : xs.length ≤ 100) :
    Calls Try.prog 94 #[v, .int .i64 xs.length, .slice (some ⟨vb, 0, none⟩) 1 1] w fun e w' =>
      ∃ v', e = .returned v' ∧ OwnT w' base v' (ins xs.length x xs) ∧ w.grownBy w' v.ownBlock ∧ (v'.ownBlock = v.ownBlock ∨ v'.ownBlock = some w.heap.size) := by
  obtain ⟨v', w', hrun, ho', hg, hv⟩ := appT_run ho vb 1 1 [x] rfl (fun j u hj => by
    rw [hx.cell j]
    simpa using hj) (by omega) hb
  have POST : Hid (∃ v'', v' = v'' ∧ OwnT w' base v'' (ins xs.length x xs) ∧ w.grownBy w' v.ownBlock ∧ (v''.ownBlock = v.ownBlock ∨ v''.ownBlock = some w.heap.size)) := ⟨v', rfl, by rw [ins_end]; exact ho', hg, hv⟩
  obtain ⟨A, c, rfl, hcl⟩ := ho.slice
  obtain ⟨N, hN⟩ : ∃ N, N = xs.length := ⟨_, rfl⟩
  have hsl : ∃ A' n' c', ∀ W, (Instr.slice 90 (.slice A N c) (some (.int .i64 (N : Int))) none none).run Try.prog W = .ok (.slice A' n' c') W := by
    rcases ho.form with ⟨e, e2⟩ | ⟨g, cap, e, _⟩
    · injection e with e1 e3 e4
      subst e1 e4
      rw [hN, e2]
      exact ⟨_, _, _, tslice_nil⟩
    · injection e with e1 e3 e4
      subst e1
      obtain ⟨A', h, _⟩ := tslice_from g N c N (Nat.le_refl _) (by omega)
      exact ⟨_, _, _, h⟩
  obtain ⟨A', n', c', hsf⟩ := hsl
  rw [← hN] at hrun
  rw [← hN]
  have HRUN := Lib.hid hrun
  have hN100 : N ≤ 100 := by omega
  clear ho ho' hg hv hrun hx hcl hsm
  have HN := Lib.hid hN
  rw [← hN] at POST
  clear hN
  go_enter Try.func94, Try.ntmps94
  go_wp2_with (at_builtin; refine wpList_appT 90 90 rfl (.tmp 23) (.tmp 24) rfl _ _ rfl rfl _ _ HRUN.out ?_)
  go_ret
  obtain ⟨v'', rfl, h⟩ := POST.out
  exact ⟨_, rfl, h⟩
theorem list_grow {X R Z c : List Value} {i n : Nat} (hX : X.length = n * 2) (hi : i ≤ n) (hc : c.length = 2) (hZ : Z.length = (n + 1 - i) * 2) :
    ((X.take (i * 2) ++ Z ++ R).take (i * 2) ++ c ++ (X.take (i * 2) ++ Z ++ R).drop (i * 2 + 1 * 2)).take ((i + 1) * 2) ++ X.drop (i * 2) ++ ((X.take (i * 2) ++ Z ++ R).take (i * 2) ++ c ++ (X.take (i * 2) ++ Z ++ R).drop (i * 2 + 1 * 2)).drop ((i + 1) * 2 + (n - i) * 2) = X.take (i * 2) ++ c ++ X.drop (i * 2) ++ R := by
  have h1 : (X.take (i * 2)).length = i * 2 := by rw [List.length_take]; omega
  have e1 : (X.take (i * 2) ++ Z ++ R).take (i * 2) = X.take (i * 2) := by
    rw [List.append_assoc, List.take_append_of_le_length (by omega), List.take_of_length_le (by omega)]
  have e2 : (X.take (i * 2) ++ Z ++ R).drop (i * 2 + 1 * 2) = Z.drop 2 ++ R := by
    rw [List.append_assoc, List.drop_append, List.drop_of_length_le (by omega), List.nil_append, h1, show i * 2 + 1 * 2 - i * 2 = 2 by omega, List.drop_append_of_le_length (by omega)]
  rw [e1, e2]
  have e3 : (X.take (i * 2) ++ c ++ (Z.drop 2 ++ R)).take ((i + 1) * 2) = X.take (i * 2) ++ c := by
    rw [List.take_append_of_le_length (by rw [List.length_append]; omega), List.take_of_length_le (by rw [List.length_append]; omega)]
  have e4 : (X.take (i * 2) ++ c ++ (Z.drop 2 ++ R)).drop ((i + 1) * 2 + (n - i) * 2) = R := by
    rw [List.drop_append, List.drop_of_length_le (by rw [List.length_append]; omega), List.nil_append, List.length_append, h1, hc, List.drop_append, List.drop_of_length_le (by rw [List.length_drop]; omega), List.nil_append, List.length_drop, hZ, show (i + 1) * 2 + (n - i) * 2 - (i * 2 + 2) - ((n + 1 - i) * 2 - 2) = 0 by omega]
    rfl
  rw [e3, e4]
theorem list_shift {X cur c : List Value} {i n cap : Nat} (hX : X.length = n * 2) (hcur : cur.take (n * 2) = X) (hl : cur.length = cap * 2) (hn : n + 1 ≤ cap) (hi : i ≤ n) (hc : c.length = 2) :
    ((cur.take ((i + 1) * 2) ++ X.drop (i * 2) ++ cur.drop ((i + 1) * 2 + (n - i) * 2)).take (i * 2) ++ c ++ (cur.take ((i + 1) * 2) ++ X.drop (i * 2) ++ cur.drop ((i + 1) * 2 + (n - i) * 2)).drop (i * 2 + 1 * 2)).take ((n + 1) * 2) = X.take (i * 2) ++ c ++ X.drop (i * 2) := by
  have e0 : X.take (i * 2) = cur.take (i * 2) := by rw [← hcur, List.take_take, Nat.min_eq_left (by omega)]
  have h1 : (cur.take ((i + 1) * 2)).length = (i + 1) * 2 := by rw [List.length_take]; omega
  have e1 : (cur.take ((i + 1) * 2) ++ X.drop (i * 2) ++ cur.drop ((i + 1) * 2 + (n - i) * 2)).take (i * 2) = X.take (i * 2) := by
    rw [List.append_assoc, List.take_append_of_le_length (by omega), List.take_take, Nat.min_eq_left (by omega), e0]
  have e2 : (cur.take ((i + 1) * 2) ++ X.drop (i * 2) ++ cur.drop ((i + 1) * 2 + (n - i) * 2)).drop (i * 2 + 1 * 2) = X.drop (i * 2) ++ cur.drop ((i + 1) * 2 + (n - i) * 2) := by
    rw [List.append_assoc, show i * 2 + 1 * 2 = (cur.take ((i + 1) * 2)).length by omega, List.drop_left]
  have h2 : (X.take (i * 2)).length = i * 2 := by rw [List.length_take]; omega
  rw [e1, e2, ← List.append_assoc, List.take_append_of_le_length (by rw [List.length_append, List.length_append, List.length_drop]; omega), List.take_of_length_le (by rw [List.length_append, List.length_append, List.length_drop]; omega)]
end Go.Proofs.Ytdlnmhobhafobaa
