/-
  append of a string to bytes; one byte as a slice of the call's own.
-/
import Derived.Test.YtjimoegegigoiaaDoorBase
import Derived.Lib.AppendStr
import Derived.Laws.Rows
import Derived.Laws.ResultCell
namespace Go.Proofs.YtjimoegegigoiaaDoor
open Go.RowKit
set_option linter.unusedSimpArgs false
set_option linter.unusedVariables false
/-- what the response is the digest of -/
def respL (id : Int) (x : ByteArray) (l : List UInt8) : List UInt8 := [UInt8.ofNat id.toNat] ++ x.data.toList ++ l
theorem append_str {w : World} {base : Nat} {v : Value} {l : List UInt8} (ho : Own w base v l) (s : ByteArray) (hbytes : l.length + s.size ≤ 140737488355328) (hbase : base ≤ w.heap.size) :
    ∃ v' w2, (Builtin.append_ #[22, 9] 22 #[v, .string s]).run Tryd.prog w = .ok v' w2 ∧ Own w2 base v' (l ++ s.data.toList) ∧ w.grownBy w2 v.ownBlock := by
  obtain ⟨i, hi, hz, h1, h2⟩ := info_parts byte_info
  obtain ⟨v', w', hr, h3, h4, _⟩ := Lib.run_append_own_string (P := Tryd.prog) w base 22 9 22 5 i Tryd.underlying22 Tryd.underlying9 hi hz h1 h2 v l.length _ ho s (by unfold maxLen; omega) hbytes hbase
  refine ⟨v', w', hr, ?_, h4⟩
  unfold Own
  rw [List.length_append, List.map_append, show s.data.toList.length = s.size from Array.length_toList]
  exact h3
theorem own_one (w : World) (base : Nat) (c : UInt8) (x : Int) (hx : x = (c.toNat : Int)) (hb : base ≤ w.heap.size) : Own (w.alloc (.cells #[.int .u8 x] 5)) base (.slice (some ⟨w.heap.size, 0, none⟩) 1 1) [c] := by
  subst hx
  exact ⟨by simp, .inr ⟨w.heap.size, 1, _, rfl, hb, heap_alloc_new w _, Nat.le_refl _, by unfold maxLen; omega, by simp, by simp [cellOf]⟩⟩
theorem results_row_tmp {P : Program} {fn : Func} {p u : Tmp} {ty : TypeId} (h : fn.results = #[.cell p ty, .tmp u]) (tmps : Array Value) (w : World) (g : Nat) (t : TypeId) (cs : Array Value) (fr : Nat × Nat) (d : TypeDesc)
    (hp : tmps.getD p undef = .pointer (some ⟨g, 0, none⟩)) (hg : w.heap[g]? = some (.cells cs t fr))
    (hu : P.underlying ty = some d) (hd : (match d with | .struct _ | .array _ _ => true | _ => false) = true) (hi : (P.info? ty).map (·.size) = some cs.size) :
    (results fn tmps).run P w = .ok (.tuple #[.agg cs, tmps.getD u undef]) w := by
  rw [results_cell_tmp h, hp]
  simp [asAddr, run_loadVar_row w g t ty cs fr d hg hu hd hi, Result.andThen]
theorem wpList_appT {w : World} {ops : Array Oper} {rest : List Oper} {o : Oper} {a : Act} {Q : Exit → Act → World → Prop} (hgd : o.guard = none) (s x : Operand) (ts : Array TypeId)
    (ho : o.op = .call { callee := .builtin .append, args := #[s, x], argTypes := ts }) (v u : Value) (hs : a.eval s = v) (hx : a.eval x = u)
    (v' : Value) (w2 : World) (hrun : (Builtin.append_ ts o.type #[v, u]).run Tryd.prog w = .ok v' w2)
    (h : wpList Tryd.prog ops Q rest (a.put o.dst v') w2) : wpList Tryd.prog ops Q (o :: rest) a w := by
  refine wpList_plain hgd fun K hK => ?_
  unfold Oper.wp execOp
  simp only [ho, resolve, invoke, builtin, Sem.run_bind, Sem.run_pure, Result.andThen_ok, List.map_toArray, List.map_cons, List.map_nil, hs, hx, hrun]
  exact hK _ _ h
end Go.Proofs.YtjimoegegigoiaaDoor
