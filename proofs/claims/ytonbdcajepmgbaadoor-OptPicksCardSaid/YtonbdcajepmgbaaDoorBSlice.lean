/-
  Numbers of one and two bytes; an append as a step of a region; a slice of bytes from its fourth on.
-/
import Derived.Test.YtonbdcajepmgbaaDoorBase
import Derived.Test.YtonbdcajepmgbaaDoorNum
namespace Go.Proofs.YtonbdcajepmgbaaDoor
open Go.RowKit
set_option maxRecDepth 100000
set_option maxHeartbeats 4000000
set_option linter.unusedSimpArgs false
set_option linter.unusedVariables false

theorem num_one (l : List UInt8) : num l 1 = byteAt l 0 := by
  show num l 0 * 256 + byteAt l 0 = _
  show (0 : Int) * 256 + byteAt l 0 = _
  omega
theorem num_two (l : List UInt8) : num l 2 = 256 * byteAt l 0 + byteAt l 1 := by
  show (num l 1) * 256 + byteAt l 1 = _
  rw [num_one]
  omega
theorem step_app {w : World} {ops : Array Oper} {o : Oper} {a : Act} {K : Act → World → Prop} {Q : Exit → Act → World → Prop} {E : Prop} (hgd : o.guard = none) (s x : Operand)
    (ho : o.op = .call { callee := .builtin .append, args := #[s, x], argTypes := #[26, 26] }) (v u : Value) (hs : a.eval s = v) (hx : a.eval x = u)
    (v' : Value) (w2 : World) (hrun : (Builtin.append_ #[26, 26] o.type #[v, u]).run Tryd.prog w = .ok v' w2)
    (h : K (a.put o.dst v') w2) : if Region.wanted o (yielded ops a.tmps) = true then Oper.wp Tryd.prog o a w K Q else E := by
  have hw : Region.wanted o (yielded ops a.tmps) = true := by simp [Region.wanted, hgd]
  rw [if_pos hw]
  unfold Oper.wp execOp
  simp only [ho, resolve, invoke, builtin, Sem.run_bind, Sem.run_pure, Result.andThen_ok, List.map_toArray, List.map_cons, List.map_nil, hs, hx, hrun]
  exact h
theorem bslice_elem : Tryd.prog.elem 26 = 5 := by kernel_rfl
theorem bbyte_sizeOf (w : World) : (Go.sizeOf 5).run Tryd.prog w = .ok 1 w := by kernel_rfl
theorem b_slice (b off n c s : Nat) (h1 : s + 4 ≤ n) (h2 : n ≤ c) (hi : Int) (hh : hi = ((s + 4 : Nat) : Int)) : ∃ o', (o' = off ∧ c = 4 ∨ o' = off + 4 ∧ c ≠ 4) ∧ ∀ W, (Instr.slice 26 (.slice (some ⟨b, off, none⟩) n c) (some (.int .i64 4)) (some (.int .i64 hi)) none).run Tryd.prog W = .ok (.slice (some ⟨b, o', none⟩) s (c - 4)) W := by
  subst hh
  refine ⟨if c = 4 then off else off + 4, ?_, fun W => ?_⟩
  · split
    · exact .inl ⟨rfl, by assumption⟩
    · exact .inr ⟨rfl, by assumption⟩
  · rw [run_slice_lh W 26 _ _ _ (by rw [bslice_elem]; exact Tryd.underlying26) .i64 .i64 _ _ (by omega) (by omega) (by omega), bslice_elem, bbyte_sizeOf]
    simp only [Result.andThen_ok, sliced, Int.toNat_natCast]
    rw [show s + 4 - (4 : Int).toNat = s by omega]
    congr 2
    split
    · rename_i h
      rw [if_pos (show c = 4 from h)]
    · rename_i h
      rw [if_neg (show ¬ c = 4 from h)]
      simp [Addr.add]
end Go.Proofs.YtonbdcajepmgbaaDoor
