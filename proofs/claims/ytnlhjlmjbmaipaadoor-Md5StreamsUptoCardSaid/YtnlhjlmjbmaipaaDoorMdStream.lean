/-
  md5.Stream: what lies in one; New, Len, held, Reset.
-/
import Derived.Test.YtnlhjlmjbmaipaaDoorMdSum
namespace Go.Proofs.YtnlhjlmjbmaipaaDoor
open Go.RowKit
set_option maxRecDepth 100000
set_option maxHeartbeats 1000000
set_option linter.unusedSimpArgs false
set_option linter.unusedVariables false

/-- the cells of a stream: the words behind each block, the bytes of the next one, the number of bytes -/
def stCells (v : Value) (rest : List UInt8) (n : Nat) : List Value := v :: (rest.map cellOf ++ [.int .i64 n])
theorem stCells_length (v : Value) (rest : List UInt8) (n : Nat) : (stCells v rest n).length = rest.length + 2 := by simp [stCells]
/-- a slice of words of the call's own -/
def OwnW (w : World) (base : Nat) (v : Value) (vs : List W4) : Prop := w.ownsRow base 50 4 v vs.length (vs.flatMap cells4)
/-- the last of some words -/
def lastW (vs : List W4) : W4 := vs.getLast?.getD mdBegin
structure St (W : World) (base g : Nat) (vs : List W4) (rest : List UInt8) (n : Nat) (v : Value) : Prop where
  blk : Blk W g 44 (stCells v rest n)
  len : rest.length = 64
  own : OwnW W base v vs
  ne : v.ownBlock ≠ some g
  ok : ∀ x ∈ vs, x.ok
theorem St.slice {W : World} {base g n : Nat} {vs : List W4} {rest : List UInt8} {v : Value} (h : St W base g vs rest n v) : W.cell? ⟨g, 0, none⟩ = some v := h.blk.cell 0
theorem St.size {W : World} {base g n : Nat} {vs : List W4} {rest : List UInt8} {v : Value} (h : St W base g vs rest n v) : W.cell? ⟨g, 65, none⟩ = some (.int .i64 n) := by
  rw [h.blk.cell 65]
  show (stCells v rest n)[65]? = _
  unfold stCells
  rw [List.getElem?_cons_succ, List.getElem?_append_right (by rw [List.length_map, h.len]; omega), List.length_map, h.len]
  rfl
theorem St.rest {W : World} {base g n : Nat} {vs : List W4} {rest : List UInt8} {v : Value} (h : St W base g vs rest n v) (j : Nat) (hj : j < 64) : W.cell? ⟨g, 1 + j, none⟩ = some (.int .u8 (byteAt rest j)) := by
  rw [h.blk.cell (1 + j), show 1 + j = j + 1 by omega]
  unfold stCells
  rw [List.getElem?_cons_succ, List.getElem?_append_left (by rw [List.length_map, h.len]; omega)]
  exact cells_at rest j (by rw [h.len]; omega)
theorem St.rd {W : World} {base g n : Nat} {vs : List W4} {rest : List UInt8} {v : Value} (h : St W base g vs rest n v) : Rd W W.heap.size (some ⟨g, 1, none⟩) 64 rest :=
  ⟨h.len, fun _ => ⟨g, 1, rfl, Blk.lt h.blk, fun j hj => h.rest j hj⟩⟩
theorem St.later {w W : World} {base g n : Nat} {vs : List W4} {rest : List UInt8} {v : Value} (h : St w base g vs rest n v) (hB : Below w.heap.size w W) : St W base g vs rest n v := by
  refine ⟨(hB.block g (Blk.lt h.blk)).trans h.blk, h.len, ?_, h.ne, h.ok⟩
  refine h.own.kept (row := none) (grown_of_below hB) ?_
  exact Classical.em _
theorem held_any (g n : Nat) (W : World) (hc : W.cell? ⟨g, 65, none⟩ = some (.int .i64 n)) (hn : n ≤ 4611686018427387904) :
    Calls Tryd.prog 18 #[.pointer (some ⟨g, 0, none⟩)] W fun e w' => e = .returned (.int .i64 ((n % 64 : Nat) : Int)) ∧ W = w' := by
  have e1 : ((n : Int).tmod 64) = ((n % 64 : Nat) : Int) := by rw [Int.tmod_eq_emod_of_nonneg (by omega)]; omega
  go_enter Tryd.func18, Tryd.ntmps18
  go_wp2
  go_ret
  exact ⟨by first | rfl | (congr 2; omega) | simp, rfl⟩
theorem slen_any (g n : Nat) (W : World) (hc : W.cell? ⟨g, 65, none⟩ = some (.int .i64 n)) :
    Calls Tryd.prog 10 #[.pointer (some ⟨g, 0, none⟩)] W fun e w' => e = .returned (.int .i64 n) ∧ W = w' := by
  go_enter Tryd.func10, Tryd.ntmps10
  go_wp2
  go_ret
  exact ⟨rfl, rfl⟩
theorem new_any (w : World) : Calls Tryd.prog 5 #[] w fun e w' => e = .returned (.pointer (some ⟨w.heap.size, 0, none⟩)) ∧ w' = w.alloc (.cells (stCells (.slice none 0 0) (List.replicate 64 0) 0).toArray 44) := by
  have hz : ∀ w : World, (zeroValue 44).run Tryd.prog w = .ok (.agg (stCells (.slice none 0 0) (List.replicate 64 0) 0).toArray) w := fun w => by kernel_rfl
  go_enter Tryd.func5, Tryd.ntmps5
  go_wp2
  go_ret
  exact ⟨rfl, rfl⟩
theorem new_st (w : World) (base : Nat) : St (w.alloc (.cells (stCells (.slice none 0 0) (List.replicate 64 0) 0).toArray 44)) base w.heap.size [] (List.replicate 64 0) 0 (.slice none 0 0) :=
  ⟨blk_new w _ _, rfl, World.ownsRow_nil _ _ _ _, by simp [Value.ownBlock], fun x h => nomatch h⟩
end Go.Proofs.YtnlhjlmjbmaipaaDoor
