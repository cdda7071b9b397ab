/-
  Bytes as a string; one byte in new memory.
-/
import Derived.Test.YtjimoegegigoiaaDoorBase
import Derived.Laws.BytesArg
import Derived.Lib.Hide
namespace Go.Proofs.YtjimoegegigoiaaDoor
open Go.RowKit
set_option maxRecDepth 100000
set_option maxHeartbeats 400000
set_option linter.unusedSimpArgs false
set_option linter.unusedVariables false

/-- bytes as a string -/
def strOf (l : List UInt8) : ByteArray := strOfNums (l.map fun c => (c.toNat : Int))
theorem conv_run {w : World} {B n : Nat} {A : Option Addr} {l : List UInt8} (hr : Rd w B A n l) (c : Nat) :
    (convert 22 9 (.slice A n c)).run Tryd.prog w = .ok (.string (strOf l)) w := by
  have hl := hr.1
  rcases Nat.eq_zero_or_pos n with h0 | h0
  · subst h0
    obtain rfl : l = [] := List.eq_nil_of_length_eq_zero hl
    rcases A with _ | a
    · exact run_convert_bytes_nil w 22 5 Tryd.underlying22 Tryd.underlying5 0 c _ Tryd.underlying9
    · have hld : (loadCells a 0).run Tryd.prog w = .ok ((([] : List Int).map (Value.int .u8)).toArray) w := by
        simpa using run_loadCells_list (P := Tryd.prog) w a [] (fun j v hj => by simp at hj)
      rw [run_convert_bytes_string w _ _ _ _ _ _ Tryd.underlying22 Tryd.underlying5 Tryd.underlying9, run_bytesToString w a 0 c [] hld]
      rfl
  · obtain ⟨b, off, rfl, _, hc⟩ := hr.2 h0
    refine run_convert_bytes_arg w 22 5 Tryd.underlying22 Tryd.underlying5 b off n c (l.map fun c => (c.toNat : Int)) (by simpa using hl) (fun i hi => ?_) _ Tryd.underlying9
    rw [hc i hi]
    congr 2
    unfold byteAt
    have : i < l.length := by omega
    simp [List.getD_eq_getElem?_getD, this]

theorem rd_one (w : World) (c : UInt8) (x : Int) (hx : x = (c.toNat : Int)) : Rd (w.alloc (.cells #[.int .u8 x] 5)) (w.heap.size + 1) (some ⟨w.heap.size, 0, none⟩) 1 [c] := by
  subst hx
  refine ⟨rfl, fun _ => ⟨w.heap.size, 0, rfl, by omega, fun j hj => ?_⟩⟩
  obtain rfl : j = 0 := by omega
  have h := (blk_new w 5 [.int .u8 (c.toNat : Int)]).cell 0
  rw [Nat.add_zero]
  exact h

end Go.Proofs.YtjimoegegigoiaaDoor
