/-
  Bytes as a string.
-/
import Derived.Test.YtlpboleclehilaaDoorBase
import Derived.Laws.BytesArg
import Derived.Lib.Hide
namespace Go.Proofs.YtlpboleclehilaaDoor
open Go.RowKit
set_option maxRecDepth 100000
set_option maxHeartbeats 400000
set_option linter.unusedSimpArgs false
set_option linter.unusedVariables false

/-- bytes as a string -/
def strOf (l : List UInt8) : ByteArray := strOfNums (l.map fun c => (c.toNat : Int))
theorem conv_run {w : World} {B n : Nat} {A : Option Addr} {l : List UInt8} (hr : Rd w B A n l) (c : Nat) :
    (convert 51 9 (.slice A n c)).run Tryd.prog w = .ok (.string (strOf l)) w := by
  have hl := hr.1
  rcases Nat.eq_zero_or_pos n with h0 | h0
  · subst h0
    obtain rfl : l = [] := List.eq_nil_of_length_eq_zero hl
    rcases A with _ | a
    · exact run_convert_bytes_nil w 51 5 Tryd.underlying51 Tryd.underlying5 0 c _ Tryd.underlying9
    · have hld : (loadCells a 0).run Tryd.prog w = .ok ((([] : List Int).map (Value.int .u8)).toArray) w := by
        simpa using run_loadCells_list (P := Tryd.prog) w a [] (fun j v hj => by simp at hj)
      rw [run_convert_bytes_string w _ _ _ _ _ _ Tryd.underlying51 Tryd.underlying5 Tryd.underlying9, run_bytesToString w a 0 c [] hld]
      rfl
  · obtain ⟨b, off, rfl, _, hc⟩ := hr.2 h0
    refine run_convert_bytes_arg w 51 5 Tryd.underlying51 Tryd.underlying5 b off n c (l.map fun c => (c.toNat : Int)) (by simpa using hl) (fun i hi => ?_) _ Tryd.underlying9
    rw [hc i hi]
    congr 2
    unfold byteAt
    have : i < l.length := by omega
    simp [List.getD_eq_getElem?_getD, this]

theorem strOf_list (l : List UInt8) : (strOf l).toList = l := by
  rw [ByteArray.toList_eq]
  show (strOfNums _).data.toList = l
  rw [strOfNums_data, List.map_map]
  conv => rhs; rw [← List.map_id l]
  refine List.map_congr_left fun c _ => ?_
  simp
theorem strOf_beq (l m : List UInt8) : ((strOf l).toList == (strOf m).toList) = decide (l = m) := by
  rw [strOf_list, strOf_list]
  by_cases h : l = m <;> simp [h]
end Go.Proofs.YtlpboleclehilaaDoor
