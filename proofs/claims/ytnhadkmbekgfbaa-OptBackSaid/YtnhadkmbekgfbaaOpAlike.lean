/-
  bytes.Equal; opt.alike: are two options the same.
-/
import Derived.Test.YtnhadkmbekgfbaaOpInts
import Derived.Test.YtnhadkmbekgfbaaOpClone
import Derived.Laws.BytesArg
namespace Go.Proofs.Ytnhadkmbekgfbaa
open Go.RowKit
set_option maxRecDepth 100000
set_option maxHeartbeats 2000000
set_option linter.unusedSimpArgs false
set_option linter.unusedVariables false

/-- bytes as a string -/
def strOf (l : List UInt8) : ByteArray := strOfNums (l.map fun c => (c.toNat : Int))
theorem strOf_list (l : List UInt8) : (strOf l).toList = l := by
  rw [ByteArray.toList_eq]
  show (strOfNums _).data.toList = l
  rw [strOfNums_data, List.map_map]
  conv => rhs; rw [← List.map_id l]
  refine List.map_congr_left fun c _ => ?_
  simp
theorem strOf_beq (l m : List UInt8) : ((strOf l).toList == (strOf m).toList) = decide (l = m) := by
  rw [strOf_list, strOf_list]
  by_cases h : l = m <;> simp [h]
theorem conv_run {w : World} {B n : Nat} {A : Option Addr} {l : List UInt8} (hr : Rd w B A n l) (c : Nat) :
    (convert 52 9 (.slice A n c)).run Try.prog w = .ok (.string (strOf l)) w := by
  have hl := hr.1
  rcases Nat.eq_zero_or_pos n with h0 | h0
  · subst h0
    obtain rfl : l = [] := List.eq_nil_of_length_eq_zero hl
    rcases A with _ | a
    · exact run_convert_bytes_nil w 52 5 Try.underlying52 Try.underlying5 0 c _ Try.underlying9
    · have hld : (loadCells a 0).run Try.prog w = .ok ((([] : List Int).map (Value.int .u8)).toArray) w := by
        simpa using run_loadCells_list (P := Try.prog) w a [] (fun j v hj => by simp at hj)
      rw [run_convert_bytes_string w _ _ _ _ _ _ Try.underlying52 Try.underlying5 Try.underlying9, run_bytesToString w a 0 c [] hld]
      rfl
  · obtain ⟨b, off, rfl, _, hc⟩ := hr.2 h0
    refine run_convert_bytes_arg w 52 5 Try.underlying52 Try.underlying5 b off n c (l.map fun c => (c.toNat : Int)) (by simpa using hl) (fun i hi => ?_) _ Try.underlying9
    rw [hc i hi]
    congr 2
    unfold byteAt
    have : i < l.length := by omega
    simp [List.getD_eq_getElem?_getD, this]
theorem bequal_any (A D : Option Addr) (n m c d B : Nat) (l k : List UInt8) (w : World) (hr : Rd w B A n l) (hq : Rd w B D m k) :
    Calls Try.prog 111 #[.slice A n c, .slice D m d] w fun e w' => e = .returned (.bool (decide (l = k))) ∧ w = w' := by
  have h1 := conv_run hr c
  have h2 := conv_run hq d
  rw [← strOf_beq]
  generalize strOf l = s at *
  generalize strOf k = t at *
  clear hr hq
  go_enter Try.func111, Try.ntmps111
  go_wp2
  go_ret
  exact ⟨rfl, rfl⟩
theorem alike_any (K J : Int) (A D : Option Addr) (n m c d B : Nat) (l k : List UInt8) (w : World) (hr : Rd w B A n l) (hq : Rd w B D m k) (hB : B ≤ w.heap.size) :
    Calls Try.prog 98 #[.agg #[.int .i64 K, .slice A n c], .agg #[.int .i64 J, .slice D m d]] w fun e w' => e = .returned (.bool (decide (K = J ∧ l = k))) ∧ Below w.heap.size w w' := by
  have hb2 : Below w.heap.size w ((w.alloc (.cells #[.int .i64 K, .slice A n c] 70)).alloc (.cells #[.int .i64 J, .slice D m d] 70)) := ((Below.refl _ _).alloc (Nat.le_refl _) _).alloc (by simp) _
  have SM := Lib.hid (bequal_any A D n m c d B l k _ (hr.below (hb2.mono hB)) (hq.below (hb2.mono hB)))
  have HB := Lib.hid hb2
  clear hb2 hr hq
  by_cases hKJ : K = J
  · have h1 : (K == J) = true := by simp [hKJ]
    rw [show decide (K = J ∧ l = k) = decide (l = k) by simp [hKJ]]
    clear hKJ
    go_enter Try.func98, Try.ntmps98
    go_wp2_with (go_at_call 111; ((with_reducible refine SM.out.mono ?_); rintro e w2 ⟨rfl, rfl⟩))
    go_ret
    exact ⟨rfl, HB.out⟩
  · have h1 : (K == J) = false := by simp [hKJ]
    rw [show decide (K = J ∧ l = k) = false by simp [hKJ]]
    clear hKJ
    go_enter Try.func98, Try.ntmps98
    go_wp2
    go_ret
    exact ⟨rfl, HB.out⟩
end Go.Proofs.Ytnhadkmbekgfbaa
