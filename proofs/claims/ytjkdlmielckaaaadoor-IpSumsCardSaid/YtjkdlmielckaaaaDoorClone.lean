/-
  octet.clone: a copy in new memory.
-/
import Derived.Test.YtjkdlmielckaaaaDoorBase
import Derived.Test.YtjkdlmielckaaaaDoorClone0
import Derived.Lib.Hide
namespace Go.Proofs.YtjkdlmielckaaaaDoor
open Go.RowKit
set_option maxRecDepth 100000
set_option linter.unusedSimpArgs false
set_option linter.unusedVariables false

theorem clone_big (A : Option Addr) (n c B : Nat) (l : List UInt8) (w : World) (hr : Rd w B A n l) (hB : B ≤ w.heap.size) (hn : n ≤ 140737488420864) :
    Calls Tryd.prog 34 #[.slice A n c] w fun e w' => e = .returned (.slice (some ⟨w.heap.size, 0, none⟩) n n) ∧ Own w' w.heap.size (.slice (some ⟨w.heap.size, 0, none⟩) n n) l ∧ Below w.heap.size w w' := by
  have hmk := fun w => mk_run n (n : Int) rfl (by omega) w
  have hl := hr.1
  obtain ⟨w2, hcp, hb2, hg2⟩ := copy_run (blk_new w 5 (zeros n)) 0 n n c (hr.alloc hB _) n (by omega) (by rw [zeros_length]; omega)
  have e : (zeros n).take 0 ++ ((l.take n).map cellOf ++ (zeros n).drop (0 + n)) = l.map cellOf := by
    rw [List.take_of_length_le (l := l) (by omega)]
    simp [zeros]
  rw [e] at hb2
  have hO := own_of_blk (base := w.heap.size) hb2 (Nat.le_refl _) (by omega)
  rw [hl] at hO
  have O2 := Lib.hid hO
  have B2 := Lib.hid (((Below.refl w.heap.size w).alloc (Nat.le_refl _) _).grown hg2 (by simp) (by intro k hk; injection hk with hk; omega))
  clear hO hb2 hg2 e hl hr
  go_enter Tryd.func34, Tryd.ntmps34
  go_wp2
  go_ret
  exact ⟨rfl, O2.out, B2.out⟩
theorem clone_any (A : Option Addr) (n c B : Nat) (l : List UInt8) (w : World) (hr : Rd w B A n l) (hB : B ≤ w.heap.size) (hn : n ≤ 140737488351232) :
    Calls Tryd.prog 34 #[.slice A n c] w fun e w' => e = .returned (.slice (some ⟨w.heap.size, 0, none⟩) n n) ∧ Own w' w.heap.size (.slice (some ⟨w.heap.size, 0, none⟩) n n) l ∧ Below w.heap.size w w' :=
  clone_big A n c B l w hr hB (by omega)
end Go.Proofs.YtjkdlmielckaaaaDoor
