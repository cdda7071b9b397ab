/-
  fcs.Cut16 of too few or other bytes.
-/
import Derived.Test.YtmdlpbgelgeiaaaDoorSums16
import Derived.Lib.SlBytesConst
namespace Go.Proofs.YtmdlpbgelgeiaaaDoor
open Go.RowKit
set_option maxRecDepth 100000
set_option maxHeartbeats 800000
set_option linter.unusedSimpArgs false
set_option linter.unusedVariables false

theorem cut16_short (A : Option Addr) (n c : Nat) (w : World) (hn : n < 2) :
    Calls Tryd.prog 56 #[.slice A n c] w fun e w' => e = .returned (.tuple #[.slice none 0 0, .int .i64 8]) ∧ w = w' := by
  go_enter Tryd.func56, Tryd.ntmps56
  go_wp2
  go_ret2
  exact ⟨rfl, rfl⟩
theorem cut16_bad (A : Option Addr) (n c B : Nat) (l : List UInt8) (w : World) (hr : Rd w B A n l) (hc : n ≤ c) (hn : 2 ≤ n) (hm : n ≤ maxLen) (hT : Tab16 w) (hg : crc P16 65535 l ≠ 61624) :
    Calls Tryd.prog 56 #[.slice A n c] w fun e w' => e = .returned (.tuple #[.slice none 0 0, .int .i64 20]) ∧ ∃ k, w' = w.drewN k := by
  have C : Calls Tryd.prog 53 #[.int .u16 65535, .slice A n c] w _ := on16_any A n c 65535 B l w hr hc hm (by omega) hT
  have hne : (((crc P16 65535 l : Nat) : Int) != 61624) = true := by simp; omega
  obtain ⟨y, hy⟩ : ∃ y : Int, y = ((crc P16 65535 l : Nat) : Int) := ⟨_, rfl⟩
  rw [← hy] at C hne
  have CC := Lib.hid C
  have hn2 : (2 : Int) ≤ (n : Int) := by omega
  clear C hy hg hr hT
  go_enter Tryd.func56, Tryd.ntmps56
  go_wp2_with fail
  refine (CC.out).mono ?_
  rintro e w1 ⟨rfl, k, rfl⟩
  go_wp2
  go_ret2
  exact ⟨rfl, k, rfl⟩

theorem rd_built (W : World) (l : List UInt8) (fr : Nat × Nat) : Rd (W.alloc (.cells (l.map cellOf).toArray 5 fr)) (W.heap.size + 1) (some ⟨W.heap.size, 0, none⟩) l.length l := by
  refine ⟨rfl, fun _ => ⟨W.heap.size, 0, rfl, by omega, fun j hj => ?_⟩⟩
  rw [cell_of_row _ W.heap.size (0 + j) _ _ fr (heap_alloc_new W _), Nat.zero_add]
  simpa using cells_at l j hj
theorem Tab16.alloc {w : World} (h : Tab16 w) (o : Obj) : Tab16 (w.alloc o) := h.kept ((Below.refl _ _).alloc (Nat.le_refl _) _)
end Go.Proofs.YtmdlpbgelgeiaaaDoor
