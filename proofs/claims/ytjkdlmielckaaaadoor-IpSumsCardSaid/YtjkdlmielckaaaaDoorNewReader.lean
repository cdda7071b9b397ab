/-
  octet.NewReader: a reader of bytes of its own.
-/
import Derived.Test.YtjkdlmielckaaaaDoorTakes
namespace Go.Proofs.YtjkdlmielckaaaaDoor
open Go.RowKit
set_option maxRecDepth 100000
set_option maxHeartbeats 2000000
set_option linter.unusedSimpArgs false
set_option linter.unusedVariables false

theorem newreader_any (A : Option Addr) (n c B : Nat) (l : List UInt8) (w : World) (hr : Rd w B A n l) (hB : B ≤ w.heap.size) (hn : n ≤ 140737488420864) :
    Calls Tryd.prog 19 #[.slice A n c] w fun e w' =>
      ∃ g, e = .returned (.pointer (some ⟨g, 0, none⟩)) ∧ w.heap.size ≤ g ∧ g < w'.heap.size ∧ Below w.heap.size w w' ∧
        ∀ w'' row, w'.grownBy w'' row → (∀ q, row = some q → q < w.heap.size) → OctAt w'' w'.heap.size g l 0 := by
  have C := Lib.hid (clone_big A n c B l w hr hB hn)
  have L := Lib.hid hr.1
  clear hr
  go_enter Tryd.func19, Tryd.ntmps19
  go_wp2_with fail
  refine (C.out).mono ?_
  rintro e w1 ⟨rfl, ho, hb⟩
  have hs := hb.size
  have hF : ∀ w'' row, (w1.alloc (.cells #[.slice (some ⟨w.heap.size, 0, none⟩) n n, .int .i64 0] 60)).grownBy w'' row → (∀ q, row = some q → q < w.heap.size) → OctAt w'' (w1.heap.size + 1) w1.heap.size l 0 := by
    intro w'' row hG hq
    have hrd := ho.rd L.out.symm n (Nat.le_refl _)
    rw [List.take_of_length_le (by have := L.out; omega)] at hrd
    have hblk := blk_new w1 60 [.slice (some ⟨w.heap.size, 0, none⟩) n n, .int .i64 0]
    have hz := (ho.block w.heap.size rfl).2
    refine ⟨⟨some ⟨w.heap.size, 0, none⟩, n, n, (hG.block w1.heap.size (by simp) ?_).trans hblk, ?_, Nat.le_refl _, ⟨hn, by omega⟩, .inr ⟨_, _, rfl⟩, by omega, ?_⟩, fun h => absurd rfl h⟩
    · intro e
      have := hq _ e.symm
      omega
    · refine ⟨L.out, fun h0 => ⟨w.heap.size, 0, rfl, by omega, fun j hj => ?_⟩⟩
      obtain ⟨b, off, e, _, hc⟩ := hrd.2 h0
      injection e with e
      injection e with e1 e2
      subst e1 e2
      rw [World.cell?_of_block (hG.block w.heap.size (by simp; omega) (by
        intro e
        have := hq _ e.symm
        omega)), World.cell?_alloc_lt _ _ _ (by exact hz)]
      exact hc j hj
    · have := hG.size
      simpa using this
  have F := Lib.hid hF
  have BB := Lib.hid hb
  clear ho hb hF
  go_wp2
  go_ret
  exact ⟨_, rfl, hs, by simp, BB.out.alloc hs _, by simpa using F.out⟩

end Go.Proofs.YtjkdlmielckaaaaDoor
