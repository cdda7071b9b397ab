/-
  pap's peer and the reference's, an authenticator: Reset, State, Message.
-/
import Derived.Test.YtglboagjmbjehaaPaSend
namespace Go.Proofs.Ytglboagjmbjehaa
open Go.RowKit Go.Shelf
set_option maxRecDepth 100000
set_option maxHeartbeats 4000000
set_option linter.unusedSimpArgs false
set_option linter.unusedVariables false

def Pr.reset (p : Pr) : Pr := { p with sent := 0, state := 0, msg := ⟨#[]⟩ }
theorem peerState_any (g : Nat) (p : Pr) (w : World) (h : Blk w g 81 p.cells) : Calls Try.prog 27 #[.pointer (some ⟨g, 0, none⟩)] w fun e w' => e = .returned (.int .i64 p.state) ∧ w = w' := by
  have c5 : w.cell? ⟨g, 5, none⟩ = some (.int .i64 p.state) := h.cell 5
  clear h
  go_enter Try.func27, Try.ntmps27
  go_wp2
  go_ret
  exact ⟨rfl, rfl⟩
theorem peerMessage_any (g : Nat) (p : Pr) (w : World) (h : Blk w g 81 p.cells) : Calls Try.prog 28 #[.pointer (some ⟨g, 0, none⟩)] w fun e w' => e = .returned (.string p.msg) ∧ w = w' := by
  have c6 : w.cell? ⟨g, 6, none⟩ = some (.string p.msg) := h.cell 6
  clear h
  go_enter Try.func28, Try.ntmps28
  go_wp2
  go_ret
  exact ⟨rfl, rfl⟩
theorem ppeerReset_any (g : Nat) (p : Pr) (w : World) (h : Blk w g 81 p.cells) : Calls Try.prog 25 #[.pointer (some ⟨g, 0, none⟩)] w fun e w' => e = .returned (.tuple #[]) ∧ w.grownBy w' (some g) ∧ Blk w' g 81 p.reset.cells := by
  have f3 := h.frozen 3
  have f5 := h.frozen 5
  have f6 := h.frozen 6
  have c3 := h.cell 3
  have c5 := h.cell 5
  have c6 := h.cell 6
  have lg := Blk.lt h
  have H := Lib.hid h
  clear h
  go_enter Try.func25, Try.ntmps25
  go_wp2
  go_end0
  exact ⟨rfl, gtrans' (gtrans' (gset' _ _ _ _) (gset' _ _ _ _)) (gset' _ _ _ _), Blk.set_ (Blk.set_ (Blk.set_ H.out 3 (.int .i64 0)) 5 (.int .i64 0)) 6 (.string ⟨#[]⟩)⟩
theorem rpeerReset_any (g : Nat) (p : Pr) (w : World) (h : Blk w g 60 p.cells) : Calls Try.prog 26 #[.pointer (some ⟨g, 0, none⟩)] w fun e w' => e = .returned (.tuple #[]) ∧ w.grownBy w' (some g) ∧ Blk w' g 60 p.reset.cells := by
  have f3 := h.frozen 3
  have f5 := h.frozen 5
  have f6 := h.frozen 6
  have c3 := h.cell 3
  have c5 := h.cell 5
  have c6 := h.cell 6
  have lg := Blk.lt h
  have H := Lib.hid h
  clear h
  go_enter Try.func26, Try.ntmps26
  go_wp2
  go_end0
  exact ⟨rfl, gtrans' (gtrans' (gset' _ _ _ _) (gset' _ _ _ _)) (gset' _ _ _ _), Blk.set_ (Blk.set_ (Blk.set_ H.out 5 (.int .i64 0)) 3 (.int .i64 0)) 6 (.string ⟨#[]⟩)⟩
theorem serverState_any (g tb : Nat) (name : ByteArray) (ss : List Sec) (st : Int) (who : ByteArray) (ans : Value) (w : World) (h : SvAt w g tb name ss st who ans) : Calls Try.prog 17 #[.pointer (some ⟨g, 0, none⟩)] w fun e w' => e = .returned (.int .i64 st) ∧ w = w' := by
  have c2 : w.cell? ⟨g, 2, none⟩ = some (.int .i64 st) := h.blk.cell 2
  clear h
  go_enter Try.func17, Try.ntmps17
  go_wp2
  go_ret
  exact ⟨rfl, rfl⟩
end Go.Proofs.Ytglboagjmbjehaa
