/-
  The law's awake: the chapter's example.
-/
import Derived.Test.YtandakinbcfleaaPhDo
namespace Go.Proofs.Ytandakinbcfleaa
open Go.RowKit
set_option maxRecDepth 100000
set_option maxHeartbeats 4000000
set_option linter.unusedSimpArgs false
set_option linter.unusedVariables false

theorem bto {w a b : World} (h1 : Below w.heap.size w a) (h2 : Below a.heap.size a b) : Below w.heap.size w b := h1.trans (h2.mono h1.size)
theorem bgr {w a b : World} (h1 : Below w.heap.size w a) (h2 : a.grownBy b (some w.heap.size)) : Below w.heap.size w b := h1.grown h2 h1.size (fun k e => by cases e; omega)
/-- a call of the track made in the first world's next block -/
abbrev AwD (w : World) (x : PhS) (e z : Int) (y : PhS) : Prop := ∀ W, Hid (TrB W w.heap.size x) → Hid (Below w.heap.size w W) →
  Calls Try.prog 22 #[.pointer (some ⟨w.heap.size, 0, none⟩), .int .i64 e] W fun r w' => r = .returned (.int .i64 z) ∧ Hid (TrB w' w.heap.size y) ∧ Hid (Below w.heap.size w w')
theorem awD (w : World) (x : PhS) (e : Int) (ho : PhOk x 1000) : AwD w x e (phDE x e) (phDX x e) := by
  intro W hx hb
  refine (phDo_any _ x e 1000 W hx.out ho (by omega)).mono ?_
  rintro r w' ⟨rfl, h1, h2⟩
  exact ⟨rfl, h1, bgr hb.out h2⟩
def awX1 : PhS := ⟨1, false, false, false, false, 0, 1, 0, 0, 0⟩
def awX2 : PhS := ⟨2, true, false, false, false, 0, 1, 1, 0, 0⟩
def awX3 : PhS := ⟨2, true, false, false, true, 0, 1, 1, 0, 0⟩
def awX4 : PhS := ⟨3, true, false, true, true, 0, 1, 1, 1, 0⟩
theorem awake26 (w : World) : Calls Try.prog 17 #[] w fun e w' => e = .returned (.bool true) ∧ Below w.heap.size w w' := by
  have D1 : AwD w phZ 0 0 awX1 := awD w phZ 0 (by unfold PhOk phZ; simp)
  have D3 : AwD w awX2 6 0 awX3 := awD w awX2 6 (by unfold PhOk awX2; simp)
  have D4 : AwD w awX3 5 0 awX4 := awD w awX3 5 (by unfold PhOk awX3; simp)
  have D2 : Hid (∀ W, Hid (TrB W w.heap.size awX1) → Hid (Below w.heap.size w W) → Calls Try.prog 23 #[.pointer (some ⟨w.heap.size, 0, none⟩), .bool true, .bool false] W fun r w' => r = .returned (.int .i64 0) ∧ Hid (TrB w' w.heap.size awX2) ∧ Hid (Below w.heap.size w w')) := by
    show ∀ W, _ → _ → _
    intro W hx hb
    refine (phOpen_any _ awX1 true false 1000 W hx.out (by unfold PhOk awX1; simp) (by omega)).mono ?_
    rintro r w' ⟨rfl, h1, h2⟩
    exact ⟨rfl, h1, bgr hb.out h2⟩
  have P1 : passB 3 33 = true := by decide
  have P2 : passB 2 33 = false := by decide
  have N4 : nameP 4 = [84, 101, 114, 109, 105, 110, 97, 116, 101] := by decide
  have A2 : ∀ W, Hid (TrB W w.heap.size awX2) → Hid (Calls Try.prog 21 #[.pointer (some ⟨w.heap.size, 0, none⟩)] W fun r w' => r = .returned (.int .i64 2) ∧ W = w') := fun W h => phAt_any _ awX2 W h.out
  have A3 : ∀ W, Hid (TrB W w.heap.size awX3) → Hid (Calls Try.prog 21 #[.pointer (some ⟨w.heap.size, 0, none⟩)] W fun r w' => r = .returned (.int .i64 2) ∧ W = w') := fun W h => phAt_any _ awX3 W h.out
  have A4 : ∀ W, Hid (TrB W w.heap.size awX4) → Hid (Calls Try.prog 21 #[.pointer (some ⟨w.heap.size, 0, none⟩)] W fun r w' => r = .returned (.int .i64 3) ∧ W = w') := fun W h => phAt_any _ awX4 W h.out
  have A5 : ∀ W, Hid (TrB W w.heap.size awX4) → Hid (Calls Try.prog 24 #[.pointer (some ⟨w.heap.size, 0, none⟩), .int .i64 33] W fun r w' => r = .returned (.bool true) ∧ W = w') := fun W h => phPass_any _ awX4 33 W h.out
  have A6 : ∀ W, Hid (Calls Try.prog 15 #[.int .i64 2, .int .i64 33] W fun r w' => r = .returned (.bool false) ∧ W = w') := fun W => passes_any 2 33 W
  have A7 : ∀ W, Hid (Calls Try.prog 11 #[.int .i64 4] W fun r w' => r = .returned (.string ⟨#[84, 101, 114, 109, 105, 110, 97, 116, 101]⟩) ∧ Below W.heap.size W w') := fun W => phName_any 4 W
  have H2 := Lib.hid A2
  have H3 := Lib.hid A3
  have H4 := Lib.hid A4
  have H5 := Lib.hid A5
  have H6 := Lib.hid A6
  have H7 := Lib.hid A7
  have K1 := Lib.hid D1
  have K3 := Lib.hid D3
  have K4 := Lib.hid D4
  clear A2 A3 A4 A5 A6 A7 D1 D3 D4 P1 P2 N4
  go_enter Try.func17, Try.ntmps17
  go_wp2_with (first | (go_at_call 18; refine (phNew_any _).mono ?_; rintro r w1 ⟨rfl, hx, hb⟩; have X0 := Lib.hid hx; have B0 := Lib.hid hb; clear hx hb) | (go_at_call 22; ((with_reducible refine (K1.out _ X0 B0).mono ?_); rintro r w2 ⟨rfl, X1, B1⟩)) | (go_at_call 23; ((with_reducible refine (D2.out _ X1 B1).mono ?_); rintro r w3 ⟨rfl, X2, B2⟩)) | (go_at_call 22; ((with_reducible refine (K3.out _ X2 B2).mono ?_); rintro r w4 ⟨rfl, X3, B3⟩)) | (go_at_call 22; ((with_reducible refine (K4.out _ X3 B3).mono ?_); rintro r w5 ⟨rfl, X4, B4⟩)) | (go_at_call 21; ((with_reducible refine (H4.out _ X4).out.mono ?_); rintro r w' ⟨rfl, rfl⟩)) | (go_at_call 21; ((with_reducible refine (H3.out _ X3).out.mono ?_); rintro r w' ⟨rfl, rfl⟩)) | (go_at_call 21; ((with_reducible refine (H2.out _ X2).out.mono ?_); rintro r w' ⟨rfl, rfl⟩)) | (go_at_call 24; ((with_reducible refine (H5.out _ X4).out.mono ?_); rintro r w' ⟨rfl, rfl⟩)) | (go_at_call 15; ((with_reducible refine (H6.out _).out.mono ?_); rintro r w' ⟨rfl, rfl⟩)) | (go_at_call 11; ((with_reducible refine (H7.out _).out.mono ?_); rintro r w6 ⟨rfl, hb⟩; have B6 := Lib.hid hb; clear hb)))
  go_ret
  exact ⟨rfl, bto B4.out B6.out⟩
end Go.Proofs.Ytandakinbcfleaa
