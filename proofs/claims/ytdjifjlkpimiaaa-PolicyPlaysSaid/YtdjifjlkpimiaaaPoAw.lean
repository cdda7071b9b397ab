/-
  The law's awake: the chapter's example. A law's call of a policy.
-/
import Derived.Test.YtdjifjlkpimiaaaPoNext
namespace Go.Proofs.Ytdjifjlkpimiaaa
open Go.RowKit
set_option maxRecDepth 100000
set_option maxHeartbeats 4000000
set_option linter.unusedSimpArgs false
set_option linter.unusedVariables false

theorem bto {w a b : World} (h1 : Below w.heap.size w a) (h2 : Below a.heap.size a b) : Below w.heap.size w b := h1.trans (h2.mono h1.size)
theorem bgr {w a b : World} {g : Nat} (h1 : Below w.heap.size w a) (hg : w.heap.size ≤ g) (h2 : a.grownBy b (some g)) : Below w.heap.size w b := h1.grown h2 h1.size (fun k e => by cases e; omega)
/-- an answer of one number -/
def OneA (W w' : World) (g q : Nat) (z : Int) : Prop := w'.cell? ⟨q, 0, none⟩ = some (.int .i64 z) ∧ q < w'.heap.size ∧ q ≠ g
theorem OneA.later {W w' w2 : World} {g q : Nat} {z : Int} (h : OneA W w' g q z) (hg : w'.grownBy w2 (some g)) : OneA W w2 g q z := by
  obtain ⟨h1, h2, h3⟩ := h
  exact ⟨(World.cell?_of_block (hg.block q h2 (fun e => h3 (by injection e)))).trans h1, Nat.lt_of_lt_of_le h2 hg.size, h3⟩
abbrev AwOne (f : Nat) (args : Nat → Array Value) (x y : PoS) (z : Int) : Prop := ∀ g W, Hid (PoB W g x) → Calls Try.prog f (args g) W fun e w' => ∃ q c, e = .returned (.tuple #[.slice (some ⟨q, 0, none⟩) 1 c, .int .i64 0]) ∧ Hid (OneA W w' g q z) ∧ Hid (PoB w' g y) ∧ Hid (W.grownBy w' (some g))
abbrev AwNo (f : Nat) (args : Nat → Array Value) (x y : PoS) : Prop := ∀ g W, Hid (PoB W g x) → Calls Try.prog f (args g) W fun e w' => ∃ A c, e = .returned (.tuple #[.slice A 0 c, .int .i64 0]) ∧ Hid (PoB w' g y) ∧ Hid (W.grownBy w' (some g))
theorem awOne {f : Nat} {args : Nat → Array Value} {x y y' : PoS} {z : Int} {l : List Int} (h : ∀ g W, PoB W g x → Calls Try.prog f (args g) W (PoC W g y l)) (hl : l = [z]) (hy : y = y') : AwOne f args x y' z := by
  intro g W hx
  subst hy
  subst hl
  refine (h g W hx.out).mono ?_
  rintro e w' ⟨v, rfl, ho, hb, hg⟩
  rcases ho.2 with ⟨_, h0⟩ | ⟨q, cap, cur, rfl, hb2, hq, _⟩
  · cases h0
  · refine ⟨q, cap, rfl, ⟨ho.cell 0 (by simp), (Array.getElem?_eq_some_iff.1 hq).1, ?_⟩, hb, hg⟩
    have := hx.out.lt
    omega
theorem awNo {f : Nat} {args : Nat → Array Value} {x y y' : PoS} {l : List Int} (h : ∀ g W, PoB W g x → Calls Try.prog f (args g) W (PoC W g y l)) (hl : l = []) (hy : y = y') : AwNo f args x y' := by
  intro g W hx
  subst hy
  subst hl
  refine (h g W hx.out).mono ?_
  rintro e w' ⟨v, rfl, ho, hb, hg⟩
  obtain ⟨A, c, rfl, _⟩ := ho.slice
  exact ⟨A, c, rfl, hb, hg⟩
def awX0 : PoS := ⟨false, 0, wyNone, true, false, 50, 100, 0, 0, 0, 0, 0, 0, 0⟩
def awX1 : PoS := ⟨true, 0, wyNone, true, false, 50, 100, 0, 0, 2, 0, 0, 0, 0⟩
def awX2 : PoS := ⟨true, 0, wyNone, true, false, 50, 100, 0, 0, 3, 5, 5, 5, 0⟩
def awX3 : PoS := ⟨true, 0, wyNone, true, false, 50, 100, 0, 0, 3, 90, 5, 90, 0⟩
def awX4 : PoS := ⟨true, 0, wyNone, true, false, 50, 100, 0, 0, 3, 189, 5, 90, 0⟩
def awX5 : PoS := ⟨false, 0, wyIdle, true, false, 50, 100, 0, 0, 4, 190, 5, 90, 0⟩
def awX6 : PoS := ⟨false, 0, wyIdle, true, false, 50, 100, 0, 0, 1, 191, 5, 90, 191⟩
def awX7 : PoS := ⟨true, 0, wyIdle, true, false, 50, 100, 0, 0, 1, 200, 5, 90, 191⟩
def awX8 : PoS := ⟨true, 0, wyIdle, true, false, 50, 100, 0, 0, 2, 241, 5, 90, 191⟩
theorem awX0_ok : PoOk awX0 := poNew_ok (il := 100) (se := 0) (ho := 50) (mf := 0) (pe := false) (dm := true) rfl
theorem awS0 : poStep 1 0 awX0 = awX1 := by rfl
theorem awX1_ok : PoOk awX1 := by
  rw [← awS0]
  exact poStep_ok awX0_ok rfl
theorem awS1 : poStep 4 5 awX1 = awX2 := by rfl
theorem awX2_ok : PoOk awX2 := by
  rw [← awS1]
  exact poStep_ok awX1_ok rfl
theorem awS2 : poStep 1 90 awX2 = awX3 := by rfl
theorem awX3_ok : PoOk awX3 := by
  rw [← awS2]
  exact poStep_ok awX2_ok rfl
theorem awS3 : poStep 9 189 awX3 = awX4 := by rfl
theorem awX4_ok : PoOk awX4 := by
  rw [← awS3]
  exact poStep_ok awX3_ok rfl
theorem awS4 : poStep 9 190 awX4 = awX5 := by rfl
theorem awX5_ok : PoOk awX5 := by
  rw [← awS4]
  exact poStep_ok awX4_ok rfl
theorem awS5 : poStep 5 191 awX5 = awX6 := by rfl
theorem awX6_ok : PoOk awX6 := by
  rw [← awS5]
  exact poStep_ok awX5_ok rfl
theorem awS6 : poStep 1 200 awX6 = awX7 := by rfl
theorem awX7_ok : PoOk awX7 := by
  rw [← awS6]
  exact poStep_ok awX6_ok rfl
theorem awS7 : poStep 9 241 awX7 = awX8 := by rfl
theorem awX8_ok : PoOk awX8 := by
  rw [← awS7]
  exact poStep_ok awX7_ok rfl
theorem awake28 (w : World) : Calls Try.prog 10 #[] w fun e w' => e = .returned (.bool true) ∧ Below w.heap.size w w' := by
  have N : Hid (Calls Try.prog 8 #[.agg #[.string ⟨#[]⟩, .string ⟨#[]⟩, .int .i64 0, .slice none 0 0, .int .i64 0, .int .i64 0, .bool false, .bool false, .bool false, .int .i64 0, .int .i64 0, .int .i64 0, .int .i64 0, .bool false, .bool false, .int .u64 0, .int .i64 0, .int .i64 0, .int .i64 0, .int .i64 0, .int .i64 0, .int .i64 0, .int .i64 0, .int .i64 0, .int .i64 0, .int .i64 100, .int .i64 0, .int .i64 50, .bool false, .bool true, .int .i64 0, .string ⟨#[]⟩, .string ⟨#[]⟩]] w fun e w' => ∃ g, e = .returned (.tuple #[.pointer (some ⟨g, 0, none⟩), .int .i64 0]) ∧ Hid (w.heap.size ≤ g) ∧ Hid (PoB w' g awX0) ∧ Hid (Below w.heap.size w w')) := by
    refine (poNew_any _ 100 0 50 0 false true w ⟨rfl, rfl, rfl, rfl, rfl, rfl, rfl⟩).mono ?_
    rintro e w' ⟨hb, _, h⟩
    obtain ⟨g, he, hg, hx⟩ := h rfl
    exact ⟨g, he, hg, hx, hb⟩
  have K0 : Hid (AwOne 23 (fun g => #[.pointer (some ⟨g, 0, none⟩), .int .i64 0, .bool true]) awX0 awX1 1) := awOne (fun g W h => poMPacket_any g awX0 0 true W h awX0_ok rfl) rfl awS0
  have K1 : Hid (AwNo 24 (fun g => #[.pointer (some ⟨g, 0, none⟩), .int .i64 5]) awX1 awX2) := awNo (fun g W h => poMLinkUp_any g awX1 5 W h awX1_ok rfl) rfl awS1
  have K2 : Hid (AwNo 23 (fun g => #[.pointer (some ⟨g, 0, none⟩), .int .i64 90, .bool true]) awX2 awX3) := awNo (fun g W h => poMPacket_any g awX2 90 true W h awX2_ok rfl) rfl awS2
  have K3 : Hid (AwNo 19 (fun g => #[.pointer (some ⟨g, 0, none⟩), .int .i64 189]) awX3 awX4) := awNo (fun g W h => poMTick_any g awX3 189 W h awX3_ok rfl) rfl awS3
  have K4 : Hid (AwOne 19 (fun g => #[.pointer (some ⟨g, 0, none⟩), .int .i64 190]) awX4 awX5 2) := awOne (fun g W h => poMTick_any g awX4 190 W h awX4_ok rfl) rfl awS4
  have K5 : Hid (AwNo 25 (fun g => #[.pointer (some ⟨g, 0, none⟩), .int .i64 191]) awX5 awX6) := awNo (fun g W h => poMLinkDown_any g awX5 191 W h awX5_ok rfl) rfl awS5
  have K6 : Hid (AwNo 23 (fun g => #[.pointer (some ⟨g, 0, none⟩), .int .i64 200, .bool true]) awX6 awX7) := awNo (fun g W h => poMPacket_any g awX6 200 true W h awX6_ok rfl) rfl awS6
  have K7 : Hid (AwOne 19 (fun g => #[.pointer (some ⟨g, 0, none⟩), .int .i64 241]) awX7 awX8 1) := awOne (fun g W h => poMTick_any g awX7 241 W h awX7_ok rfl) rfl awS7
  go_enter Try.func10, Try.ntmps10
  go_upto_region 12 with (first | (go_at_call 8; ((with_reducible refine N.out.mono ?_); rintro e w0 ⟨g, rfl, G0, X0, B0⟩)) | (go_at_call 23; ((with_reducible refine (K0.out g _ X0).mono ?_); rintro e w1 ⟨q1, c1, rfl, O1, X1, G1⟩)) | (go_at_call 24; ((with_reducible refine (K1.out g _ X1).mono ?_); rintro e w2 ⟨A2, c2, rfl, X2, G2⟩)) | (go_at_call 23; ((with_reducible refine (K2.out g _ X2).mono ?_); rintro e w3 ⟨A3, c3, rfl, X3, G3⟩)) | (go_at_call 19; ((with_reducible refine (K3.out g _ X3).mono ?_); rintro e w4 ⟨A4, c4, rfl, X4, G4⟩)) | (go_at_call 19; ((with_reducible refine (K4.out g _ X4).mono ?_); rintro e w5 ⟨q5, c5, rfl, O5, X5, G5⟩)) | (go_at_call 25; ((with_reducible refine (K5.out g _ X5).mono ?_); rintro e w6 ⟨A6, c6, rfl, X6, G6⟩)) | (go_at_call 23; ((with_reducible refine (K6.out g _ X6).mono ?_); rintro e w7 ⟨A7, c7, rfl, X7, G7⟩)) | (go_at_call 19; ((with_reducible refine (K7.out g _ X7).mono ?_); rintro e w8 ⟨q8, c8, rfl, O8, X8, G8⟩)))
  have a1 := ((((((O1.out.later G2.out).later G3.out).later G4.out).later G5.out).later G6.out).later G7.out).later G8.out
  have a5 := ((O5.out.later G6.out).later G7.out).later G8.out
  have z1 : w8.cell? ⟨q1, 0, none⟩ = some (.int .i64 1) := a1.1
  have z5 : w8.cell? ⟨q5, 0, none⟩ = some (.int .i64 2) := a5.1
  have z8 : w8.cell? ⟨q8, 0, none⟩ = some (.int .i64 1) := O8.out.1
  have HB : Hid (Below w.heap.size w w8) := bgr (bgr (bgr (bgr (bgr (bgr (bgr (bgr B0.out G0.out G1.out) G0.out G2.out) G0.out G3.out) G0.out G4.out) G0.out G5.out) G0.out G6.out) G0.out G7.out) G0.out G8.out
  clear a1 a5
  go_wp2
  go_ret
  exact ⟨rfl, HB.out⟩
end Go.Proofs.Ytdjifjlkpimiaaa
