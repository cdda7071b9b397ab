/-
  OptPackets: the law's walk.
-/
import Derived.Test.YtakenibeaodnkaaOpPackets2
namespace Go.Proofs.Ytakenibeaodnkaa
open Go.RowKit
set_option maxRecDepth 100000
set_option maxHeartbeats 4000000
set_option linter.unusedSimpArgs false
set_option linter.unusedVariables false

theorem optpackets_walk (C I : Int) (A0 : Option Addr) (n0 c0 : Nat) (l0 : List UInt8) (A1 : Option Addr) (n1 c1 : Nat) (l1 : List UInt8) (w : World) (hr0 : Rd w w.heap.size A0 n0 l0) (z0 : A0 = none → c0 = 0) (m0 : n0 ≤ c0) (q0 : c0 ≤ 140737488351232)
    (hr1 : Rd w w.heap.size A1 n1 l1) (z1 : A1 = none → c1 = 0) (m1 : n1 ≤ c1) (q1 : c1 ≤ 140737488351232) :
    Calls Try.prog 3 #[.agg #[.int .i64 C, .int .i64 I, .slice A0 n0 c0], .slice A1 n1 c1] w fun e w' => e = .returned (.bool true) ∧ Below w.heap.size w w' := by
  have P := pk_half A0 n0 c0 l0 C I w hr0 z0 m0 q0
  have U : Hid (∀ w8, Below w.heap.size w w8 → UpH w w8 A1 n1 c1) := fun w8 h8 => up_half A1 n1 c1 l1 w w8 hr1 z1 m1 q1 h8
  unfold PkH at P
  have N := Lib.hid P
  have heq : ∀ z : Int, (z != z) = false := by simp
  clear P hr0 z0 m0 q0 hr1 z1 m1 q1
  go_enter Try.func3, Try.ntmps3
  go_wp2_with (first
    | (go_at_call 6; ((with_reducible refine N.out.mono ?_); rintro e w2 ⟨g5, cap, rfl, ⟨x0, x1, x2⟩, n2⟩; have N2 := Lib.hid n2; clear n2))
    | (go_at_call 7; ((with_reducible refine N2.out.mono ?_); rintro e w4 ⟨A, n, c, E, rfl, ⟨y0, y1, y2⟩, n3⟩; have N3 := Lib.hid n3; clear n3))
    | (go_at_call 8; ((with_reducible refine N3.out.mono ?_); rintro e w5 ⟨F, d, rfl, n4⟩; have N4 := Lib.hid n4; clear n4))
    | (go_at_call 9; ((with_reducible refine N4.out.mono ?_); rintro e w6 ⟨rfl, ⟨v0, v1, v2⟩, n5⟩; have N5 := Lib.hid n5; clear n5))
    | (go_at_call 10; ((with_reducible refine N5.out.mono ?_); rintro e w7 ⟨rfl, n6⟩; have N6 := Lib.hid n6; clear n6))
    | (go_at_call 11; ((with_reducible refine N6.out.mono ?_); rintro e w8 ⟨rfl, h8⟩; have u1 := U.out w8 h8; unfold UpH at u1; have U1 := Lib.hid u1; clear u1 h8))
    | (go_at_call 6; ((with_reducible refine U1.out.mono ?_); rintro e w9 ⟨g, cap2, rfl, u2⟩; have U2 := Lib.hid u2; clear u2))
    | (go_at_call 12; ((with_reducible refine U2.out.mono ?_); rintro e wa ⟨P0, P1, D, m, cc, E2, rfl, u3⟩; have U3 := Lib.hid u3; clear u3))
    | (go_at_call 13; ((with_reducible refine U3.out.mono ?_); rintro e wb ⟨F2, mm, rfl, lt, ⟨a0, a1, a2⟩, u4⟩; have ne := Nat.ne_of_lt lt; have U4 := Lib.hid u4; clear u4))
    | (go_at_call 14; ((with_reducible refine U4.out.mono ?_); rintro e wc ⟨rfl, ⟨b0, b1, b2⟩, u5⟩; have U5 := Lib.hid u5; clear u5))
    | (go_at_call 11; ((with_reducible refine U5.out.mono ?_); rintro e wd ⟨rfl, u6⟩; have U6 := Lib.hid u6; clear u6))
    | (go_at_call 10; ((with_reducible refine U6.out.mono ?_); rintro e we ⟨rfl, u7⟩; have U7 := Lib.hid u7; clear u7))
    | (go_at_call 15; ((with_reducible refine U7.out.mono ?_); rintro e wf ⟨rfl, hb⟩; have HB := Lib.hid hb; clear hb)))
  go_ret
  exact ⟨rfl, HB.out⟩
end Go.Proofs.Ytakenibeaodnkaa
