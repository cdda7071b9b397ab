/-
  OptBack: the law's walk.
-/
import Derived.Test.YtnhadkmbekgfbaaOpBackM
import Derived.Test.YtnhadkmbekgfbaaOpSubsets
import Derived.Deep.Cut
namespace Go.Proofs.Ytnhadkmbekgfbaa
open Go.RowKit
set_option maxRecDepth 100000
set_option maxHeartbeats 4000000
set_option linter.unusedSimpArgs false
set_option linter.unusedVariables false

def P2 (w w1 : World) (A1 : Option Addr) (n1 c1 : Nat) : Prop :=
  Calls Try.prog 31 #[.slice A1 n1 c1] w1 fun e w2 => ∃ D m c E, e = .returned (.tuple #[.slice D m c, .int .i64 E]) ∧ Below w.heap.size w w2 ∧
    (¬ E = 0 ∨ E = 0 ∧ Calls Try.prog 32 #[.slice D m c] w2 fun e w3 => ∃ F k f, e = .returned (.tuple #[.slice F k f, .int .i64 0]) ∧
      Calls Try.prog 33 #[.slice F k f, .slice A1 n1 c1] w3 fun e w4 => e = .returned (.bool true) ∧ Below w.heap.size w w4)
theorem p2_any (w w1 : World) (A1 : Option Addr) (n1 c1 : Nat) (s : List Opt) (h : LArg w A1 n1 c1 s) (hB : Below w.heap.size w w1) : P2 w w1 A1 n1 c1 := by
  have h1 := h.later hB
  have s1 := hB.size
  refine (bytes_any A1 n1 c1 w1.heap.size s w1 h1.1 (Nat.le_refl _) (by have := h.2.2; omega)).mono ?_
  rintro e w2 ⟨D, m, c, E, rfl, b2, hy, hn⟩
  have B2 := hB.trans (b2.mono s1)
  refine ⟨D, m, c, E, rfl, B2, ?_⟩
  by_cases hE : E = 0
  · obtain ⟨ok, h32, ho⟩ := hy hE
    refine .inr ⟨hE, ?_⟩
    have hel := enc_len s ok
    have hm := ho.len.1
    refine (options_any D m c w2.heap.size (enc s) w2 ho.rdAll (Nat.le_refl _) (by omega)).mono ?_
    rintro e w3 ⟨F, k, f, E2, rfl, b3, hy2, hn2⟩
    have B3 := B2.trans (b3.mono B2.size)
    by_cases hE2 : E2 = 0
    · obtain ⟨s', ok', h32', he, hk, hl⟩ := hy2 hE2
      have : s' = s := enc_inj ok' ok he
      subst this
      subst hE2
      subst hk
      obtain ⟨A', c', e', rr, _⟩ := hl.rd (fun o ho => by have := (ok o ho).2; omega)
      injection e' with e1 e2 e3
      subst e1 e3
      refine ⟨F, _, f, rfl, ?_⟩
      have h3 := h.later B3
      have hn1 : n1 = s'.length := h.1.1.symm
      rw [hn1] at h3 ⊢
      refine (rsame_yes F A1 s'.length f c1 w3.heap.size s' w3 rr h3.1 (Nat.le_refl _) (by omega)).mono ?_
      rintro e w4 ⟨rfl, b4⟩
      exact ⟨rfl, B3.trans (b4.mono B3.size)⟩
    · exact absurd rfl (hn2 hE2 s ok h32)
  · exact .inl hE
def P3 (w w1 : World) (A2 : Option Addr) (n2 c2 : Nat) : Prop :=
  Calls Try.prog 32 #[.slice A2 n2 c2] w1 fun e w2 => ∃ D m c E, e = .returned (.tuple #[.slice D m c, .int .i64 E]) ∧ Below w.heap.size w w2 ∧
    (¬ E = 0 ∨ E = 0 ∧ Calls Try.prog 31 #[.slice D m c] w2 fun e w3 => ∃ F k f, e = .returned (.tuple #[.slice F k f, .int .i64 0]) ∧
      Calls Try.prog 34 #[.slice F k f, .slice A2 n2 c2] w3 fun e w4 => e = .returned (.bool true) ∧ Below w.heap.size w w4)
theorem p3_any (w w1 : World) (A2 : Option Addr) (n2 c2 : Nat) (l : List UInt8) (h : Rd w w.heap.size A2 n2 l) (hn2 : n2 ≤ 140737488351232) (hB : Below w.heap.size w w1) : P3 w w1 A2 n2 c2 := by
  have s1 := hB.size
  refine (options_any A2 n2 c2 w.heap.size l w1 (h.below hB) s1 (by omega)).mono ?_
  rintro e w2 ⟨D, m, c, E, rfl, b2, hy, hno⟩
  have B2 := hB.trans (b2.mono s1)
  refine ⟨D, m, c, E, rfl, B2, ?_⟩
  by_cases hE : E = 0
  · obtain ⟨s, ok, h32, he, hm, ho⟩ := hy hE
    refine .inr ⟨hE, ?_⟩
    subst hm
    obtain ⟨A', c', e', rr, _, hc⟩ := ho.rd (fun o ho => by have := (ok o ho).2; omega)
    injection e' with e1 e2 e3
    subst e1 e3
    refine (bytes_any D s.length c w2.heap.size s w2 rr (Nat.le_refl _) (by omega)).mono ?_
    rintro e w3 ⟨F, k, f, E2, rfl, b3, hy2, hn2'⟩
    have B3 := B2.trans (b3.mono B2.size)
    have hE2 := hn2' ok h32
    subst hE2
    obtain ⟨_, _, hF⟩ := hy2 rfl
    refine ⟨F, k, f, rfl, ?_⟩
    rw [he] at hF
    have hk := hF.len.1
    have hl := h.1
    have := same_any F A2 k n2 f c2 l l w3 w3.heap.size hF.rdAll ((h.below B3).wide B3.size) (by unfold maxLen; omega) (by unfold maxLen; omega)
    rw [decide_eq_true rfl] at this
    refine this.mono ?_
    rintro e w4 ⟨rfl, q, rfl⟩
    exact ⟨rfl, below_drewN B3 q⟩
  · exact .inl hE
theorem optback_walk (C I : Int) (A0 : Option Addr) (n0 c0 : Nat) (l0 : List UInt8) (A1 : Option Addr) (n1 c1 : Nat) (s : List Opt) (A2 : Option Addr) (n2 c2 : Nat) (l2 : List UInt8) (x : Int) (w : World) (hr0 : Rd w w.heap.size A0 n0 l0) (z0 : A0 = none → c0 = 0) (hc0 : n0 ≤ 140737488351232)
    (h1 : LArg w A1 n1 c1 s) (hr2 : Rd w w.heap.size A2 n2 l2) (z2 : A2 = none → c2 = 0) (hc2 : n2 ≤ 140737488351232) (hx : -9223372036854775808 ≤ x ∧ x ≤ 9223372036854775807) :
    Calls Try.prog 6 #[.agg #[.int .i64 C, .int .i64 I, .slice A0 n0 c0], .slice A1 n1 c1, .slice A2 n2 c2, .int .i64 x] w fun e w' => e = .returned (.bool true) ∧ Below w.heap.size w w' := by
  have N := Lib.hid (pk_yes A0 n0 c0 l0 C I A2 n2 c2 l2 x w hr0 z0 hc0 hr2 z2 hc2 hx)
  have M2 : Hid (∀ w1, Below w.heap.size w w1 → P2 w w1 A1 n1 c1) := fun w1 hB => p2_any w w1 A1 n1 c1 s h1 hB
  have M3 : Hid (∀ w1, Below w.heap.size w w1 → P3 w w1 A2 n2 c2) := fun w1 hB => p3_any w w1 A2 n2 c2 l2 hr2 hc2 hB
  have hzz : (!decide ((0 : Int) = 0)) = false := by simp
  clear hr0 z0 hc0 h1 hr2 z2 hc2 hx
  go_enter Try.func6, Try.ntmps6
  go_upto_if 29 with (go_at_call 27; ((with_reducible refine N.out.mono ?_); rintro e w2 ⟨A, n, c, E, rfl, b2, h2⟩; have HB2 := Lib.hid b2; have H2 := Lib.hid h2; clear b2 h2))
  go_cut [] from 24 (fun w' => Below w.heap.size w w')
  case first =>
    rcases H2.out with hE | ⟨rfl, hn4, hnc, hn16, ⟨g, rfl⟩, hY⟩
    · have hE1 : (E == 0) = false := by simpa using hE
      clear hE
      go_wp2
      go_meet
      case rel => exact HB2.out
    · unfold PkYes at hY
      obtain ⟨v1, w3, r3, F, m, f, w4, r4, hU⟩ := hY
      have R3 := Lib.hid r3
      have R4 := Lib.hid r4
      have HU := Lib.hid hU
      have t4 : ¬ (n : Int) < 4 := by omega
      have hE1 : ((0 : Int) == 0) = true := rfl
      clear r3 r4 hU H2
      go_wp2_with (first
        | (at_builtin; refine wpList_app rfl (.tmp 30) (.tmp 31) rfl _ _ rfl rfl _ _ R3.out ?_)
        | (at_builtin; refine wpList_app rfl (.tmp 33) (.tmp 34) rfl _ _ rfl rfl _ _ R4.out ?_)
        | (go_at_call 28; ((with_reducible refine HU.out.mono ?_); rintro e w5 ⟨D, dd, rfl, ⟨x0, x1, x2⟩, u2⟩; have U2 := Lib.hid u2; clear u2))
        | (go_at_call 29; ((with_reducible refine U2.out.mono ?_); rintro e w6 ⟨rfl, u3⟩; have U3 := Lib.hid u3; clear u3))
        | (go_at_call 30; ((with_reducible refine U3.out.mono ?_); rintro e w7 ⟨j, rfl, hj, u4⟩; have U4 := Lib.hid u4; clear u4))
        | (go_at_call 28; ((with_reducible refine U4.out.mono ?_); rintro e w8 ⟨D2, m2, d2, rfl, hb⟩; have HB := Lib.hid hb; clear hb)))
      go_meet
      case rel => exact HB.out.alloc HB.out.size _
  case rest =>
    have m2 := M2.out _ hcut
    unfold P2 at m2
    have N2 := Lib.hid m2
    clear m2 hcut H2 HB2 N
    go_upto_if 72 with (go_at_call 31; ((with_reducible refine N2.out.mono ?_); rintro e w2 ⟨D, m, c, E, rfl, b2, h2⟩; have HB2 := Lib.hid b2; have H2 := Lib.hid h2; clear b2 h2))
    go_cut [] from 24 (fun w' => Below w.heap.size w w')
    case first =>
      rcases H2.out with hE | ⟨rfl, hY⟩
      · have hE1 : (E == 0) = false := by simpa using hE
        clear hE
        go_wp2
        go_meet
        case rel => exact HB2.out
      · have HY := Lib.hid hY
        have hE1 : ((0 : Int) == 0) = true := rfl
        clear hY H2
        go_wp2_with (first
          | (go_at_call 32; ((with_reducible refine HY.out.mono ?_); rintro e w3 ⟨F, k, f, rfl, u2⟩; have U2 := Lib.hid u2; clear u2))
          | (go_at_call 33; ((with_reducible refine U2.out.mono ?_); rintro e w4 ⟨rfl, hb⟩; have HB := Lib.hid hb; clear hb)))
        go_meet
        case rel => exact HB.out
    case rest =>
      have m3 := M3.out _ hcut
      unfold P3 at m3
      have N3 := Lib.hid m3
      clear m3 hcut H2 HB2 N2
      go_upto_if 92 with (go_at_call 32; ((with_reducible refine N3.out.mono ?_); rintro e w2 ⟨D, m, c, E, rfl, b2, h2⟩; have HB2 := Lib.hid b2; have H2 := Lib.hid h2; clear b2 h2))
      go_cut [] from 24 (fun w' => Below w.heap.size w w')
      case first =>
        rcases H2.out with hE | ⟨rfl, hY⟩
        · have hE1 : (E == 0) = false := by simpa using hE
          clear hE
          go_wp2
          go_meet
          case rel => exact HB2.out
        · have HY := Lib.hid hY
          have hE1 : ((0 : Int) == 0) = true := rfl
          clear hY H2
          go_wp2_with (first
            | (go_at_call 31; ((with_reducible refine HY.out.mono ?_); rintro e w3 ⟨F, k, f, rfl, u2⟩; have U2 := Lib.hid u2; clear u2))
            | (go_at_call 34; ((with_reducible refine U2.out.mono ?_); rintro e w4 ⟨rfl, hb⟩; have HB := Lib.hid hb; clear hb)))
          go_meet
          case rel => exact HB.out
      case rest =>
        have KN := Lib.hid (known_yes wc)
        have HC := Lib.hid hcut
        clear hcut H2 HB2 N3
        go_wp2_with (go_at_call 35; ((with_reducible refine KN.out.mono ?_); rintro e w4 ⟨rfl, hb⟩; have HB := Lib.hid hb; clear hb))
        go_ret
        exact ⟨rfl, HC.out.trans (HB.out.mono HC.out.size)⟩
end Go.Proofs.Ytnhadkmbekgfbaa
