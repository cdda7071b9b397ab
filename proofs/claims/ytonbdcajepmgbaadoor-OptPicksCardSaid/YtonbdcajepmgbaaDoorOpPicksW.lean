/-
  OptPicks: the law's walk.
-/
import Derived.Test.YtonbdcajepmgbaaDoorOpPicksC
import Derived.Test.YtonbdcajepmgbaaDoorOpLArg
import Derived.LoopTactic
namespace Go.Proofs.YtonbdcajepmgbaaDoor
open Go.RowKit
set_option maxRecDepth 100000
set_option maxHeartbeats 4000000
set_option linter.unusedSimpArgs false
set_option linter.unusedVariables false

section
variable {w : World} {A0 : Option Addr} {n0 c0 : Nat} {sa : List Opt} {A1 : Option Addr} {n1 c1 : Nat} {sl : List Opt} {A2 : Option Addr} {n2 c2 : Nat} {ks : List Int}
theorem lent_chain (code : Int) (hp : PA w A0 n0 c0 sa A1 n1 c1 sl A2 n2 c2 ks) :
    ∃ (fb : Bool) (fe : Int) (bs bb : Bool) (X : ByteArray), Calls Tryd.prog 5 #[.slice A1 n1 c1] w fun e v => ∃ F f, e = .returned (.slice F n1 f) ∧ Below w.heap.size w v ∧
      ∀ K, P3 w v A0 n0 c0 A1 n1 c1 A2 n2 c2 F f code K fb fe bs bb X := by
  obtain ⟨R, hR⟩ : ∃ R : Bool, (R = true ↔ Srt sl sa) := by
    by_cases h : Srt sl sa
    · exact ⟨true, by simp [h]⟩
    · exact ⟨false, by simp [h]⟩
  refine ⟨fitB code sl sa R, fitE code, decide (sa = sl), decide (sl.foldl eat sa = []), ⟨(nameK code).toArray⟩, (olent_any A1 n1 c1 w.heap.size sl w hp.l (Nat.le_refl _) (by have := hp.ln; omega)).mono ?_⟩
  rintro e v ⟨F, f, rfl, ho, hB⟩
  have hlen := hp.l.1
  have hr : OptRd v v.heap.size F n1 sl := by
    obtain ⟨A', c', e, hh, -⟩ := ho.rd hp.l.bytes
    injection e with e1 e2 e3
    subst e1
    rw [hlen] at hh
    exact hh
  exact ⟨F, f, rfl, hB, fun K => p3 code R K hR hp (B := v.heap.size) ⟨hB, hB.size, Nat.le_refl _, hr⟩⟩
end
theorem optpicks_walk (A0 : Option Addr) (n0 c0 : Nat) (sa : List Opt) (A1 : Option Addr) (n1 c1 : Nat) (sl : List Opt) (A2 : Option Addr) (n2 c2 : Nat) (ks : List Int) (code : Int) (w : World) (h0 : LArg w A0 n0 c0 sa) (h1 : LArg w A1 n1 c1 sl)
    (hk : RdI w w.heap.size A2 n2 ks) (hm : n2 ≤ 1152921504606846976) (hT : TabK w) :
    Calls Tryd.prog 3 #[.slice A0 n0 c0, .slice A1 n1 c1, .slice A2 n2 c2, .int .i64 code] w fun e w' => e = .returned (.bool true) ∧ Below w.heap.size w w' := by
  have m0 := h0.2.2
  have m1 := h1.2.2
  by_cases ha : n0 ≤ 300
  · by_cases hb : n1 ≤ 300
    · have hp : PA w A0 n0 c0 sa A1 n1 c1 sl A2 n2 c2 ks := ⟨h0.1, h1.1, hk, ha, h0.2.1, hb, hm, hT⟩
      obtain ⟨fb, fe, bs, bb, X, n⟩ := lent_chain code hp
      unfold P3 P4 P5 P6 at n
      have N := Lib.hid n
      have HK := Lib.hid hk
      have q1 : ∀ b : Bool, (b == b) = true := fun b => by simp
      have q2 : ∀ b : Bool, (b != b) = false := fun b => by simp
      have q3 : ∀ z : Int, (z == z) = true := fun z => by simp
      have q4 : (X.toList == X.toList) = true := by simp
      clear n hp h0 h1 hk hT
      go_enter Tryd.func3, Tryd.ntmps3
      go_upto_region 5 with (go_at_call 5; ((with_reducible refine N.out.mono ?_); rintro e v ⟨F, f, rfl, hb, n2⟩; have N2 := Lib.hid n2; have HB := Lib.hid hb; clear n2 hb))
      by_cases hz : 0 < n2
      case' pos =>
        obtain ⟨b, off, rfl, hbl, hc⟩ := HK.out.2 (by omega)
        have y1 := (HB.out.cell (p := ⟨b, off + 0, none⟩) hbl).trans (hc 0 hz)
        rw [Nat.add_zero] at y1
        clear hc
      case' neg =>
        have hz0 : n2 = 0 := by omega
        subst hz0
      all_goals
        go_wp2_with (first
          | (go_at_call 6; ((with_reducible refine (N2.out _).mono ?_); rintro e v1 ⟨K1, D, k, d, b1, V1, rfl, hv1, n3⟩; have HV1 := Lib.hid hv1; have N3 := Lib.hid n3; clear n3 hv1))
          | (rw [HV1.out])
          | (go_at_call 7; ((with_reducible refine N3.out.mono ?_); rintro e v2 ⟨D2, k2, d2, V2, rfl, hv2, ⟨x0, x1, x2, x3⟩, n4⟩; have HV2 := Lib.hid hv2; have N4 := Lib.hid n4; clear n4 hv2))
          | (rw [HV2.out])
          | (go_at_call 8; ((with_reducible refine N4.out.mono ?_); rintro e v3 ⟨rfl, x4, n5⟩; have N5 := Lib.hid n5; clear n5))
          | (go_at_call 9; ((with_reducible refine N5.out.mono ?_); rintro e v4 ⟨rfl, n6⟩; have N6 := Lib.hid n6; clear n6))
          | (go_at_call 10; ((with_reducible refine N6.out.mono ?_); rintro e v5 ⟨Z, nz, cz, rfl, n7⟩; have N7 := Lib.hid n7; clear n7))
          | (go_at_call 12; ((with_reducible refine N7.out.mono ?_); rintro e v6 ⟨Y, cy, rfl, n8⟩; have N8 := Lib.hid n8; clear n8))
          | (go_at_call 11; ((with_reducible refine N8.out.mono ?_); rintro e v7 ⟨rfl, n9⟩; have N9 := Lib.hid n9; clear n9))
          | (go_at_call 13; ((with_reducible refine N9.out.mono ?_); rintro e v8 ⟨rfl, n10⟩; have N10 := Lib.hid n10; clear n10))
          | (go_at_call 14; ((with_reducible refine N10.out.mono ?_); rintro e v9 ⟨rfl, n11⟩; have N11 := Lib.hid n11; clear n11))
          | (go_at_call 15; ((with_reducible refine N11.out.mono ?_); rintro e v10 ⟨rfl, n12⟩; have N12 := Lib.hid n12; clear n12))
          | (go_at_call 11; ((with_reducible refine N12.out.mono ?_); rintro e v11 ⟨rfl, n13⟩; have N13 := Lib.hid n13; clear n13))
          | (go_at_call 16; ((with_reducible refine N13.out.mono ?_); rintro e v12 ⟨rfl, n14⟩; have N14 := Lib.hid n14; clear n14))
          | (go_at_call 11; ((with_reducible refine N14.out.mono ?_); rintro e v13 ⟨rfl, n15⟩; have N15 := Lib.hid n15; clear n15))
          | (go_at_call 17; ((with_reducible refine N15.out.mono ?_); rintro e v14 ⟨rfl, n16⟩; have N16 := Lib.hid n16; clear n16))
          | (go_at_call 18; ((with_reducible refine N16.out.mono ?_); rintro e v15 ⟨rfl, n17⟩; have N17 := Lib.hid n17; clear n17))
          | (go_at_call 19; ((with_reducible refine N17.out.mono ?_); rintro e v16 ⟨rfl, n18⟩; have N18 := Lib.hid n18; clear n18))
          | (go_at_call 20; ((with_reducible refine N18.out.mono ?_); rintro e v17 ⟨rfl, n19⟩; have N19 := Lib.hid n19; clear n19))
          | (go_at_call 4; ((with_reducible refine N19.out.mono ?_); rintro e v18 ⟨rfl, hb2⟩; have HB2 := Lib.hid hb2; clear hb2)))
        go_ret
        exact ⟨rfl, HB2.out⟩
    · have N := Lib.hid (known_yes w)
      clear h0 h1 hk hT
      go_enter Tryd.func3, Tryd.ntmps3
      go_wp2_with (go_at_call 4; ((with_reducible refine N.out.mono ?_); rintro e v ⟨rfl, hb⟩; have HB := Lib.hid hb; clear hb))
      go_ret
      exact ⟨rfl, HB.out⟩
  · have N := Lib.hid (known_yes w)
    clear h0 h1 hk hT
    go_enter Tryd.func3, Tryd.ntmps3
    go_wp2_with (go_at_call 4; ((with_reducible refine N.out.mono ?_); rintro e v ⟨rfl, hb⟩; have HB := Lib.hid hb; clear hb))
    go_ret
    exact ⟨rfl, HB.out⟩
end Go.Proofs.YtonbdcajepmgbaaDoor
