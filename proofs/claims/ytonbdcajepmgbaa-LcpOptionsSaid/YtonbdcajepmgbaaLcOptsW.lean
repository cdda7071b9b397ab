/-
  LcpOptions: the walk.
-/
import Derived.Test.YtonbdcajepmgbaaLcOptsC
import Derived.Test.YtonbdcajepmgbaaLcKnown
import Derived.Deep.RegionHeld3
import Derived.Deep.Cut
namespace Go.Proofs.Ytonbdcajepmgbaa
open Go.RowKit
set_option maxRecDepth 100000
set_option maxHeartbeats 4000000
set_option linter.unusedSimpArgs false
set_option linter.unusedVariables false

/-- a list that reads as it should, in whatever comes later -/
def RL (W : World) (X : Option Addr) (N : Nat) (o : LOpts) : Prop := OptRd W W.heap.size X N (optsOf o)
theorem RL.later {W W' : World} {X : Option Addr} {N : Nat} {o : LOpts} (h : RL W X N o) (hB : Below W.heap.size W W') : RL W' X N o := OptRd.wide (OptRd.below h hB (Nat.le_refl _)) hB.size
/-- the last region's calls, each in whatever world keeps the box -/
def G14 (w : World) (o : LOpts) (N : Nat) : Prop :=
  (∀ W, OS w W o → Calls Try.prog 40 #[vO o] W fun e w' => e = .returned (vO o) ∧ OS w w' o ∧ Below W.heap.size W w') ∧
  (∀ W, OS w W o → Calls Try.prog 39 #[vO o] W fun e w' => ∃ X cx, e = .returned (.slice X N cx) ∧ OS w w' o ∧ RL w' X N o ∧ Below W.heap.size W w') ∧
  (∀ W, OS w W o → Calls Try.prog 41 #[vO o] W fun e w' => ∃ X cx, e = .returned (.slice X N cx) ∧ OS w w' o ∧ RL w' X N o ∧ Below W.heap.size W w') ∧
  (∀ W X Y cx cy, OS w W o → RL W X N o → RL W Y N o → Calls Try.prog 33 #[.slice X N cx, .slice Y N cy] W fun e w' => e = .returned (.bool true) ∧ OS w w' o ∧ Below W.heap.size W w') ∧
  (∀ W, OS w W o → Calls Try.prog 52 #[] W fun e w' => e = .returned (vO dflt) ∧ OS w w' o) ∧
  (∀ W, OS w W o → Calls Try.prog 53 #[] W fun e w' => e = .returned (vO dflt) ∧ OS w w' o) ∧
  (∀ W, OS w W o → Calls Try.prog 47 #[vO dflt] W fun e w' => e = .returned (vO dflt) ∧ OS w w' o) ∧
  (∀ W, OS w W o → Calls Try.prog 38 #[] W fun e w' => e = .returned (.bool true) ∧ OS w w' o)
theorem g14 (w : World) (o : LOpts) (hw : o.wf) : G14 w o (optsOf o).length := by
  refine ⟨fun W h => ?_, fun W h => ?_, fun W h => ?_, fun W X Y cx cy h hX hY => ?_, fun W h => ?_, fun W h => ?_, fun W h => ?_, fun W h => ?_⟩
  · refine (given_any o W).mono ?_
    rintro e w' ⟨rfl, b⟩
    exact ⟨rfl, h.later b, b⟩
  · refine (options_lcp o W hw).mono ?_
    rintro e w' ⟨X, n, c, rfl, hn, hx, b⟩
    subst hn
    exact ⟨X, c, rfl, h.later b, own_opts hx, b⟩
  · refine (roptions_any o W hw).mono ?_
    rintro e w' ⟨X, n, c, rfl, hn, hx, b⟩
    subst hn
    exact ⟨X, c, rfl, h.later b, own_opts hx, b⟩
  · have hlen := optsOf_len o
    refine (rsame_yes X Y _ cx cy W.heap.size (optsOf o) W hX hY (Nat.le_refl _) (by omega)).mono ?_
    rintro e w' ⟨rfl, b⟩
    exact ⟨rfl, h.later b, b⟩
  · refine (default_any W).mono ?_
    rintro e w' ⟨rfl, b⟩
    exact ⟨rfl, h.later b⟩
  · refine (rdefault_any W).mono ?_
    rintro e w' ⟨rfl, b⟩
    exact ⟨rfl, h.later b⟩
  · refine (taken_any dflt W).mono ?_
    rintro e w' ⟨rfl, b⟩
    exact ⟨rfl, h.later b⟩
  · refine (known11_any W).mono ?_
    rintro e w' ⟨rfl, b⟩
    exact ⟨rfl, h.later b⟩
theorem lcpoptions_walk (o : LOpts) (A : Option Addr) (n c : Nat) (s : List Opt) (x : Int) (Ab : Option Addr) (nb cb : Nat) (lb : List UInt8) (w : World) (hw : o.wf) (hr : OptRd w w.heap.size A n s) (hK : okK s) (hn : n ≤ 4398046511103) (hrb : Rd w w.heap.size Ab nb lb) (hnb : nb ≤ 140737488351232) :
    Calls Try.prog 8 #[o.val, .slice A n c, .int .i64 x, .slice Ab nb cb] w fun e w' => e = .returned (.bool true) ∧ Below w.heap.size w w' := by
  obtain ⟨W1, hW1⟩ : ∃ W1, w.alloc (.cells #[.int .i64 o.mru, .int .i64 o.accm, .int .i64 o.auth, .int .u32 o.magic, .bool o.pfc, .bool o.acfc] 74) = W1 := ⟨_, rfl⟩
  have hos : OS w W1 o := by
    rw [← hW1]
    exact ⟨(Below.refl _ _).alloc (Nat.le_refl _) _, cells6_new w _ o, by simp⟩
  have HW := Lib.hid hW1
  have HG := g14 w o hw
  have HKN := Lib.hid (HG.2.2.2.2.2.2.2 W1 hos)
  unfold LOpts.val
  by_cases hbig : 300 < n
  · have hb : (300 : Int) < (n : Int) := by omega
    clear hr hK hW1 hrb HG hos
    go_enter Try.func8, Try.ntmps8
    go_upto_region 1 with (fail)
    rw [HW.out]
    go_wp2_with (go_at_call 38; ((with_reducible refine HKN.out.mono ?_); rintro e w4 ⟨rfl, b4⟩; have HB4 := Lib.hid b4; clear b4))
    go_ret
    exact ⟨rfl, HB4.out.1⟩
  · have hb : ¬ (300 : Int) < (n : Int) := by omega
    have C1 := o1 hw hos A n c s x Ab nb cb lb hr hK (by omega) hrb hnb
    obtain ⟨P, hP⟩ : ∃ P, readO s = P := ⟨_, rfl⟩
    obtain ⟨E, hE⟩ : ∃ E, readE s = E := ⟨_, rfl⟩
    rw [hP, hE] at C1
    obtain ⟨M, hM⟩ : ∃ M, mth lb = M := ⟨_, rfl⟩
    unfold O1 O2 O3 C12 vO at C1
    rw [hM] at C1
    obtain ⟨N, hN⟩ : ∃ N, (optsOf o).length = N := ⟨_, rfl⟩
    rw [hN] at HG
    unfold G14 vO dflt at HG
    obtain ⟨g1, g2, g3, g4, g5, g6, g7, g8⟩ := HG
    have G1 := Lib.hid g1
    have G2 := Lib.hid g2
    have G3 := Lib.hid g3
    have G4 := Lib.hid g4
    have G5 := Lib.hid g5
    have G6 := Lib.hid g6
    have G7 := Lib.hid g7
    have G8 := Lib.hid g8
    have HC := Lib.hid C1
    obtain ⟨x0, x1, x2, x3, x4, x5⟩ := hos.2.1
    clear C1 hr hK hW1 hrb hos hP hE hM hN g1 g2 g3 g4 g5 g6 g7 g8 HKN hw
    go_enter Try.func8, Try.ntmps8
    go_upto_region 1 with (fail)
    rw [HW.out]
    go_upto_region 11 with (first
      | (go_at_call 40; ((with_reducible refine HC.out.mono ?_); rintro e v1 ⟨rfl, c1⟩; have C1 := Lib.hid c1; clear c1))
      | (go_at_call 39; ((with_reducible refine C1.out.mono ?_); rintro e v2 ⟨X, nx, cx, rfl, ⟨y0, y1, y2, y3, y4, y5⟩, c2⟩; have C2 := Lib.hid c2; clear c2))
      | (go_at_call 41; ((with_reducible refine C2.out.mono ?_); rintro e v3 ⟨Y, cy, rfl, c3⟩; have C3 := Lib.hid c3; clear c3))
      | (go_at_call 33; ((with_reducible refine C3.out.mono ?_); rintro e v4 ⟨rfl, c4⟩; have C4 := Lib.hid c4; clear c4))
      | (go_at_call 42; ((with_reducible refine C4.out.mono ?_); rintro e v5 ⟨rfl, c5⟩; have C5 := Lib.hid c5; clear c5))
      | (go_at_call 43; ((with_reducible refine C5.out.mono ?_); rintro e v6 ⟨F, f, rfl, c6⟩; have C6 := Lib.hid c6; clear c6))
      | (go_at_call 44; ((with_reducible refine C6.out.mono ?_); rintro e v7 ⟨rfl, V7, hv7, c7⟩; have HV7 := Lib.hid hv7; have C7 := Lib.hid c7; clear hv7 c7))
      | (rw [HV7.out])
      | (go_at_call 45; ((with_reducible refine C7.out.mono ?_); rintro e v8 ⟨rfl, V8, hv8, c8⟩; have HV8 := Lib.hid hv8; have C8 := Lib.hid c8; clear hv8 c8))
      | (rw [HV8.out])
      | (go_at_call 46; ((with_reducible refine C8.out.mono ?_); rintro e v9 ⟨D, k, d, rfl, ⟨⟨p0, p1, p2, p3, p4, p5⟩, ⟨q0, q1, q2, q3, q4, q5⟩⟩, c9⟩; have C9 := Lib.hid c9; clear c9)))
    clear x0 x1 x2 x3 x4 x5 y0 y1 y2 y3 y4 y5 HC C1 C2 C3 C4 C5 C6 C7 C8 HV7 HV8
    go_cut [72] from 44 (fun v W => v = .bool false ∧ Hid (O4 w W o D k d))
    case first =>
      have hpp : ∀ b : Bool, (b != b) = false := fun b => by cases b <;> rfl
      go_region_held3 (fun w' => w'.cell? ⟨v7.heap.size, 0, none⟩ = some (.int .i64 P.mru) ∧ w'.cell? ⟨v7.heap.size, 1, none⟩ = some (.int .i64 P.accm) ∧ w'.cell? ⟨v7.heap.size, 2, none⟩ = some (.int .i64 P.auth) ∧ w'.cell? ⟨v7.heap.size, 3, none⟩ = some (.int .u32 P.magic) ∧ w'.cell? ⟨v7.heap.size, 4, none⟩ = some (.bool P.pfc) ∧ w'.cell? ⟨v7.heap.size, 5, none⟩ = some (.bool P.acfc) ∧ w'.cell? ⟨v8.heap.size, 0, none⟩ = some (.int .i64 P.mru) ∧ w'.cell? ⟨v8.heap.size, 1, none⟩ = some (.int .i64 P.accm) ∧ w'.cell? ⟨v8.heap.size, 2, none⟩ = some (.int .i64 P.auth) ∧ w'.cell? ⟨v8.heap.size, 3, none⟩ = some (.int .u32 P.magic) ∧ w'.cell? ⟨v8.heap.size, 4, none⟩ = some (.bool P.pfc) ∧ w'.cell? ⟨v8.heap.size, 5, none⟩ = some (.bool P.acfc)) (go_keep) (first
        | (go_at_call 47; (with_reducible refine C9.out.mono ?_); rintro e w5 ⟨rfl, ⟨⟨aa0, aa1, aa2, aa3, aa4, aa5⟩, ⟨ab0, ab1, ab2, ab3, ab4, ab5⟩⟩, d1⟩; have D1 := Lib.hid d1; clear d1)
        | (go_at_call 33; (with_reducible refine D1.out.mono ?_); rintro e w6 ⟨rfl, ⟨⟨ba0, ba1, ba2, ba3, ba4, ba5⟩, ⟨bb0, bb1, bb2, bb3, bb4, bb5⟩⟩, d2⟩; have D2 := Lib.hid d2; clear d2)
        | (go_at_call 48; (with_reducible refine D2.out.mono ?_); rintro e w7 ⟨T, kt, dt, rfl, ⟨⟨ca0, ca1, ca2, ca3, ca4, ca5⟩, ⟨cb0, cb1, cb2, cb3, cb4, cb5⟩⟩, d3⟩; have D3 := Lib.hid d3; clear d3)
        | (go_at_call 34; (with_reducible refine D3.out.mono ?_); rintro e w8 ⟨rfl, ⟨⟨da0, da1, da2, da3, da4, da5⟩, ⟨db0, db1, db2, db3, db4, db5⟩⟩, d4, d5⟩; have D4 := Lib.hid d4; have D5 := Lib.hid d5; clear d4 d5)
        | (go_at_call 49; (with_reducible refine D4.out.mono ?_); rintro e w9 ⟨rfl, ⟨⟨ea0, ea1, ea2, ea3, ea4, ea5⟩, ⟨eb0, eb1, eb2, eb3, eb4, eb5⟩⟩, d6⟩; have D6 := Lib.hid d6; clear d6)
        | (go_at_call 50; (with_reducible refine D6.out.mono ?_); rintro e w10 ⟨rfl, ⟨⟨fa0, fa1, fa2, fa3, fa4, fa5⟩, ⟨fb0, fb1, fb2, fb3, fb4, fb5⟩⟩, d7⟩; have D7 := Lib.hid d7; clear d7)
        | (go_at_call 50; (with_reducible refine D5.out.mono ?_); rintro e w9 ⟨rfl, ⟨⟨ea0, ea1, ea2, ea3, ea4, ea5⟩, ⟨eb0, eb1, eb2, eb3, eb4, eb5⟩⟩, d6⟩; have D8 := Lib.hid d6; clear d6)
        | (go_at_call 49; (with_reducible refine D8.out.mono ?_); rintro e w10 ⟨rfl, ⟨⟨fa0, fa1, fa2, fa3, fa4, fa5⟩, ⟨fb0, fb1, fb2, fb3, fb4, fb5⟩⟩, d7⟩; have D7 := Lib.hid d7; clear d7))
      all_goals
        go_wp2_with fail
        go_meet
        case rel => exact ⟨rfl, D7⟩
    case rest =>
      obtain ⟨rfl, h4⟩ := hcut
      have h5 := h4.out
      unfold O4 at h5
      have H4 := Lib.hid h5
      clear h4 h5 C9 p0 p1 p2 p3 p4 p5 q0 q1 q2 q3 q4 q5
      go_upto_region 14 with (go_at_call 51; ((with_reducible refine H4.out.mono ?_); rintro e w0 ⟨rfl, hos⟩; have HOS := Lib.hid (show OS w w0.drew o from OS.drewn hos 1); obtain ⟨a0, a1, a2, a3, a4, a5⟩ := hos.2.1; clear hos))
      clear H4
      go_region_held3 (fun w' => w'.cell? ⟨w.heap.size, 0, none⟩ = some (.int .i64 o.mru) ∧ w'.cell? ⟨w.heap.size, 1, none⟩ = some (.int .i64 o.accm) ∧ w'.cell? ⟨w.heap.size, 2, none⟩ = some (.int .i64 o.auth) ∧ w'.cell? ⟨w.heap.size, 3, none⟩ = some (.int .u32 o.magic) ∧ w'.cell? ⟨w.heap.size, 4, none⟩ = some (.bool o.pfc) ∧ w'.cell? ⟨w.heap.size, 5, none⟩ = some (.bool o.acfc)) (go_keep) (first
        | (go_at_call 40; (with_reducible refine (G1.out _ HG.out).mono ?_); rintro e v ⟨rfl, hg, hB⟩; (try (have HY := Lib.hid (RL.later HY.out hB))); obtain ⟨b0, b1, b2, b3, b4, b5⟩ := hg.2.1; have HG := Lib.hid hg; clear hg; clear hB)
        | (go_at_call 40; (with_reducible refine (G1.out _ HOS.out).mono ?_); rintro e v ⟨rfl, hg, hB⟩; obtain ⟨b0, b1, b2, b3, b4, b5⟩ := hg.2.1; have HG := Lib.hid hg; clear hg; clear hB)
        | (go_at_call 39; (with_reducible refine (G2.out _ HG.out).mono ?_); rintro e v ⟨X1, c1, rfl, hg, hx, hB⟩; (try (have HY := Lib.hid (RL.later HY.out hB))); have HX := Lib.hid hx; obtain ⟨c0, c1, c2, c3, c4, c5⟩ := hg.2.1; have HG := Lib.hid hg; clear hg; clear hB hx)
        | (go_at_call 41; (with_reducible refine (G3.out _ HG.out).mono ?_); rintro e v ⟨Y1, c2, rfl, hg, hy, hB⟩; (try (have HX := Lib.hid (RL.later HX.out hB))); have HY := Lib.hid hy; obtain ⟨d0, d1, d2, d3, d4, d5⟩ := hg.2.1; have HG := Lib.hid hg; clear hg; clear hB hy)
        | (go_at_call 41; (with_reducible refine (G3.out _ HOS.out).mono ?_); rintro e v ⟨Y1, c2, rfl, hg, hy, hB⟩; have HY := Lib.hid hy; obtain ⟨d0, d1, d2, d3, d4, d5⟩ := hg.2.1; have HG := Lib.hid hg; clear hg; clear hB hy)
        | (go_at_call 33; (with_reducible refine (G4.out _ _ _ _ _ HG.out HX.out HY.out).mono ?_); rintro e v ⟨rfl, hg, hB⟩; obtain ⟨e0, e1, e2, e3, e4, e5⟩ := hg.2.1; have HG := Lib.hid hg; clear hg; clear hB)
        | (go_at_call 52; (with_reducible refine (G5.out _ HG.out).mono ?_); rintro e v ⟨rfl, hg⟩; obtain ⟨f0, f1, f2, f3, f4, f5⟩ := hg.2.1; have HG := Lib.hid hg; clear hg)
        | (go_at_call 53; (with_reducible refine (G6.out _ HG.out).mono ?_); rintro e v ⟨rfl, hg⟩; obtain ⟨g0, g1, g2, g3, g4, g5⟩ := hg.2.1; have HG := Lib.hid hg; clear hg)
        | (go_at_call 47; (with_reducible refine (G7.out _ HG.out).mono ?_); rintro e v ⟨rfl, hg⟩; obtain ⟨h0, h1, h2, h3, h4, h5⟩ := hg.2.1; have HG := Lib.hid hg; clear hg)
        | (go_at_call 38; (with_reducible refine (G8.out _ HG.out).mono ?_); rintro e v ⟨rfl, hg⟩; obtain ⟨i0, i1, i2, i3, i4, i5⟩ := hg.2.1; have HG := Lib.hid hg; clear hg))
      all_goals
        go_wp2_with fail
        go_ret
        exact ⟨rfl, HG.out.1⟩
end Go.Proofs.Ytonbdcajepmgbaa
