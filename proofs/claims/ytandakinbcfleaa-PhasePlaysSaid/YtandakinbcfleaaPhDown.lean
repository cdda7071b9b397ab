/-
  The law PhaseDown.
-/
import Derived.Test.YtandakinbcfleaaPhStep
import Derived.Test.YtandakinbcfleaaPhAw
import Derived.Test.YtandakinbcfleaaPhOps
namespace Go.Proofs.Ytandakinbcfleaa
open Go.RowKit
set_option maxRecDepth 100000
set_option maxHeartbeats 8000000
set_option linter.unusedSimpArgs false
set_option linter.unusedVariables false

theorem down_any (x : PhS) (j : Int) (h : PhOk x j) : phDE x 1 = 0 ∧ (phDX x 1).s = 0 := by
  have hs : x.s = 0 ∨ x.s = 1 ∨ x.s = 2 ∨ x.s = 3 ∨ x.s = 4 := by have := h.1; omega
  obtain ⟨s, mt, mm, pt, pm, t0, t1, t2, t3, t4⟩ := x
  simp only at hs
  rcases hs with rfl | rfl | rfl | rfl | rfl
  all_goals
    exact ⟨rfl, rfl⟩
theorem up_no (x : PhS) (e : Int) (hs : x.s = 0) (he : e ≠ 0) : (phDX x e).s = 0 := by
  obtain ⟨s, mt, mm, pt, pm, t0, t1, t2, t3, t4⟩ := x
  simp only at hs
  subst hs
  by_cases h : 0 ≤ e ∧ e ≤ 8
  · have hc : e = 1 ∨ e = 2 ∨ e = 3 ∨ e = 4 ∨ e = 5 ∨ e = 6 ∨ e = 7 ∨ e = 8 := by omega
    rcases hc with rfl | rfl | rfl | rfl | rfl | rfl | rfl | rfl
    all_goals rfl
  · unfold phDX
    rw [if_neg (by omega), nxPE_out h, if_neg (by omega)]
theorem up_yes (x : PhS) (hs : x.s = 0) : phDE x 0 = 0 ∧ (phDX x 0).s = 1 := by
  obtain ⟨s, mt, mm, pt, pm, t0, t1, t2, t3, t4⟩ := x
  simp only at hs
  subst hs
  exact ⟨rfl, rfl⟩
theorem pass_12 {n : Int} (h : passB 1 n = true) : passB 2 n = true := by
  unfold passB at *
  simp at h
  subst h
  decide
theorem pass_23 {n : Int} (h : passB 2 n = true) : passB 3 n = true := by
  unfold passB at *
  simp at h
  simp [h]
theorem pass_0 (n : Int) : passB 0 n = false := by
  unfold passB
  simp
/-- the end: Down, an event, what may pass -/
def DownT (w : World) (g : Nat) (ev : Int) (V : World) : Prop := ∃ y1 y2 : PhS, y1.s = 0 ∧ (ev ≠ 0 → y2.s = 0) ∧ (ev = 0 → y2.s = 1) ∧ Calls Try.prog 22 #[.pointer (some ⟨g, 0, none⟩), .int .i64 1] V fun e w1 => e = .returned (.int .i64 0) ∧
  Hid (TrB w1 g y1) ∧ Calls Try.prog 22 #[.pointer (some ⟨g, 0, none⟩), .int .i64 ev] w1 fun e w2 => (∃ z : Int, e = .returned (.int .i64 z) ∧ (ev = 0 → z = 0)) ∧ Hid (TrB w2 g y2) ∧ Hid (Below w.heap.size w w2)
theorem down_tail {w V : World} {g : Nat} {x : PhS} (ev j : Int) (hx : TrB V g x) (ho : PhOk x j) (hj : j < 100000000) (hg : w.heap.size ≤ g) (hB : Below w.heap.size w V) : DownT w g ev V := by
  obtain ⟨h1, h2⟩ := down_any x j ho
  refine ⟨phDX x 1, phDX (phDX x 1) ev, h2, fun he => up_no _ ev h2 he, fun he => by subst he; exact (up_yes _ h2).2, ?_⟩
  refine (phDo_any g x 1 j V hx ho (by omega)).mono ?_
  rintro e w1 ⟨rfl, x1, g1⟩
  refine ⟨by rw [h1], x1, (phDo_any g _ ev (j + 1) w1 x1 (phDX_ok 1 ho) (by omega)).mono ?_⟩
  rintro e w2 ⟨rfl, x2, g2⟩
  refine ⟨⟨_, rfl, fun he => by subst he; exact (up_yes _ h2).1⟩, x2, ?_⟩
  have b1 : Below w.heap.size w w1 := hB.grown g1 hB.size (fun k e => by cases e; omega)
  exact b1.grown g2 b1.size (fun k e => by cases e; omega)

theorem phasedown_walk (A : Option Addr) (m c : Nat) (f : Nat → Int × Int × Bool × Bool) (ev n : Int) (w : World) (h : PhOps w w.heap.size A m f) (hm : m ≤ 8796093021952) :
    Calls Try.prog 7 #[.slice A m c, .int .i64 ev, .int .i64 n] w fun e w' => e = .returned (.bool true) ∧ Below w.heap.size w w' := by
  have HO := Lib.hid h
  clear h
  obtain ⟨g, hg⟩ : ∃ g, w.heap.size = g := ⟨_, rfl⟩
  have HN : Hid (Calls Try.prog 18 #[] w fun e w' => e = .returned (.pointer (some ⟨g, 0, none⟩)) ∧ Hid (TrB w' g phZ) ∧ Hid (Below w.heap.size w w')) := by rw [← hg]; exact phNew_any w
  have HG := Lib.hid hg
  clear hg
  go_enter Try.func7, Try.ntmps7
  go_wp2_with (go_at_call 18; refine HN.out.mono ?_; rintro e w1 ⟨rfl, X0, B0⟩)
  go_loopw [19] (fun i wr => ∃ (k : Nat) (x : PhS), i = .int .i64 k ∧ k ≤ m ∧ k ≤ 300 ∧ Hid (TrB wr g x ∧ PhOk x k ∧ Below w.heap.size w wr)) (fun i _ => m - (intOf i).toNat)
  case atStart => exact ⟨0, phZ, rfl, Nat.zero_le _, Nat.zero_le _, X0.out, by unfold PhOk phZ; simp, B0.out⟩
  case round =>
    rename_i wr
    obtain ⟨k, x, rfl, hkm, hk3, hS⟩ := hrel
    clear X0 B0
    by_cases hlt : k < m
    · obtain ⟨b, off, rfl, hbl, hc⟩ := HO.out (by omega)
      obtain ⟨z, hz⟩ : ∃ z, f k = z := ⟨_, rfl⟩
      obtain ⟨z0, z1, z2, z3⟩ := z
      obtain ⟨x0, x1, x2, x3, i1, i2⟩ := hc k hlt
      rw [hz] at x0 x1 x2 x3 i1 i2
      have hB : Below w.heap.size w wr := hS.out.2.2
      have hbw : b < wr.heap.size := Nat.lt_of_lt_of_le hbl hB.size
      replace x0 := (hB.cell (p := ⟨b, off + k * 4, none⟩) hbl).trans x0
      replace x1 := (hB.cell (p := ⟨b, off + k * 4 + 1, none⟩) hbl).trans x1
      replace x2 := (hB.cell (p := ⟨b, off + k * 4 + 2, none⟩) hbl).trans x2
      replace x3 := (hB.cell (p := ⟨b, off + k * 4 + 3, none⟩) hbl).trans x3
      obtain ⟨V, hV⟩ : ∃ V, wr.alloc (.cells #[.int .i64 z0, .int .i64 z1, .bool z2, .bool z3] 38) = V := ⟨_, rfl⟩
      have hBV : Below wr.heap.size wr V := by rw [← hV]; exact (Below.refl _ _).alloc (Nat.le_refl _) _
      have hnew : Blk V wr.heap.size 38 [.int .i64 z0, .int .i64 z1, .bool z2, .bool z3] := by rw [← hV]; exact blk_new wr _ _
      have BV : Below w.heap.size w V := bto hB hBV
      have XV : TrB V g x := hS.out.1.below hBV
      have OK := hS.out.2.1
      have HV := Lib.hid hV
      have y0 := hnew.cell 0
      have y1 := hnew.cell 1
      have y2 := hnew.cell 2
      have y3 := hnew.cell 3
      by_cases h3 : 300 ≤ k
      · obtain rfl : k = 300 := by omega
        have TL : Hid (DownT w g ev V) := down_tail ev 300 XV OK (by omega) (by have := HG.out; omega) BV
        clear hc hz hB hV hBV hnew hS i1 i2 hbl BV XV OK
        go_upto_region 10 with (rw [HV.out])
        obtain ⟨y1, y2, s1, s2, s3, DC⟩ := TL.out
        have D1 := Lib.hid DC
        have H1 : ∀ W, Hid (TrB W g y1) → Hid (Calls Try.prog 21 #[.pointer (some ⟨g, 0, none⟩)] W fun r w' => r = .returned (.int .i64 0) ∧ W = w') := fun W h => by have := phAt_any g y1 W h.out; rw [s1] at this; exact this
        have HA1 := Lib.hid H1
        have p0 := pass_0 n
        have Q0 := Lib.hid (passes_any 0 n)
        have Q1 := Lib.hid (passes_any 1 n)
        have Q2 := Lib.hid (passes_any 2 n)
        have Q3 := Lib.hid (passes_any 3 n)
        rw [p0] at Q0
        have hp : (passB 1 n = false ∧ passB 2 n = false ∧ passB 3 n = false) ∨ (passB 1 n = false ∧ passB 2 n = false ∧ passB 3 n = true) ∨ (passB 1 n = false ∧ passB 2 n = true ∧ passB 3 n = true) ∨ (passB 1 n = true ∧ passB 2 n = true ∧ passB 3 n = true) := by
          rcases h1 : passB 1 n with _ | _
          · rcases h2 : passB 2 n with _ | _
            · rcases h3 : passB 3 n with _ | _ <;> simp
            · have := pass_23 h2
              simp [this]
          · have a2 := pass_12 h1
            have := pass_23 a2
            simp [a2, this]
        clear p0 H1 DC TL
        by_cases he : ev = 0
        · have H2 : ∀ W, Hid (TrB W g y2) → Hid (Calls Try.prog 21 #[.pointer (some ⟨g, 0, none⟩)] W fun r w' => r = .returned (.int .i64 1) ∧ W = w') := fun W h => by have := phAt_any g y2 W h.out; rw [s3 he] at this; exact this
          have HA2 := Lib.hid H2
          subst he
          clear s1 s2 s3 H2
          rcases hp with ⟨h1, h2, h3⟩ | ⟨h1, h2, h3⟩ | ⟨h1, h2, h3⟩ | ⟨h1, h2, h3⟩
          all_goals
            rw [h1] at Q1
            rw [h2] at Q2
            rw [h3] at Q3
            clear h1 h2 h3
            go_wp2_with (first | (go_at_call 22; ((with_reducible refine C2.out.mono ?_); rintro r w2 ⟨⟨z, rfl, hz⟩, X2, B2⟩; have hz0 := hz (by trivial); subst hz0; clear hz)) | (go_at_call 22; ((with_reducible refine D1.out.mono ?_); rintro r w1 ⟨rfl, X1, c2⟩; have C2 := Lib.hid c2; clear c2)) | (go_at_call 21; ((with_reducible refine (HA2.out _ X2).out.mono ?_); rintro r w' ⟨rfl, rfl⟩)) | (go_at_call 21; ((with_reducible refine (HA1.out _ X1).out.mono ?_); rintro r w' ⟨rfl, rfl⟩)) | (go_at_call 15; ((with_reducible refine (Q1.out _).mono ?_); rintro r w' ⟨rfl, rfl⟩)) | (go_at_call 15; ((with_reducible refine (Q2.out _).mono ?_); rintro r w' ⟨rfl, rfl⟩)) | (go_at_call 15; ((with_reducible refine (Q3.out _).mono ?_); rintro r w' ⟨rfl, rfl⟩)) | (go_at_call 15; ((with_reducible refine (Q0.out _).mono ?_); rintro r w' ⟨rfl, rfl⟩)) | (go_at_call 17; refine (awake26 _).mono ?_; rintro r w6 ⟨rfl, hb⟩; have B6 := Lib.hid (bto B2.out hb); clear hb))
            go_ret
            exact ⟨rfl, B6.out⟩
        · have H2 : ∀ W, Hid (TrB W g y2) → Hid (Calls Try.prog 21 #[.pointer (some ⟨g, 0, none⟩)] W fun r w' => r = .returned (.int .i64 0) ∧ W = w') := fun W h => by have := phAt_any g y2 W h.out; rw [s2 he] at this; exact this
          have HA2 := Lib.hid H2
          have u0 : (ev == 0) = false := by simpa using he
          clear s1 s2 s3 H2 he
          rcases hp with ⟨h1, h2, h3⟩ | ⟨h1, h2, h3⟩ | ⟨h1, h2, h3⟩ | ⟨h1, h2, h3⟩
          all_goals
            rw [h1] at Q1
            rw [h2] at Q2
            rw [h3] at Q3
            clear h1 h2 h3
            go_wp2_with (first | (go_at_call 22; ((with_reducible refine C2.out.mono ?_); rintro r w2 ⟨⟨z, rfl, hz⟩, X2, B2⟩; clear hz)) | (go_at_call 22; ((with_reducible refine D1.out.mono ?_); rintro r w1 ⟨rfl, X1, c2⟩; have C2 := Lib.hid c2; clear c2)) | (go_at_call 21; ((with_reducible refine (HA2.out _ X2).out.mono ?_); rintro r w' ⟨rfl, rfl⟩)) | (go_at_call 21; ((with_reducible refine (HA1.out _ X1).out.mono ?_); rintro r w' ⟨rfl, rfl⟩)) | (go_at_call 15; ((with_reducible refine (Q1.out _).mono ?_); rintro r w' ⟨rfl, rfl⟩)) | (go_at_call 15; ((with_reducible refine (Q2.out _).mono ?_); rintro r w' ⟨rfl, rfl⟩)) | (go_at_call 15; ((with_reducible refine (Q3.out _).mono ?_); rintro r w' ⟨rfl, rfl⟩)) | (go_at_call 15; ((with_reducible refine (Q0.out _).mono ?_); rintro r w' ⟨rfl, rfl⟩)) | (go_at_call 17; refine (awake26 _).mono ?_; rintro r w6 ⟨rfl, hb⟩; have B6 := Lib.hid (bto B2.out hb); clear hb))
            go_ret
            exact ⟨rfl, B6.out⟩
      · obtain ⟨U, hU⟩ : ∃ U, V.alloc (.cells #[.int .i64 0, .bool false, .bool false, .bool false, .bool false, .int .i64 0, .int .i64 0, .int .i64 0, .int .i64 0, .int .i64 0] 36) = U := ⟨_, rfl⟩
        have hBU : Below V.heap.size V U := by rw [← hU]; exact (Below.refl _ _).alloc (Nat.le_refl _) _
        have hR : RrB U V.heap.size phZ := by rw [← hU]; exact blk_new V _ _
        have BU : Below w.heap.size w U := bto BV hBU
        have XU : TrB U g x := XV.below hBU
        have ng : g ≠ V.heap.size := by have := XV.lt; omega
        have sV := BV.size
        have v0 : U.cell? ⟨wr.heap.size, 0, none⟩ = some (.int .i64 z0) := (hBU.cell (p := ⟨wr.heap.size, 0, none⟩) hnew.lt).trans y0
        have v1 : U.cell? ⟨wr.heap.size, 1, none⟩ = some (.int .i64 z1) := (hBU.cell (p := ⟨wr.heap.size, 1, none⟩) hnew.lt).trans y1
        have v2 : U.cell? ⟨wr.heap.size, 2, none⟩ = some (.bool z2) := (hBU.cell (p := ⟨wr.heap.size, 2, none⟩) hnew.lt).trans y2
        have v3 : U.cell? ⟨wr.heap.size, 3, none⟩ = some (.bool z3) := (hBU.cell (p := ⟨wr.heap.size, 3, none⟩) hnew.lt).trans y3
        have ST := Lib.hid (step_any g V.heap.size x phZ z0 z1 z2 z3 300 U XU hR ng (OK.up (by omega)) (by unfold PhOk phZ; simp) (by omega))
        have KO : Hid (PhOk (stX x z0 z1 z2 z3) ((k + 1 : Nat) : Int)) := by have := stX_ok z0 z1 z2 z3 OK; rw [Int.natCast_add]; exact this
        have KB : Hid (∀ W, StE U W g V.heap.size (stX x z0 z1 z2 z3) (stX phZ z0 z1 z2 z3) → TrB W g (stX x z0 z1 z2 z3) ∧ Below w.heap.size w W) := fun W s => ⟨s.1, BU.trans (s.2.2.below BU.size (by have := HG.out; omega) (by omega))⟩
        have HU := Lib.hid hU
        have h300 : k < 300 := by omega
        clear hc hz hB hV hBV hnew hS i1 i2 hbl BV XV OK hU hBU hR BU XU ng sV h3
        go_wp2_with (first | (rw [HV.out]) | (rw [HU.out]) | (go_at_call 19; (with_reducible refine ST.out.mono ?_); rintro r w5 ⟨bb, rfl, _, s5⟩; have S5 := Lib.hid (KB.out _ s5); clear s5))
        go_roundw
        case rel => exact ⟨k + 1, _, by go_num, by omega, by omega, S5.out.1, KO.out, S5.out.2⟩
        case measure => simp [intOf]; omega
    · have TL : Hid (DownT w g ev wr) := down_tail ev k hS.out.1 hS.out.2.1 (by omega) (by have := HG.out; omega) hS.out.2.2
      clear hS
      obtain ⟨y1, y2, s1, s2, s3, DC⟩ := TL.out
      have D1 := Lib.hid DC
      have H1 : ∀ W, Hid (TrB W g y1) → Hid (Calls Try.prog 21 #[.pointer (some ⟨g, 0, none⟩)] W fun r w' => r = .returned (.int .i64 0) ∧ W = w') := fun W h => by have := phAt_any g y1 W h.out; rw [s1] at this; exact this
      have HA1 := Lib.hid H1
      have p0 := pass_0 n
      have Q0 := Lib.hid (passes_any 0 n)
      have Q1 := Lib.hid (passes_any 1 n)
      have Q2 := Lib.hid (passes_any 2 n)
      have Q3 := Lib.hid (passes_any 3 n)
      rw [p0] at Q0
      have hp : (passB 1 n = false ∧ passB 2 n = false ∧ passB 3 n = false) ∨ (passB 1 n = false ∧ passB 2 n = false ∧ passB 3 n = true) ∨ (passB 1 n = false ∧ passB 2 n = true ∧ passB 3 n = true) ∨ (passB 1 n = true ∧ passB 2 n = true ∧ passB 3 n = true) := by
        rcases h1 : passB 1 n with _ | _
        · rcases h2 : passB 2 n with _ | _
          · rcases h3 : passB 3 n with _ | _ <;> simp
          · have := pass_23 h2
            simp [this]
        · have a2 := pass_12 h1
          have := pass_23 a2
          simp [a2, this]
      clear p0 H1 DC TL
      by_cases he : ev = 0
      · have H2 : ∀ W, Hid (TrB W g y2) → Hid (Calls Try.prog 21 #[.pointer (some ⟨g, 0, none⟩)] W fun r w' => r = .returned (.int .i64 1) ∧ W = w') := fun W h => by have := phAt_any g y2 W h.out; rw [s3 he] at this; exact this
        have HA2 := Lib.hid H2
        subst he
        clear s1 s2 s3 H2
        rcases hp with ⟨h1, h2, h3⟩ | ⟨h1, h2, h3⟩ | ⟨h1, h2, h3⟩ | ⟨h1, h2, h3⟩
        all_goals
          rw [h1] at Q1
          rw [h2] at Q2
          rw [h3] at Q3
          clear h1 h2 h3
          go_wp2_with (first | (go_at_call 22; ((with_reducible refine C2.out.mono ?_); rintro r w2 ⟨⟨z, rfl, hz⟩, X2, B2⟩; have hz0 := hz (by trivial); subst hz0; clear hz)) | (go_at_call 22; ((with_reducible refine D1.out.mono ?_); rintro r w1 ⟨rfl, X1, c2⟩; have C2 := Lib.hid c2; clear c2)) | (go_at_call 21; ((with_reducible refine (HA2.out _ X2).out.mono ?_); rintro r w' ⟨rfl, rfl⟩)) | (go_at_call 21; ((with_reducible refine (HA1.out _ X1).out.mono ?_); rintro r w' ⟨rfl, rfl⟩)) | (go_at_call 15; ((with_reducible refine (Q1.out _).mono ?_); rintro r w' ⟨rfl, rfl⟩)) | (go_at_call 15; ((with_reducible refine (Q2.out _).mono ?_); rintro r w' ⟨rfl, rfl⟩)) | (go_at_call 15; ((with_reducible refine (Q3.out _).mono ?_); rintro r w' ⟨rfl, rfl⟩)) | (go_at_call 15; ((with_reducible refine (Q0.out _).mono ?_); rintro r w' ⟨rfl, rfl⟩)) | (go_at_call 17; refine (awake26 _).mono ?_; rintro r w6 ⟨rfl, hb⟩; have B6 := Lib.hid (bto B2.out hb); clear hb))
          go_ret
          exact ⟨rfl, B6.out⟩
      · have H2 : ∀ W, Hid (TrB W g y2) → Hid (Calls Try.prog 21 #[.pointer (some ⟨g, 0, none⟩)] W fun r w' => r = .returned (.int .i64 0) ∧ W = w') := fun W h => by have := phAt_any g y2 W h.out; rw [s2 he] at this; exact this
        have HA2 := Lib.hid H2
        have u0 : (ev == 0) = false := by simpa using he
        clear s1 s2 s3 H2 he
        rcases hp with ⟨h1, h2, h3⟩ | ⟨h1, h2, h3⟩ | ⟨h1, h2, h3⟩ | ⟨h1, h2, h3⟩
        all_goals
          rw [h1] at Q1
          rw [h2] at Q2
          rw [h3] at Q3
          clear h1 h2 h3
          go_wp2_with (first | (go_at_call 22; ((with_reducible refine C2.out.mono ?_); rintro r w2 ⟨⟨z, rfl, hz⟩, X2, B2⟩; clear hz)) | (go_at_call 22; ((with_reducible refine D1.out.mono ?_); rintro r w1 ⟨rfl, X1, c2⟩; have C2 := Lib.hid c2; clear c2)) | (go_at_call 21; ((with_reducible refine (HA2.out _ X2).out.mono ?_); rintro r w' ⟨rfl, rfl⟩)) | (go_at_call 21; ((with_reducible refine (HA1.out _ X1).out.mono ?_); rintro r w' ⟨rfl, rfl⟩)) | (go_at_call 15; ((with_reducible refine (Q1.out _).mono ?_); rintro r w' ⟨rfl, rfl⟩)) | (go_at_call 15; ((with_reducible refine (Q2.out _).mono ?_); rintro r w' ⟨rfl, rfl⟩)) | (go_at_call 15; ((with_reducible refine (Q3.out _).mono ?_); rintro r w' ⟨rfl, rfl⟩)) | (go_at_call 15; ((with_reducible refine (Q0.out _).mono ?_); rintro r w' ⟨rfl, rfl⟩)) | (go_at_call 17; refine (awake26 _).mono ?_; rintro r w6 ⟨rfl, hb⟩; have B6 := Lib.hid (bto B2.out hb); clear hb))
          go_ret
          exact ⟨rfl, B6.out⟩
end Go.Proofs.Ytandakinbcfleaa
