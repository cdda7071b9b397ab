/-
  TimerPlays: the law's walk.
-/
import Derived.Test.YtdlnmhobhafobaaTmPlays
namespace Go.Proofs.Ytdlnmhobhafobaa
open Go.RowKit Go.Shelf
set_option maxRecDepth 100000
set_option maxHeartbeats 4000000
set_option linter.unusedSimpArgs false
set_option linter.unusedVariables false

theorem stp_cases {N : Nat → Prop} {w W : World} {q r : Nat} {cv dv : Option Addr} (h : StP N w W q r cv dv) : cv = none ∨ ∃ c0 d0, cv = some ⟨c0, 0, none⟩ ∧ dv = some ⟨d0, 0, none⟩ := by
  obtain ⟨L, h1, h2, hN, h3⟩ := h
  rcases h3 with e | ⟨c0, d0, M, e1, e2, _⟩
  · exact .inl e
  · exact .inr ⟨c0, d0, e1, e2⟩
def RndC (w W : World) (q r b : Nat) (cv dv : Option Addr) (z0 z1 z2 z3 : Int) : Prop :=
  Calls Try.prog 13 #[.pointer (some ⟨q, 0, none⟩), .pointer (some ⟨r, 0, none⟩), .agg #[.int .i64 z0, .int .i64 z1, .int .i64 z2, .int .i64 z3]] W fun e w2 => e = .returned (.bool true) ∧
    Calls Try.prog 14 #[.pointer (some ⟨q, 0, none⟩), .pointer (some ⟨r, 0, none⟩)] w2 fun e w3 => e = .returned (.bool true) ∧ StP (fun i => i = b) w w3 q r cv dv ∧ Blk w3 b 30 [.int .i64 z0, .int .i64 z1, .int .i64 z2, .int .i64 z3]
theorem rnd_any {w W : World} {q r b : Nat} {cv dv : Option Addr} {z0 z1 z2 z3 : Int} (h : StP (fun i => i = b) w W q r cv dv) (hb : Blk W b 30 [.int .i64 z0, .int .i64 z1, .int .i64 z2, .int .i64 z3]) (i2 : In64 z2) : RndC w W q r b cv dv z0 z1 z2 z3 := by
  refine (stp_step h z0 z1 z2 z3 i2).mono ?_
  rintro e w2 ⟨rfl, h2, b2⟩
  refine ⟨rfl, (stp_whole h2).mono ?_⟩
  rintro e w3 ⟨rfl, h3, b3⟩
  exact ⟨rfl, h3, (b3 b rfl).trans ((b2 b rfl).trans hb)⟩
def CopC (w W : World) (q r b : Nat) (z0 z1 z2 z3 : Int) : Prop :=
  Calls Try.prog 11 #[.pointer (some ⟨q, 0, none⟩)] W fun e W1 => ∃ c0, e = .returned (.pointer (some ⟨c0, 0, none⟩)) ∧
      Calls Try.prog 12 #[.pointer (some ⟨r, 0, none⟩)] W1 fun e W2 => ∃ d0, e = .returned (.pointer (some ⟨d0, 0, none⟩)) ∧ StP (fun i => i = b) w W2 q r (some ⟨c0, 0, none⟩) (some ⟨d0, 0, none⟩) ∧ Blk W2 b 30 [.int .i64 z0, .int .i64 z1, .int .i64 z2, .int .i64 z3]
theorem cop_any {w W : World} {q r b : Nat} {cv dv : Option Addr} {z0 z1 z2 z3 : Int} (h : StP (fun i => i = b) w W q r cv dv) (hb : Blk W b 30 [.int .i64 z0, .int .i64 z1, .int .i64 z2, .int .i64 z3]) : CopC w W q r b z0 z1 z2 z3 := by
  refine (stp_copy h).mono ?_
  rintro e W1 ⟨c0, rfl, -, h1⟩
  refine ⟨c0, rfl, h1.mono ?_⟩
  rintro e W2 ⟨d0, rfl, h2, -, hB⟩
  exact ⟨d0, rfl, h2, (hB.block b (Blk.lt hb)).trans hb⟩
theorem timerplays_walk (A : Option Addr) (n c : Nat) (f : Nat → Int × Int × Int × Int) (cut : Int) (w : World) (h : Ops4 w w.heap.size A n f) (hn : n ≤ 8796093021952) :
    Calls Try.prog 3 #[.slice A n c, .int .i64 cut] w fun e w' => e = .returned (.bool true) ∧ Below w.heap.size w w' := by
  have N := Lib.hid (new_pp w)
  have HO := Lib.hid h
  clear h
  go_enter Try.func3, Try.ntmps3
  go_wp2_with (first
    | (go_at_call 10; ((with_reducible refine N.out.mono ?_); rintro e w1 ⟨rfl, W1, hW, h1, hb1, hl1⟩; have HW := Lib.hid hW; have H1 := Lib.hid h1; have HB1 := Lib.hid hb1; clear hW h1 hb1))
    | (rw [HW.out]))
  have S0 : Hid (StP (fun _ => False) w (W1.alloc (.cells #[.slice none 0 0] 28)) w.heap.size w1.heap.size none (some ⟨W1.heap.size, 0, none⟩)) := StP.later ⟨_, H1.out, HB1.out, fun i hi => hi.elim, .inl rfl⟩ ((Below.refl _ _).alloc (Nat.le_refl _) _)
  go_loopw [7, 8, 21] (fun cp dp i wr => ∃ (k : Nat) (cv dv : Option Addr), k ≤ n ∧ k ≤ 300 ∧ cp = .pointer cv ∧ dp = .pointer dv ∧ i = .int .i64 k ∧ Hid (StP (fun _ => False) w wr w.heap.size w1.heap.size cv dv)) (fun _ _ i _ => n - (intOf i).toNat)
  case atStart => exact ⟨0, none, _, Nat.zero_le _, Nat.zero_le _, rfl, rfl, rfl, S0.out⟩
  case round =>
    rename_i wr
    obtain ⟨k, cv, dv, hkn, hk3, rfl, rfl, rfl, hS⟩ := hrel
    clear N HW H1 HB1 S0
    by_cases hlt : k < n
    · obtain ⟨b, off, rfl, hbl, hc⟩ := HO.out (by omega)
      obtain ⟨z, hz⟩ : ∃ z, f k = z := ⟨_, rfl⟩
      obtain ⟨z0, z1, z2, z3⟩ := z
      obtain ⟨x0, x1, x2, x3, i1, i2⟩ := hc k hlt
      rw [hz] at x0 x1 x2 x3 i1 i2
      have hB : Below w.heap.size w wr := by obtain ⟨L, _, h2, _⟩ := hS.out; exact h2
      have hbw : b < wr.heap.size := Nat.lt_of_lt_of_le hbl hB.size
      replace x0 := (hB.cell (p := ⟨b, off + k * 4, none⟩) hbl).trans x0
      replace x1 := (hB.cell (p := ⟨b, off + k * 4 + 1, none⟩) hbl).trans x1
      replace x2 := (hB.cell (p := ⟨b, off + k * 4 + 2, none⟩) hbl).trans x2
      replace x3 := (hB.cell (p := ⟨b, off + k * 4 + 3, none⟩) hbl).trans x3
      obtain ⟨V, hV⟩ : ∃ V, wr.alloc (.cells #[.int .i64 z0, .int .i64 z1, .int .i64 z2, .int .i64 z3] 30) = V := ⟨_, rfl⟩
      have hBV : Below wr.heap.size wr V := by rw [← hV]; exact (Below.refl _ _).alloc (Nat.le_refl _) _
      have hnew : Blk V wr.heap.size 30 [.int .i64 z0, .int .i64 z1, .int .i64 z2, .int .i64 z3] := by rw [← hV]; exact blk_new wr _ _
      have hSV := Lib.hid (hS.out.box hBV (Blk.lt hnew))
      have HV := Lib.hid hV
      have HN := Lib.hid hnew
      have I2 := Lib.hid i2
      have y0 := hnew.cell 0
      have y1 := hnew.cell 1
      have y2 := hnew.cell 2
      have y3 := hnew.cell 3
      clear hc hz hB hV hBV hnew hS i1 i2 hbl
      by_cases h3 : 300 ≤ k
      · obtain rfl : k = 300 := by omega
        rcases stp_cases hSV.out with rfl | ⟨c0, d0, rfl, rfl⟩
        · go_upto_region 22 with (rw [HV.out])
          have TS := hSV.out
          obtain ⟨nt, T⟩ := stp_tail TS
          rcases T with ⟨h1n, T⟩ | ⟨h1n, h1m, T⟩
          · have HT := Lib.hid T
            have h1i : ¬ (1 : Int) < (nt : Int) := by omega
            clear T TS
            unfold TailC at HT
            go_wp2_with (first
              | (go_at_call 15; ((with_reducible refine HT.out.mono ?_); rintro e X1 ⟨At, ct, rfl, n1⟩; have T1 := Lib.hid n1; clear n1))
              | (go_at_call 17; ((with_reducible refine T1.out.mono ?_); rintro e X2 ⟨Dt, kt, dt, rfl, n1⟩; have T2 := Lib.hid n1; clear n1))
              | (go_at_call 16; ((with_reducible refine T2.out.mono ?_); rintro e X3 ⟨rfl, n1⟩; have T3 := Lib.hid n1; clear n1))
              | (go_at_call 18; ((with_reducible refine T3.out.mono ?_); rintro e X4 ⟨rfl, n1⟩; have T4 := Lib.hid n1; clear n1)))
            go_ret
            exact ⟨rfl, T4.out⟩
          · have HT := Lib.hid T
            have h1i : (1 : Int) < (nt : Int) := by omega
            clear T TS
            unfold TailC at HT
            go_wp2_with (first
              | (go_at_call 15; ((with_reducible refine HT.out.mono ?_); rintro e X1 ⟨gt, ct, rfl, hct, n1⟩; have T1 := Lib.hid n1; clear n1))
              | (go_at_call 17; ((with_reducible refine T1.out.mono ?_); rintro e X2 ⟨Dt, kt, dt, rfl, n1⟩; have T2 := Lib.hid n1; clear n1))
              | (go_at_call 16; ((with_reducible refine T2.out.mono ?_); rintro e X3 ⟨rfl, n1⟩; have T3 := Lib.hid n1; clear n1))
              | (go_at_call 18; ((with_reducible refine T3.out.mono ?_); rintro e X4 ⟨rfl, n1⟩; have T4 := Lib.hid n1; clear n1)))
            go_ret
            exact ⟨rfl, T4.out⟩
        · have WH := Lib.hid (stp_whole2 hSV.out)
          go_upto_region 22 with (first
            | (rw [HV.out])
            | (go_at_call 14; ((with_reducible refine WH.out.mono ?_); rintro e X0 ⟨rfl, ts⟩; have TS0 := Lib.hid ts; clear ts)))
          have TS := TS0.out
          obtain ⟨nt, T⟩ := stp_tail TS
          rcases T with ⟨h1n, T⟩ | ⟨h1n, h1m, T⟩
          · have HT := Lib.hid T
            have h1i : ¬ (1 : Int) < (nt : Int) := by omega
            clear T TS
            unfold TailC at HT
            go_wp2_with (first
              | (go_at_call 15; ((with_reducible refine HT.out.mono ?_); rintro e X1 ⟨At, ct, rfl, n1⟩; have T1 := Lib.hid n1; clear n1))
              | (go_at_call 17; ((with_reducible refine T1.out.mono ?_); rintro e X2 ⟨Dt, kt, dt, rfl, n1⟩; have T2 := Lib.hid n1; clear n1))
              | (go_at_call 16; ((with_reducible refine T2.out.mono ?_); rintro e X3 ⟨rfl, n1⟩; have T3 := Lib.hid n1; clear n1))
              | (go_at_call 18; ((with_reducible refine T3.out.mono ?_); rintro e X4 ⟨rfl, n1⟩; have T4 := Lib.hid n1; clear n1)))
            go_ret
            exact ⟨rfl, T4.out⟩
          · have HT := Lib.hid T
            have h1i : (1 : Int) < (nt : Int) := by omega
            clear T TS
            unfold TailC at HT
            go_wp2_with (first
              | (go_at_call 15; ((with_reducible refine HT.out.mono ?_); rintro e X1 ⟨gt, ct, rfl, hct, n1⟩; have T1 := Lib.hid n1; clear n1))
              | (go_at_call 17; ((with_reducible refine T1.out.mono ?_); rintro e X2 ⟨Dt, kt, dt, rfl, n1⟩; have T2 := Lib.hid n1; clear n1))
              | (go_at_call 16; ((with_reducible refine T2.out.mono ?_); rintro e X3 ⟨rfl, n1⟩; have T3 := Lib.hid n1; clear n1))
              | (go_at_call 18; ((with_reducible refine T3.out.mono ?_); rintro e X4 ⟨rfl, n1⟩; have T4 := Lib.hid n1; clear n1)))
            go_ret
            exact ⟨rfl, T4.out⟩
      · by_cases hcut : (k : Int) = cut
        · have e1 : ((k : Int) == cut) = true := by simpa using hcut
          have CC := Lib.hid (cop_any hSV.out HN.out)
          unfold CopC at CC
          clear hcut
          go_upto_region 15 with (first
            | (rw [HV.out])
            | (go_at_call 11; ((with_reducible refine CC.out.mono ?_); rintro e V1 ⟨c0, rfl, n1⟩; have CC1 := Lib.hid n1; clear n1))
            | (go_at_call 12; ((with_reducible refine CC1.out.mono ?_); rintro e V2 ⟨d0, rfl, hs2, hb2⟩; have RN := Lib.hid (rnd_any hs2 hb2 I2.out); have u0 := hb2.cell 0; have u1 := hb2.cell 1; have u2 := hb2.cell 2; have u3 := hb2.cell 3; clear hs2 hb2)))
          unfold RndC at RN
          clear y0 y1 y2 y3 x0 x1 x2 x3
          by_cases hev : (k : Int) % 2 = 0
          · have e2 : ((k : Int) % 2 == 0) = true := by simpa using hev
            clear hev
            go_wp2_with (first
              | (go_at_call 13; ((with_reducible refine RN.out.mono ?_); rintro e V3 ⟨rfl, n1⟩; have RN1 := Lib.hid n1; clear n1))
              | (go_at_call 14; ((with_reducible refine RN1.out.mono ?_); rintro e V4 ⟨rfl, hs3, hb3⟩; have ST2 := Lib.hid (stp_step2 hs3 z0 z1 z2 z3 I2.out); have t0 := hb3.cell 0; have t1 := hb3.cell 1; have t2 := hb3.cell 2; have t3 := hb3.cell 3; clear hs3 hb3))
              | (go_at_call 13; ((with_reducible refine ST2.out.mono ?_); rintro e V5 ⟨rfl, hs5⟩; have HS5 := Lib.hid hs5; clear hs5)))
            go_roundw
            case rel => exact ⟨k + 1, _, _, by omega, by omega, rfl, rfl, by go_num, HS5.out.none⟩
            case measure => simp [intOf]; omega
          · have e2 : ((k : Int) % 2 == 0) = false := by simpa using hev
            clear hev
            go_wp2_with (first
              | (go_at_call 13; ((with_reducible refine RN.out.mono ?_); rintro e V3 ⟨rfl, n1⟩; have RN1 := Lib.hid n1; clear n1))
              | (go_at_call 14; ((with_reducible refine RN1.out.mono ?_); rintro e V4 ⟨rfl, hs3, hb3⟩; have HS3 := Lib.hid hs3; clear hs3 hb3)))
            go_roundw
            case rel => exact ⟨k + 1, _, _, by omega, by omega, rfl, rfl, by go_num, HS3.out.none⟩
            case measure => simp [intOf]; omega
        · have e1 : ((k : Int) == cut) = false := by simpa using hcut
          have RN := Lib.hid (rnd_any hSV.out HN.out I2.out)
          unfold RndC at RN
          clear hcut
          rcases stp_cases hSV.out with rfl | ⟨c0, d0, rfl, rfl⟩
          · go_wp2_with (first
              | (rw [HV.out])
              | (go_at_call 13; ((with_reducible refine RN.out.mono ?_); rintro e V3 ⟨rfl, n1⟩; have RN1 := Lib.hid n1; clear n1))
              | (go_at_call 14; ((with_reducible refine RN1.out.mono ?_); rintro e V4 ⟨rfl, hs3, hb3⟩; have HS3 := Lib.hid hs3; clear hs3 hb3)))
            go_roundw
            case rel => exact ⟨k + 1, none, dv, by omega, by omega, rfl, rfl, by go_num, HS3.out.none⟩
            case measure => simp [intOf]; omega
          · go_upto_region 15 with (rw [HV.out])
            clear x0 x1 x2 x3
            by_cases hev : (k : Int) % 2 = 0
            · have e2 : ((k : Int) % 2 == 0) = true := by simpa using hev
              clear hev
              go_wp2_with (first
                | (go_at_call 13; ((with_reducible refine RN.out.mono ?_); rintro e V3 ⟨rfl, n1⟩; have RN1 := Lib.hid n1; clear n1))
                | (go_at_call 14; ((with_reducible refine RN1.out.mono ?_); rintro e V4 ⟨rfl, hs3, hb3⟩; have ST2 := Lib.hid (stp_step2 hs3 z0 z1 z2 z3 I2.out); have t0 := hb3.cell 0; have t1 := hb3.cell 1; have t2 := hb3.cell 2; have t3 := hb3.cell 3; clear hs3 hb3))
                | (go_at_call 13; ((with_reducible refine ST2.out.mono ?_); rintro e V5 ⟨rfl, hs5⟩; have HS5 := Lib.hid hs5; clear hs5)))
              go_roundw
              case rel => exact ⟨k + 1, _, _, by omega, by omega, rfl, rfl, by go_num, HS5.out.none⟩
              case measure => simp [intOf]; omega
            · have e2 : ((k : Int) % 2 == 0) = false := by simpa using hev
              clear hev
              go_wp2_with (first
                | (go_at_call 13; ((with_reducible refine RN.out.mono ?_); rintro e V3 ⟨rfl, n1⟩; have RN1 := Lib.hid n1; clear n1))
                | (go_at_call 14; ((with_reducible refine RN1.out.mono ?_); rintro e V4 ⟨rfl, hs3, hb3⟩; have HS3 := Lib.hid hs3; clear hs3 hb3)))
              go_roundw
              case rel => exact ⟨k + 1, _, _, by omega, by omega, rfl, rfl, by go_num, HS3.out.none⟩
              case measure => simp [intOf]; omega
    · obtain rfl : k = n := by omega
      rcases stp_cases hS.out with rfl | ⟨c0, d0, rfl, rfl⟩
      · go_upto_region 22 with (fail)
        have TS := hS.out
        obtain ⟨nt, T⟩ := stp_tail TS
        rcases T with ⟨h1n, T⟩ | ⟨h1n, h1m, T⟩
        · have HT := Lib.hid T
          have h1i : ¬ (1 : Int) < (nt : Int) := by omega
          clear T TS
          unfold TailC at HT
          go_wp2_with (first
            | (go_at_call 15; ((with_reducible refine HT.out.mono ?_); rintro e X1 ⟨At, ct, rfl, n1⟩; have T1 := Lib.hid n1; clear n1))
            | (go_at_call 17; ((with_reducible refine T1.out.mono ?_); rintro e X2 ⟨Dt, kt, dt, rfl, n1⟩; have T2 := Lib.hid n1; clear n1))
            | (go_at_call 16; ((with_reducible refine T2.out.mono ?_); rintro e X3 ⟨rfl, n1⟩; have T3 := Lib.hid n1; clear n1))
            | (go_at_call 18; ((with_reducible refine T3.out.mono ?_); rintro e X4 ⟨rfl, n1⟩; have T4 := Lib.hid n1; clear n1)))
          go_ret
          exact ⟨rfl, T4.out⟩
        · have HT := Lib.hid T
          have h1i : (1 : Int) < (nt : Int) := by omega
          clear T TS
          unfold TailC at HT
          go_wp2_with (first
            | (go_at_call 15; ((with_reducible refine HT.out.mono ?_); rintro e X1 ⟨gt, ct, rfl, hct, n1⟩; have T1 := Lib.hid n1; clear n1))
            | (go_at_call 17; ((with_reducible refine T1.out.mono ?_); rintro e X2 ⟨Dt, kt, dt, rfl, n1⟩; have T2 := Lib.hid n1; clear n1))
            | (go_at_call 16; ((with_reducible refine T2.out.mono ?_); rintro e X3 ⟨rfl, n1⟩; have T3 := Lib.hid n1; clear n1))
            | (go_at_call 18; ((with_reducible refine T3.out.mono ?_); rintro e X4 ⟨rfl, n1⟩; have T4 := Lib.hid n1; clear n1)))
          go_ret
          exact ⟨rfl, T4.out⟩
      · have WH := Lib.hid (stp_whole2 hS.out)
        go_upto_region 22 with (go_at_call 14; ((with_reducible refine WH.out.mono ?_); rintro e X0 ⟨rfl, ts⟩; have TS0 := Lib.hid ts; clear ts))
        have TS := TS0.out
        obtain ⟨nt, T⟩ := stp_tail TS
        rcases T with ⟨h1n, T⟩ | ⟨h1n, h1m, T⟩
        · have HT := Lib.hid T
          have h1i : ¬ (1 : Int) < (nt : Int) := by omega
          clear T TS
          unfold TailC at HT
          go_wp2_with (first
            | (go_at_call 15; ((with_reducible refine HT.out.mono ?_); rintro e X1 ⟨At, ct, rfl, n1⟩; have T1 := Lib.hid n1; clear n1))
            | (go_at_call 17; ((with_reducible refine T1.out.mono ?_); rintro e X2 ⟨Dt, kt, dt, rfl, n1⟩; have T2 := Lib.hid n1; clear n1))
            | (go_at_call 16; ((with_reducible refine T2.out.mono ?_); rintro e X3 ⟨rfl, n1⟩; have T3 := Lib.hid n1; clear n1))
            | (go_at_call 18; ((with_reducible refine T3.out.mono ?_); rintro e X4 ⟨rfl, n1⟩; have T4 := Lib.hid n1; clear n1)))
          go_ret
          exact ⟨rfl, T4.out⟩
        · have HT := Lib.hid T
          have h1i : (1 : Int) < (nt : Int) := by omega
          clear T TS
          unfold TailC at HT
          go_wp2_with (first
            | (go_at_call 15; ((with_reducible refine HT.out.mono ?_); rintro e X1 ⟨gt, ct, rfl, hct, n1⟩; have T1 := Lib.hid n1; clear n1))
            | (go_at_call 17; ((with_reducible refine T1.out.mono ?_); rintro e X2 ⟨Dt, kt, dt, rfl, n1⟩; have T2 := Lib.hid n1; clear n1))
            | (go_at_call 16; ((with_reducible refine T2.out.mono ?_); rintro e X3 ⟨rfl, n1⟩; have T3 := Lib.hid n1; clear n1))
            | (go_at_call 18; ((with_reducible refine T3.out.mono ?_); rintro e X4 ⟨rfl, n1⟩; have T4 := Lib.hid n1; clear n1)))
          go_ret
          exact ⟨rfl, T4.out⟩
end Go.Proofs.Ytdlnmhobhafobaa
