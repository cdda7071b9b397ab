/-
  The law AutoAgree: the walk.
-/
import Derived.Test.YtpkmddagcfjadaaDoorAuStart
import Derived.Test.YtpkmddagcfjadaaDoorAuDeliv2
import Derived.Test.YtpkmddagcfjadaaDoorAuBools
import Derived.Deep.Cut
namespace Go.Proofs.YtpkmddagcfjadaaDoor
open Go.RowKit
set_option maxRecDepth 100000
set_option maxHeartbeats 8000000
set_option linter.unusedSimpArgs false
set_option linter.unusedVariables false

def moreB (r s : Nat) : Bool := if ag s r = [] then true else decide (r < 2) && decide (r < 1 + min s 1)
theorem more_all : ∀ r, r < 3 → ∀ s, s < 3 → moreB r s = true := by decide +kernel
theorem ag_more (r s : Nat) (hr : r < 3) (hs : s < 3) (h : ag s r ≠ []) : r < 2 ∧ r < 1 + min s 1 := by
  have h2 := more_all r hr s hs
  unfold moreB at h2
  rw [if_neg h] at h2
  simpa using h2
def overB (r s : Nat) : Bool := if r ≤ 1 + min s 1 ∧ s ≤ 1 + min r 1 ∧ ag r s = [] ∧ ag s r = [] then decide (r = 2) && decide (s = 2) else true
theorem over_all : ∀ r, r < 3 → ∀ s, s < 3 → overB r s = true := by decide +kernel
theorem ag_over (r s : Nat) (hr : r < 3) (hs : s < 3) (h1 : r ≤ 1 + min s 1) (h2 : s ≤ 1 + min r 1) (h3 : ag r s = []) (h4 : ag s r = []) : r = 2 ∧ s = 2 := by
  have h := over_all r hr s hs
  unfold overB at h
  rw [if_pos ⟨h1, h2, h3, h4⟩] at h
  simpa using h
theorem DJ.forms {w W : World} {base p q : Nat} {mp mq : Int} {r s : Nat} {vin vout : Value} (h : DJ w W base p q mp mq r s vin vout) : (∃ A m c, vin = .slice A m c ∧ m = (ag s r).length) ∧ (∃ A m c, vout = .slice A m c ∧ m = (ag r s).length) := by
  obtain ⟨cp, cq, h1, h2, h3, h4, h5, h6, h7, h8, h9⟩ := h
  exact ⟨h5.form, h6.form⟩
theorem ag_len (r s : Nat) : (ag r s).length ≤ 2 := by
  unfold ag
  rw [List.length_drop, List.length_take]
  simp
  omega
theorem max_bounds (x : Int) : 1 ≤ wrap64 (1 + (wrap64 (x.tmod 255 + 255)).tmod 255) ∧ wrap64 (1 + (wrap64 (x.tmod 255 + 255)).tmod 255) ≤ 255 := by
  have h1 : -255 < x.tmod 255 := Int.lt_tmod_of_pos x (by omega)
  have h2 : x.tmod 255 < 255 := Int.tmod_lt_of_pos x (by omega)
  have e1 : wrap64 (x.tmod 255 + 255) = x.tmod 255 + 255 := IntWalk.wrap64_in _ (by omega)
  rw [e1]
  have h3 : (x.tmod 255 + 255).tmod 255 < 255 := Int.tmod_lt_of_pos _ (by omega)
  have h4 : 0 ≤ (x.tmod 255 + 255).tmod 255 := Int.tmod_nonneg _ (by omega)
  have e2 : wrap64 (1 + (x.tmod 255 + 255).tmod 255) = 1 + (x.tmod 255 + 255).tmod 255 := IntWalk.wrap64_in _ (by omega)
  rw [e2]
  omega
theorem autoagree_walk (x y : Int) (A : Option Addr) (n cap : Nat) (f : Nat → Bool) (w : World) (hx : -9223372036854775808 ≤ x ∧ x ≤ 9223372036854775807) (hy : -9223372036854775808 ≤ y ∧ y ≤ 9223372036854775807) (hr : RdQ w w.heap.size A n f) (hn : n ≤ 140737488351232) (hT : TabA w) (hNm : TabN w) (hC : TabC w) :
    Calls Tryd.prog 10 #[.int .i64 x, .int .i64 y, .slice A n cap] w fun e w' => e = .returned (.bool true) ∧ Below w.heap.size w w' := by
  have HR := Lib.hid hr
  have HT := Lib.hid hT
  have HN := Lib.hid hNm
  have HC := Lib.hid hC
  obtain ⟨x1, x2⟩ := hx
  obtain ⟨y1, y2⟩ := hy
  clear hr hT hNm hC
  go_enter Tryd.func10, Tryd.ntmps10
  go_upto_region 3 with (fail)
  have mb := max_bounds x
  have ob := max_bounds y
  obtain ⟨mx, hmx⟩ : ∃ m, wrap64 (1 + (wrap64 (x.tmod 255 + 255)).tmod 255) = m := ⟨_, rfl⟩
  obtain ⟨mo, hmo⟩ : ∃ m, wrap64 (1 + (wrap64 (y.tmod 255 + 255)).tmod 255) = m := ⟨_, rfl⟩
  rw [hmx] at mb
  rw [hmo] at ob
  rw [hmx, hmo]
  clear hmx hmo
  have NW := Lib.hid (new_yes mx 1 w mb (by omega))
  have MW : Hid (∀ W, Calls Tryd.prog 26 #[.int .i64 mo, .int .i64 1] W fun r w' => r = .returned (.pointer (some ⟨W.heap.size, 0, none⟩)) ∧ AuB w' W.heap.size 0 0 mo 1 ∧ Below W.heap.size W w') := fun W => new_yes mo 1 W ob (by omega)
  have M0 : Hid (0 ≤ mx ∧ mx ≤ 255) := ⟨by omega, mb.2⟩
  have O0 : Hid (0 ≤ mo ∧ mo ≤ 255) := ⟨by omega, ob.2⟩
  clear mb ob
  go_wp2_with (first
    | (go_at_call 26; ((with_reducible refine NW.out.mono ?_); rintro e w1 ⟨rfl, ha, hb⟩; have A1 := Lib.hid ha; have B1 := Lib.hid hb; clear ha hb NW))
    | (go_at_call 26; ((with_reducible refine (MW.out _).mono ?_); rintro e w2 ⟨rfl, ha, hb⟩; have A2 := Lib.hid ha; have B2 := Lib.hid hb; clear ha hb MW)))
  have lt1 : w.heap.size < w1.heap.size := A1.out.lt
  have lt2 : w1.heap.size < w2.heap.size := A2.out.lt
  have hal : Below w2.heap.size w2 (w2.alloc (.cells #[.int .i64 2, .int .i64 0] 3)) := (Below.refl _ _).alloc (Nat.le_refl _) _
  have S0 : Hid (SJ w (w2.alloc (.cells #[.int .i64 2, .int .i64 0] 3)) w2.heap.size w.heap.size w1.heap.size mx mo 0 (.slice none 0 0) (.slice none 0 0)) :=
    ⟨0, 0, Blk.below (Blk.below A1.out B2.out lt1) hal (by omega), Blk.below A2.out hal lt2, by omega, by omega, QI.nil _ _, QI.nil _ _, .inl rfl, .inl rfl, (B1.out.trans (B2.out.mono B1.out.size)).trans (hal.mono (by omega)), blk_new w2 _ _⟩
  clear A1 A2 B1 B2 hal
  go_loopw [45, 9, 10] (fun i vb va wr => ∃ j : Nat, j ≤ 2 ∧ i = .int .i64 j ∧ SJ w wr w2.heap.size w.heap.size w1.heap.size mx mo j vb va) (fun i _ _ _ => 2 - (intOf i).toNat)
  case atStart => exact ⟨0, by omega, rfl, S0.out⟩
  case round =>
    rename_i wr
    obtain ⟨j, hj2, rfl, hs⟩ := hrel
    by_cases hlt : j < 2
    · have hcell : wr.cell? ⟨w2.heap.size, j, none⟩ = some (.int .i64 (e0 j)) := by
        obtain ⟨_, _, _, _, _, _, _, _, _, _, _, xo⟩ := hs
        rw [xo.cell]
        have : j = 0 ∨ j = 1 := by omega
        rcases this with rfl | rfl <;> rfl
      have hgh : w.heap.size ≠ w1.heap.size := by omega
      have D := Lib.hid (hs.step hlt (Nat.le_refl _) (Nat.le_of_lt lt1) (by omega) lt2 hgh HT.out HC.out M0.out O0.out)
      obtain ⟨ev, hev⟩ : ∃ ev, e0 j = ev := ⟨_, rfl⟩
      rw [hev] at hcell D
      obtain ⟨Ab, mb, cb, rfl, -⟩ := (show ∃ A m c, _ = Value.slice A m c ∧ m = (q0 j).length from by obtain ⟨_, _, _, _, _, _, x5, _⟩ := hs; exact x5.form)
      obtain ⟨Aa, ma, ca, rfl, -⟩ := (show ∃ A m c, _ = Value.slice A m c ∧ m = (q0 j).length from by obtain ⟨_, _, _, _, _, _, _, x6, _⟩ := hs; exact x6.form)
      clear hs hev S0
      go_wp2_with (first
        | (go_at_call 33; ((with_reducible refine (D.out).mono ?_); rintro e w3 ⟨A3, m3, c3, rfl, d2⟩; have D2 := Lib.hid d2; clear d2))
        | (go_at_call 33; ((with_reducible refine (D2.out).mono ?_); rintro e w4 ⟨A4, m4, c4, rfl, d3⟩; have D3 := Lib.hid d3; clear d3))
        | (go_at_call 22; ((with_reducible refine (D3.out).mono ?_); rintro e w5 ⟨A5, m5, c5, rfl, vB', w6, r5, d4⟩; have R5 := Lib.hid r5; have D4 := Lib.hid d4; clear d4 r5))
        | (at_builtin; refine wpList_appR 22 22 rfl (.tmp 67) (.tmp 69) rfl _ _ rfl rfl _ _ R5.out ?_)
        | (go_at_call 22; ((with_reducible refine (D4.out).mono ?_); rintro e w7 ⟨A7, m7, c7, rfl, vA', w8, r7, d5⟩; have R7 := Lib.hid r7; have D5 := Lib.hid d5; clear d5 r7))
        | (at_builtin; refine wpList_appR 22 22 rfl (.tmp 71) (.tmp 73) rfl _ _ rfl rfl _ _ R7.out ?_))
      go_roundw
      case rel => exact ⟨j + 1, by omega, by go_num, D5.out⟩
      case measure => simp [intOf]; omega
    · have hbs0 : w2.heap.size + 1 ≤ wr.heap.size := by
        obtain ⟨_, _, _, _, _, _, _, _, _, _, _, xo⟩ := hs
        exact xo.lt
      have hje : j = 2 := by omega
      rw [hje] at hs
      have J0 := Lib.hid hs.done
      clear hs S0 hje
      go_wp2
      go_loopw [17, 9, 10] (fun i vb va wr => ∃ ra rb : Nat, ra ≤ 2 ∧ rb ≤ 2 ∧ ra ≤ 1 + min rb 1 ∧ rb ≤ 1 + min ra 1 ∧ i = .int .i64 ((ra + rb : Nat) : Int) ∧ DJ w wr (w2.heap.size + 1) w.heap.size w1.heap.size mx mo ra rb va vb ∧ w2.heap.size + 1 ≤ wr.heap.size) (fun i _ _ _ => 20 - (intOf i).toNat)
      case atStart => exact ⟨0, 0, by omega, by omega, by omega, by omega, rfl, J0.out, hbs0⟩
      case round =>
        rename_i wr
        obtain ⟨ra, rb, hra, hrb, hab, hba, rfl, hdj, hbs⟩ := hrel
        obtain ⟨k, hk⟩ : ∃ k, ra + rb = k := ⟨_, rfl⟩
        rw [hk]
        have hk4 : k ≤ 4 := by omega
        have HK := Lib.hid hk
        clear hk J0
        have HF : (k < n ∧ ∃ b off, A = some ⟨b, off, none⟩ ∧ wr.cell? ⟨b, off + k, none⟩ = some (.bool true)) ∨ (k < n ∧ ∃ b off, A = some ⟨b, off, none⟩ ∧ wr.cell? ⟨b, off + k, none⟩ = some (.bool false)) ∨ ¬ k < n := by
          by_cases hkn : k < n
          · have hw : Below w.heap.size w wr := by obtain ⟨_, _, _, _, _, _, _, _, _, _, x⟩ := hdj; exact x
            obtain ⟨b, off, e, _, hc⟩ := (HR.out.below hw (Nat.le_refl _)) (by omega)
            have h := hc k hkn
            cases hf : f k
            · exact .inr (.inl ⟨hkn, b, off, e, by rw [h, hf]⟩)
            · exact .inl ⟨hkn, b, off, e, by rw [h, hf]⟩
          · exact .inr (.inr hkn)
        by_cases hB : ag ra rb = []
        · by_cases hA : ag rb ra = []
          · clear HF
            obtain ⟨rfl, rfl⟩ := ag_over ra rb (by omega) (by omega) (by omega) (by omega) hB hA
            have hw : Below w.heap.size w wr := by obtain ⟨_, _, _, _, _, _, _, _, _, _, x⟩ := hdj; exact x
            have AW : Hid (Calls Tryd.prog 21 #[] wr fun e w' => e = .returned (.bool true) ∧ Below w.heap.size w w') := by
              refine (awake_any wr (HT.out.keptB hw HT.out.lt) (HN.out.keptB hw HN.out.lt)).mono ?_
              rintro e w7 ⟨rfl, b7⟩
              exact ⟨rfl, hw.trans (b7.mono hw.size)⟩
            obtain ⟨ca, cb, y1, y2, _, _, y5, y6, _, _, _⟩ := hdj
            have SA : Hid (Calls Tryd.prog 34 #[.pointer (some ⟨w.heap.size, 0, none⟩)] wr fun r w' => r = .returned (.int .i64 9) ∧ wr = w') := state_any _ _ _ _ _ wr y1
            have SB : Hid (Calls Tryd.prog 34 #[.pointer (some ⟨w1.heap.size, 0, none⟩)] wr fun r w' => r = .returned (.int .i64 9) ∧ wr = w') := state_any _ _ _ _ _ wr y2
            obtain ⟨Aa, ma, c1, rfl, hma⟩ := y5.form
            obtain ⟨Ab, mb, c2, rfl, hmb⟩ := y6.form
            obtain rfl : ma = 0 := by rw [hma, hA]; rfl
            obtain rfl : mb = 0 := by rw [hmb, hB]; rfl
            clear y1 y2 y5 y6 hma hmb hA hB hw
            go_wp2_with (first
              | (go_at_call 34; ((with_reducible refine (SA.out).mono ?_); rintro e w' ⟨rfl, rfl⟩))
              | (go_at_call 34; ((with_reducible refine (SB.out).mono ?_); rintro e w' ⟨rfl, rfl⟩))
              | (go_at_call 21; ((with_reducible refine (AW.out).mono ?_); rintro e w7 ⟨rfl, b7⟩; have B7 := Lib.hid b7; clear b7)))
            go_ret
            exact ⟨rfl, B7.out⟩
          · rcases HF with ⟨hkn, bq, oq, rfl, hq⟩ | ⟨hkn, bq, oq, rfl, hq⟩ | hkn
            all_goals
              obtain ⟨hr2, hr1⟩ := ag_more (ra) (rb) (by omega) (by omega) hA
              obtain ⟨gq, off, capq, nq, hvq, hcell, hcapq, hnq, d1⟩ := deliver2 hdj hr2 (by omega) hr1 (by omega) (by omega) (by omega) (by omega) hbs (Nat.le_refl _) HT.out HC.out M0.out
              obtain ⟨Ao, mo2, co, hvo, hmo2⟩ := hdj.forms.2
              subst hvo
              subst hvq
              obtain rfl : mo2 = 0 := by rw [hmo2, hB]; rfl
              have EV := Lib.hid (event_any ra hr2)
              obtain ⟨code, hcode⟩ : ∃ code : Int, ((ra + 1 : Nat) : Int) = code := ⟨_, rfl⟩
              obtain ⟨ev, hev⟩ : ∃ ev, agV ra = ev := ⟨_, rfl⟩
              rw [hcode] at hcell EV
              rw [hev] at d1 EV
              have BD : Hid (ra + 1 ≤ 2 ∧ ra + 1 ≤ 1 + min rb 1 ∧ rb ≤ 1 + min (ra + 1) 1) := ⟨by omega, by omega, by omega⟩
              clear hcode hev hdj hmo2 hA hB hr1 hr2
              rcases d1 with ⟨rfl, rfl, d1⟩ | ⟨hcap1, d1⟩
              · unfold DoneJ at d1
                have D1 := Lib.hid d1
                clear d1
                go_wp2_with (first
                  | (go_at_call 37; ((with_reducible refine (EV.out _).mono ?_); rintro e w' ⟨rfl, rfl⟩))
                  | (go_at_call 33; ((with_reducible refine (D1.out).mono ?_); rintro e w3 ⟨A3, m3, c3, rfl, d2⟩; have D2 := Lib.hid d2; clear d2))
                  | (go_at_call 22; ((with_reducible refine (D2.out).mono ?_); rintro e w4 ⟨A4, m4, c4, rfl, v', w5, hrun, hsz, hnx⟩; have RUN := Lib.hid hrun; have NX := Lib.hid hnx; clear hrun hnx))
                  | (at_builtin; refine wpList_appR 22 22 rfl (.tmp 139) (.tmp 141) rfl _ _ rfl rfl _ _ RUN.out ?_))
                go_roundw
                case rel => exact ⟨ra + 1, rb, by have := BD.out; omega, by have := BD.out; omega, by have := BD.out; omega, by have := BD.out; omega, by rw [← HK.out]; go_num, NX.out, hsz⟩
                case measure => simp [intOf]; omega
              · unfold DoneJ at d1
                have D1 := Lib.hid d1
                have tcap : (capq == 1) = false := by simpa using hcap1
                have hcap2 : 2 ≤ capq := by omega
                clear d1
                go_wp2_with (first
                  | (go_at_call 37; ((with_reducible refine (EV.out _).mono ?_); rintro e w' ⟨rfl, rfl⟩))
                  | (go_at_call 33; ((with_reducible refine (D1.out).mono ?_); rintro e w3 ⟨A3, m3, c3, rfl, d2⟩; have D2 := Lib.hid d2; clear d2))
                  | (go_at_call 22; ((with_reducible refine (D2.out).mono ?_); rintro e w4 ⟨A4, m4, c4, rfl, v', w5, hrun, hsz, hnx⟩; have RUN := Lib.hid hrun; have NX := Lib.hid hnx; clear hrun hnx))
                  | (at_builtin; refine wpList_appR 22 22 rfl (.tmp 139) (.tmp 141) rfl _ _ rfl rfl _ _ RUN.out ?_))
                go_roundw
                case rel => exact ⟨ra + 1, rb, by have := BD.out; omega, by have := BD.out; omega, by have := BD.out; omega, by have := BD.out; omega, by rw [← HK.out]; go_num, NX.out, hsz⟩
                case measure => simp [intOf]; omega
        · by_cases hA : ag rb ra = []
          · rcases HF with ⟨hkn, bq, oq, rfl, hq⟩ | ⟨hkn, bq, oq, rfl, hq⟩ | hkn
            all_goals
              obtain ⟨hr2, hr1⟩ := ag_more (rb) (ra) (by omega) (by omega) hB
              obtain ⟨gq, off, capq, nq, hvq, hcell, hcapq, hnq, d1⟩ := deliver2 hdj.swap hr2 (by omega) hr1 (by omega) (by omega) (by omega) (by omega) hbs (Nat.le_of_lt lt1) HT.out HC.out O0.out
              obtain ⟨Ao, mo2, co, hvo, hmo2⟩ := hdj.forms.1
              subst hvo
              subst hvq
              obtain rfl : mo2 = 0 := by rw [hmo2, hA]; rfl
              have EV := Lib.hid (event_any rb hr2)
              obtain ⟨code, hcode⟩ : ∃ code : Int, ((rb + 1 : Nat) : Int) = code := ⟨_, rfl⟩
              obtain ⟨ev, hev⟩ : ∃ ev, agV rb = ev := ⟨_, rfl⟩
              rw [hcode] at hcell EV
              rw [hev] at d1 EV
              have BD : Hid (rb + 1 ≤ 2 ∧ rb + 1 ≤ 1 + min ra 1 ∧ ra ≤ 1 + min (rb + 1) 1) := ⟨by omega, by omega, by omega⟩
              clear hcode hev hdj hmo2 hA hB hr1 hr2
              rcases d1 with ⟨rfl, rfl, d1⟩ | ⟨hcap1, d1⟩
              · unfold DoneJ at d1
                have D1 := Lib.hid d1
                clear d1
                go_wp2_with (first
                  | (go_at_call 37; ((with_reducible refine (EV.out _).mono ?_); rintro e w' ⟨rfl, rfl⟩))
                  | (go_at_call 33; ((with_reducible refine (D1.out).mono ?_); rintro e w3 ⟨A3, m3, c3, rfl, d2⟩; have D2 := Lib.hid d2; clear d2))
                  | (go_at_call 22; ((with_reducible refine (D2.out).mono ?_); rintro e w4 ⟨A4, m4, c4, rfl, v', w5, hrun, hsz, hnx⟩; have RUN := Lib.hid hrun; have NX := Lib.hid hnx; clear hrun hnx))
                  | (at_builtin; refine wpList_appR 22 22 rfl (.tmp 122) (.tmp 124) rfl _ _ rfl rfl _ _ RUN.out ?_))
                go_roundw
                case rel => exact ⟨ra, rb + 1, by have := BD.out; omega, by have := BD.out; omega, by have := BD.out; omega, by have := BD.out; omega, by rw [← HK.out]; go_num, NX.out.swap, hsz⟩
                case measure => simp [intOf]; omega
              · unfold DoneJ at d1
                have D1 := Lib.hid d1
                have tcap : (capq == 1) = false := by simpa using hcap1
                have hcap2 : 2 ≤ capq := by omega
                clear d1
                go_wp2_with (first
                  | (go_at_call 37; ((with_reducible refine (EV.out _).mono ?_); rintro e w' ⟨rfl, rfl⟩))
                  | (go_at_call 33; ((with_reducible refine (D1.out).mono ?_); rintro e w3 ⟨A3, m3, c3, rfl, d2⟩; have D2 := Lib.hid d2; clear d2))
                  | (go_at_call 22; ((with_reducible refine (D2.out).mono ?_); rintro e w4 ⟨A4, m4, c4, rfl, v', w5, hrun, hsz, hnx⟩; have RUN := Lib.hid hrun; have NX := Lib.hid hnx; clear hrun hnx))
                  | (at_builtin; refine wpList_appR 22 22 rfl (.tmp 122) (.tmp 124) rfl _ _ rfl rfl _ _ RUN.out ?_))
                go_roundw
                case rel => exact ⟨ra, rb + 1, by have := BD.out; omega, by have := BD.out; omega, by have := BD.out; omega, by have := BD.out; omega, by rw [← HK.out]; go_num, NX.out.swap, hsz⟩
                case measure => simp [intOf]; omega
          · rcases HF with ⟨hkn, bq, oq, rfl, hq⟩ | HF
            · obtain ⟨hr2, hr1⟩ := ag_more (rb) (ra) (by omega) (by omega) hB
              obtain ⟨gq, off, capq, nq, hvq, hcell, hcapq, hnq, d1⟩ := deliver2 hdj.swap hr2 (by omega) hr1 (by omega) (by omega) (by omega) (by omega) hbs (Nat.le_of_lt lt1) HT.out HC.out O0.out
              obtain ⟨Ao, mo2, co, hvo, hmo2⟩ := hdj.forms.1
              subst hvo
              subst hvq
              have hmo3 : 0 < mo2 := by rw [hmo2]; exact List.length_pos_iff.2 hA
              have hmo4 : mo2 ≤ 2 := by rw [hmo2]; exact ag_len _ _
              have EV := Lib.hid (event_any rb hr2)
              obtain ⟨code, hcode⟩ : ∃ code : Int, ((rb + 1 : Nat) : Int) = code := ⟨_, rfl⟩
              obtain ⟨ev, hev⟩ : ∃ ev, agV rb = ev := ⟨_, rfl⟩
              rw [hcode] at hcell EV
              rw [hev] at d1 EV
              have BD : Hid (rb + 1 ≤ 2 ∧ rb + 1 ≤ 1 + min ra 1 ∧ ra ≤ 1 + min (rb + 1) 1) := ⟨by omega, by omega, by omega⟩
              clear hcode hev hdj hmo2 hA hB hr1 hr2
              rcases d1 with ⟨rfl, rfl, d1⟩ | ⟨hcap1, d1⟩
              · unfold DoneJ at d1
                have D1 := Lib.hid d1
                clear d1
                go_wp2_with (first
                  | (go_at_call 37; ((with_reducible refine (EV.out _).mono ?_); rintro e w' ⟨rfl, rfl⟩))
                  | (go_at_call 33; ((with_reducible refine (D1.out).mono ?_); rintro e w3 ⟨A3, m3, c3, rfl, d2⟩; have D2 := Lib.hid d2; clear d2))
                  | (go_at_call 22; ((with_reducible refine (D2.out).mono ?_); rintro e w4 ⟨A4, m4, c4, rfl, v', w5, hrun, hsz, hnx⟩; have RUN := Lib.hid hrun; have NX := Lib.hid hnx; clear hrun hnx))
                  | (at_builtin; refine wpList_appR 22 22 rfl (.tmp 122) (.tmp 124) rfl _ _ rfl rfl _ _ RUN.out ?_))
                go_roundw
                case rel => exact ⟨ra, rb + 1, by have := BD.out; omega, by have := BD.out; omega, by have := BD.out; omega, by have := BD.out; omega, by rw [← HK.out]; go_num, NX.out.swap, hsz⟩
                case measure => simp [intOf]; omega
              · unfold DoneJ at d1
                have D1 := Lib.hid d1
                have tcap : (capq == 1) = false := by simpa using hcap1
                have hcap2 : 2 ≤ capq := by omega
                clear d1
                go_wp2_with (first
                  | (go_at_call 37; ((with_reducible refine (EV.out _).mono ?_); rintro e w' ⟨rfl, rfl⟩))
                  | (go_at_call 33; ((with_reducible refine (D1.out).mono ?_); rintro e w3 ⟨A3, m3, c3, rfl, d2⟩; have D2 := Lib.hid d2; clear d2))
                  | (go_at_call 22; ((with_reducible refine (D2.out).mono ?_); rintro e w4 ⟨A4, m4, c4, rfl, v', w5, hrun, hsz, hnx⟩; have RUN := Lib.hid hrun; have NX := Lib.hid hnx; clear hrun hnx))
                  | (at_builtin; refine wpList_appR 22 22 rfl (.tmp 122) (.tmp 124) rfl _ _ rfl rfl _ _ RUN.out ?_))
                go_roundw
                case rel => exact ⟨ra, rb + 1, by have := BD.out; omega, by have := BD.out; omega, by have := BD.out; omega, by have := BD.out; omega, by rw [← HK.out]; go_num, NX.out.swap, hsz⟩
                case measure => simp [intOf]; omega
            · rcases HF with ⟨hkn, bq, oq, rfl, hq⟩ | hkn
              all_goals
                obtain ⟨hr2, hr1⟩ := ag_more (ra) (rb) (by omega) (by omega) hA
                obtain ⟨gq, off, capq, nq, hvq, hcell, hcapq, hnq, d1⟩ := deliver2 hdj hr2 (by omega) hr1 (by omega) (by omega) (by omega) (by omega) hbs (Nat.le_refl _) HT.out HC.out M0.out
                obtain ⟨Ao, mo2, co, hvo, hmo2⟩ := hdj.forms.2
                subst hvo
                subst hvq
                have hmo3 : 0 < mo2 := by rw [hmo2]; exact List.length_pos_iff.2 hB
                have hmo4 : mo2 ≤ 2 := by rw [hmo2]; exact ag_len _ _
                have EV := Lib.hid (event_any ra hr2)
                obtain ⟨code, hcode⟩ : ∃ code : Int, ((ra + 1 : Nat) : Int) = code := ⟨_, rfl⟩
                obtain ⟨ev, hev⟩ : ∃ ev, agV ra = ev := ⟨_, rfl⟩
                rw [hcode] at hcell EV
                rw [hev] at d1 EV
                have BD : Hid (ra + 1 ≤ 2 ∧ ra + 1 ≤ 1 + min rb 1 ∧ rb ≤ 1 + min (ra + 1) 1) := ⟨by omega, by omega, by omega⟩
                clear hcode hev hdj hmo2 hA hB hr1 hr2
                rcases d1 with ⟨rfl, rfl, d1⟩ | ⟨hcap1, d1⟩
                · unfold DoneJ at d1
                  have D1 := Lib.hid d1
                  clear d1
                  go_wp2_with (first
                    | (go_at_call 37; ((with_reducible refine (EV.out _).mono ?_); rintro e w' ⟨rfl, rfl⟩))
                    | (go_at_call 33; ((with_reducible refine (D1.out).mono ?_); rintro e w3 ⟨A3, m3, c3, rfl, d2⟩; have D2 := Lib.hid d2; clear d2))
                    | (go_at_call 22; ((with_reducible refine (D2.out).mono ?_); rintro e w4 ⟨A4, m4, c4, rfl, v', w5, hrun, hsz, hnx⟩; have RUN := Lib.hid hrun; have NX := Lib.hid hnx; clear hrun hnx))
                    | (at_builtin; refine wpList_appR 22 22 rfl (.tmp 139) (.tmp 141) rfl _ _ rfl rfl _ _ RUN.out ?_))
                  go_roundw
                  case rel => exact ⟨ra + 1, rb, by have := BD.out; omega, by have := BD.out; omega, by have := BD.out; omega, by have := BD.out; omega, by rw [← HK.out]; go_num, NX.out, hsz⟩
                  case measure => simp [intOf]; omega
                · unfold DoneJ at d1
                  have D1 := Lib.hid d1
                  have tcap : (capq == 1) = false := by simpa using hcap1
                  have hcap2 : 2 ≤ capq := by omega
                  clear d1
                  go_wp2_with (first
                    | (go_at_call 37; ((with_reducible refine (EV.out _).mono ?_); rintro e w' ⟨rfl, rfl⟩))
                    | (go_at_call 33; ((with_reducible refine (D1.out).mono ?_); rintro e w3 ⟨A3, m3, c3, rfl, d2⟩; have D2 := Lib.hid d2; clear d2))
                    | (go_at_call 22; ((with_reducible refine (D2.out).mono ?_); rintro e w4 ⟨A4, m4, c4, rfl, v', w5, hrun, hsz, hnx⟩; have RUN := Lib.hid hrun; have NX := Lib.hid hnx; clear hrun hnx))
                    | (at_builtin; refine wpList_appR 22 22 rfl (.tmp 139) (.tmp 141) rfl _ _ rfl rfl _ _ RUN.out ?_))
                  go_roundw
                  case rel => exact ⟨ra + 1, rb, by have := BD.out; omega, by have := BD.out; omega, by have := BD.out; omega, by have := BD.out; omega, by rw [← HK.out]; go_num, NX.out, hsz⟩
                  case measure => simp [intOf]; omega
end Go.Proofs.YtpkmddagcfjadaaDoor
