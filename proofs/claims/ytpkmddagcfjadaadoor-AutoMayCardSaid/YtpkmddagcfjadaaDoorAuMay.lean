/-
  The law AutoMay: the walk.
-/
import Derived.Test.YtpkmddagcfjadaaDoorAuMayM
import Derived.Deep.Cut
namespace Go.Proofs.YtpkmddagcfjadaaDoor
open Go.RowKit
set_option maxRecDepth 100000
set_option maxHeartbeats 8000000
set_option linter.unusedSimpArgs false
set_option linter.unusedVariables false

theorem ownI_shape2 {w : World} {base : Nat} {v : Value} {l : List Int} (h : OwnI w base v l) : ∃ A m c, v = .slice A m c := by
  obtain ⟨A, c, e, _⟩ := h.slice
  exact ⟨A, _, c, e⟩
theorem EndJ.sends {w W : World} {g : Nat} {mc mt s c : Int} (h : EndJ w W g mc mt s c) (hC : TabC w) (A : Option Addr) (n cap B : Nat) (l : List Int) (hr : RdI W B A n l) (hB : B ≤ W.heap.size) (hm : n ≤ 17592186044416) :
    Calls Tryd.prog 22 #[.slice A n cap] W fun e w' => ∃ A2 m2 c2, e = .returned (.slice A2 m2 c2) ∧ m2 = (snd l).length ∧ EndJ w w' g mc mt s c := by
  refine (sends_any A n cap B l W hr hB hm (hC.keptB h.2.2 hC.lt)).mono ?_
  rintro e w' ⟨v, rfl, ho, hb⟩
  obtain ⟨A2, m2, c2, rfl⟩ := ownI_shape2 ho
  exact ⟨_, _, _, rfl, ho.rd.1.1.symm, h.then_ hb⟩
def UpIs (b : Bool) (s : Int) : Prop := b = decide (s = 9)
theorem automay_walk (mc mt : Int) (A : Option Addr) (n cap : Nat) (K N : Nat → Int) (w : World) (hr : OpsAt w w.heap.size A n K N) (hn : n ≤ 8796093021952) (hT : TabA w) (hNm : TabN w) (hC : TabC w) :
    Calls Tryd.prog 8 #[.int .i64 mc, .int .i64 mt, .slice A n cap] w fun e w' => e = .returned (.bool true) ∧ Below w.heap.size w w' := by
  by_cases hok : (1 ≤ mc ∧ mc ≤ 255) ∧ (1 ≤ mt ∧ mt ≤ 255)
  · have b1 : Hid (0 ≤ mc ∧ mc ≤ 255) := ⟨by omega, hok.1.2⟩
    have b2 : Hid (0 ≤ mt ∧ mt ≤ 255) := ⟨by omega, hok.2.2⟩
    have NW := Lib.hid (new_yes mc mt w hok.1 hok.2)
    have HR := Lib.hid hr
    have HT := Lib.hid hT
    have HN := Lib.hid hNm
    have HC := Lib.hid hC
    clear hok hr hT hNm hC
    go_enter Tryd.func8, Tryd.ntmps8
    go_wp2_with (go_at_call 26; ((with_reducible refine NW.out.mono ?_); rintro e w1 ⟨rfl, ha, hb⟩; have HJ0 : Hid (EndJ w w1 w.heap.size mc mt 0 0) := ⟨ha, by omega, hb⟩; clear ha hb NW))
    go_loopw [22, 8] (fun i up wr => ∃ (k : Nat) (s c : Int) (b : Bool), k ≤ n ∧ i = .int .i64 k ∧ up = .bool b ∧ UpIs b s ∧ EndJ w wr w.heap.size mc mt s c) (fun i _ _ => n - (intOf i).toNat)
    case atStart => exact ⟨0, 0, 0, false, Nat.zero_le _, rfl, rfl, by unfold UpIs; decide, HJ0.out⟩
    case round =>
      rename_i wr
      obtain ⟨k, s, c, b0, hk, rfl, rfl, hb0, hj⟩ := hrel
      have hsz := hj.2.2.size
      have hgl := hj.1.lt
      by_cases hlt : k < n ∧ k < 1000
      · obtain ⟨hkn, hk1⟩ := hlt
        obtain ⟨b, off, rfl, hbl, hc⟩ := (HR.out.below hj.2.2 (Nat.le_refl _)) (by omega)
        obtain ⟨q1, q2, q3, q4⟩ := hc k hkn
        obtain ⟨z, hz⟩ : ∃ z, K k = z := ⟨_, rfl⟩
        obtain ⟨y, hy⟩ : ∃ y, N k = y := ⟨_, rfl⟩
        rw [hz] at q1 q3
        rw [hy] at q2 q4
        obtain ⟨WO, hWO⟩ : ∃ WO, WO = wr.alloc (.cells #[.int .i64 z, .int .i64 y] 43) := ⟨_, rfl⟩
        have hbo : Blk WO wr.heap.size 43 [.int .i64 z, .int .i64 y] := by rw [hWO]; exact blk_new wr _ _
        have HW : Hid (wr.alloc (.cells #[.int .i64 z, .int .i64 y] 43) = WO) := hWO.symm
        have HJ : Hid (EndJ w WO w.heap.size mc mt s c) := by
          show EndJ w WO w.heap.size mc mt s c
          rw [hWO]
          exact hj.alloc _
        have o0 : WO.cell? ⟨wr.heap.size, 0, none⟩ = some (.int .i64 z) := hbo.cell 0
        have o1 : WO.cell? ⟨wr.heap.size, 1, none⟩ = some (.int .i64 y) := hbo.cell 1
        have hoW : wr.heap.size < WO.heap.size := hbo.lt
        have OO : Hid (∀ w2, WO.grownBy w2 (some w.heap.size) → Blk w2 wr.heap.size 43 [.int .i64 z, .int .i64 y]) := fun w2 hg => Blk.grown hbo hg (fun e => by injection e with e; omega)
        clear hj hc hz hy hWO hbo
        by_cases h1 : z = 1
        · subst h1
          obtain ⟨ev, hev, hck, hsn⟩ := may_to s c
          obtain ⟨L, hL⟩ : ∃ L, toA s c = L := ⟨_, rfl⟩
          obtain ⟨ns, hns⟩ : ∃ ns, toS s c = ns := ⟨_, rfl⟩
          have hlen := toA_length s c
          rw [hL] at hck hsn hlen
          rw [hns] at hck hsn
          rw [← show b0 = decide (s = 9) from hb0] at hck
          have CK : Hid (chk ns ev b0 (L.drop 0) = true) := by rw [List.drop_zero]; exact hck
          have SN := Lib.hid hsn
          have EV := Lib.hid hev
          have D : Hid (Calls Tryd.prog 32 #[.pointer (some ⟨w.heap.size, 0, none⟩)] WO fun r w' => ∃ A m cc E c', r = .returned (.tuple #[.slice A m cc, .int .i64 E]) ∧ OwnI w' WO.heap.size (.slice A m cc) L ∧ EndJ w w' w.heap.size mc mt ns c' ∧ WO.grownBy w' (some w.heap.size)) := by
            refine (HJ.out.timeout (Nat.le_refl _) b1.out b2.out HT.out).mono ?_
            rintro e w2 ⟨v, rfl, ho, hj2, hg⟩
            obtain ⟨A, m, cc, rfl⟩ := ownI_shape2 ho
            rw [hL] at ho
            rw [hns] at hj2
            exact ⟨_, _, _, _, _, rfl, ho, hj2, hg⟩
          clear hev hck hsn hL hns hb0
          go_upto_region 8 with (fail)
          rw [HW.out]
          clear HW
          go_wp2_with (go_at_call 32; ((with_reducible refine D.out.mono ?_); rintro e w2 ⟨A2, m2, cc2, E2, c2, rfl, o2, j2, g2⟩; have u0 : w2.cell? ⟨wr.heap.size, 0, none⟩ = some (.int .i64 1) := (OO.out w2 g2).cell 0; have u1 : w2.cell? ⟨wr.heap.size, 1, none⟩ = some (.int .i64 y) := (OO.out w2 g2).cell 1; have O2 := Lib.hid o2.rd.1; have J2 := Lib.hid j2; clear o2 j2 g2 D OO))
          have hm2 : Hid (m2 = L.length) := O2.out.1.symm
          have hm3 : m2 ≤ 3 := by have := hm2.out; omega
          have ST := Lib.hid (state_any _ _ _ _ _ w2 J2.out.1)
          go_loop [46, 8] (fun i up => ∃ (j : Nat) (b : Bool), j ≤ m2 ∧ i = .int .i64 j ∧ up = .bool b ∧ Hid (chk ns ev b (L.drop j) = true)) (fun i _ => m2 - (intOf i).toNat)
          case atStart => exact ⟨0, b0, Nat.zero_le _, rfl, rfl, CK.out⟩
          case round =>
            obtain ⟨j, b, hjm, rfl, rfl, hck⟩ := hrel
            by_cases hlj : j < m2
            · obtain ⟨bb, off2, rfl, _, hcc⟩ := O2.out.2 (by omega)
              have hcell := hcc j hlj
              obtain ⟨x, hx⟩ : ∃ x, numAt L j = x := ⟨_, rfl⟩
              rw [hx] at hcell
              obtain ⟨p1, p2, p7, p8, p9, pn⟩ := chk_step (by have := hm2.out; omega) hck.out x hx
              have P1 := Lib.hid p1
              have P2 := Lib.hid p2
              have P7 := Lib.hid p7
              have P8 := Lib.hid p8
              have P9 := Lib.hid p9
              have PN := Lib.hid pn
              clear hcc hx p1 p2 p7 p8 p9 pn CK hck
              by_cases x1 : x = 1
              · subst x1
                have NX : Hid (chk ns ev true (L.drop (j + 1)) = true) := PN.out
                obtain rfl := P1.out rfl
                clear P1 P2 P7 P8 P9 PN
                go_wp2
                go_round
                case rel => exact ⟨j + 1, true, by omega, by go_num, rfl, NX.out⟩
                case measure => simp [intOf]; omega
              · by_cases x2 : x = 2
                · subst x2
                  have NX : Hid (chk ns ev false (L.drop (j + 1)) = true) := PN.out
                  obtain rfl := P2.out rfl
                  clear P1 P2 P7 P8 P9 PN x1
                  go_wp2
                  go_round
                  case rel => exact ⟨j + 1, false, by omega, by go_num, rfl, NX.out⟩
                  case measure => simp [intOf]; omega
                · have NX : Hid (chk ns ev b (L.drop (j + 1)) = true) := by
                    have h := PN.out
                    rw [if_neg x1, if_neg x2] at h
                    exact h
                  have t1 : (x == 1) = false := by simpa using x1
                  have t2 : (x == 2) = false := by simpa using x2
                  by_cases x7 : x = 7
                  · subst x7
                    have h67 := P7.out rfl
                    clear P1 P2 P7 P8 P9 PN x1 x2 t1 t2
                    rcases h67 with rfl | rfl
                    all_goals
                      go_wp2_with (go_at_call 34; ((with_reducible refine (ST.out).mono ?_); rintro e w' ⟨rfl, rfl⟩))
                      go_round
                      case rel => exact ⟨j + 1, b, by omega, by go_num, rfl, NX.out⟩
                      case measure => simp [intOf]; omega
                  · have t7 : (x == 7) = false := by simpa using x7
                    have t8 : (x == 8) = false := by
                      simp
                      intro h
                      have h6 := P8.out h
                      rcases EV.out with e | e <;> omega
                    have t9 : (x == 9) = false := by
                      simp
                      intro h
                      have h6 := P9.out h
                      rcases EV.out with e | e <;> omega
                    clear P1 P2 P7 P8 P9 PN x1 x2 x7
                    go_wp2
                    go_round
                    case rel => exact ⟨j + 1, b, by omega, by go_num, rfl, NX.out⟩
                    case measure => simp [intOf]; omega
            · obtain rfl : j = m2 := by omega
              have hbn : UpIs b ns := chk_end (by rw [← hm2.out]; exact hck.out)
              have SD := Lib.hid (J2.out.sends HC.out _ _ cc2 _ L O2.out (Nat.le_refl _) (by omega))
              clear hck CK
              have heb : ∀ q : Bool, (q != q) = false := by simp
              have SN2 : Hid ((snd L).length = 0 ∨ 2 ≤ ns) := by
                rcases SN.out with h | h
                · exact .inl (by rw [h]; rfl)
                · exact .inr h
              obtain ⟨sl, hsl⟩ : ∃ sl, (snd L).length = sl := ⟨_, rfl⟩
              rw [hsl] at SN2 SD
              clear hsl SN
              have arms : ns = 9 ∧ b = true ∨ (ns == 9) = false ∧ b = false := by
                have h : b = decide (ns = 9) := hbn
                by_cases h9 : ns = 9
                · exact .inl ⟨h9, by rw [h, decide_eq_true h9]⟩
                · exact .inr ⟨by simpa using h9, by rw [h, decide_eq_false h9]⟩
              have sls : sl = 0 ∨ (0 < sl ∧ ¬ ns < 2) := by
                rcases SN2.out with h | h
                · exact .inl h
                · rcases Nat.eq_zero_or_pos sl with h0 | h0
                  · exact .inl h0
                  · exact .inr ⟨h0, by omega⟩
              clear SN2
              rcases arms with ⟨rfl, rfl⟩ | ⟨t9, rfl⟩
              all_goals
                rcases sls with rfl | ⟨hsl, hns2⟩
                all_goals
                  go_wp2_with (first
                    | (go_at_call 34; ((with_reducible refine (ST.out).mono ?_); rintro e w' ⟨rfl, rfl⟩))
                    | (go_at_call 22; ((with_reducible refine (SD.out).mono ?_); rintro e w3 ⟨A3, m3, cc3, rfl, rfl, j3⟩; have J3 := Lib.hid j3; have ST3 := Lib.hid (state_any _ _ _ _ _ w3 j3.1); clear j3))
                    | (go_at_call 34; ((with_reducible refine (ST3.out).mono ?_); rintro e w' ⟨rfl, rfl⟩)))
                  go_roundw
                  case rel => exact ⟨k + 1, _, _, _, by omega, by go_num, rfl, hbn, J3.out⟩
                  case measure => simp [intOf]; omega
        · have tz : (z == 1) = false := by simpa using h1
          obtain ⟨hck, hsn⟩ := may_do s c y
          obtain ⟨L, hL⟩ : ∃ L, doA s c y = L := ⟨_, rfl⟩
          obtain ⟨ns, hns⟩ : ∃ ns, doS s c y = ns := ⟨_, rfl⟩
          have hlen := doA_length s c y
          rw [hL] at hck hsn hlen
          rw [hns] at hck hsn
          rw [← show b0 = decide (s = 9) from hb0] at hck
          have CK : Hid (chk ns y b0 (L.drop 0) = true) := by rw [List.drop_zero]; exact hck
          have SN := Lib.hid hsn
          have D : Hid (Calls Tryd.prog 33 #[.pointer (some ⟨w.heap.size, 0, none⟩), .int .i64 y] WO fun r w' => ∃ A m cc E c', r = .returned (.tuple #[.slice A m cc, .int .i64 E]) ∧ OwnI w' WO.heap.size (.slice A m cc) L ∧ EndJ w w' w.heap.size mc mt ns c' ∧ WO.grownBy w' (some w.heap.size)) := by
            refine (HJ.out.do_ (Nat.le_refl _) b1.out b2.out HT.out y).mono ?_
            rintro e w2 ⟨v, rfl, ho, hj2, hg⟩
            obtain ⟨A, m, cc, rfl⟩ := ownI_shape2 ho
            rw [hL] at ho
            rw [hns] at hj2
            exact ⟨_, _, _, _, _, rfl, ho, hj2, hg⟩
          clear hck hsn hL hns hb0 h1
          go_upto_region 8 with (fail)
          rw [HW.out]
          clear HW
          go_wp2_with (go_at_call 33; ((with_reducible refine D.out.mono ?_); rintro e w2 ⟨A2, m2, cc2, E2, c2, rfl, o2, j2, g2⟩; have u0 : w2.cell? ⟨wr.heap.size, 0, none⟩ = some (.int .i64 z) := (OO.out w2 g2).cell 0; have u1 : w2.cell? ⟨wr.heap.size, 1, none⟩ = some (.int .i64 y) := (OO.out w2 g2).cell 1; have O2 := Lib.hid o2.rd.1; have J2 := Lib.hid j2; clear o2 j2 g2 D OO))
          have hm2 : Hid (m2 = L.length) := O2.out.1.symm
          have hm3 : m2 ≤ 3 := by have := hm2.out; omega
          have ST := Lib.hid (state_any _ _ _ _ _ w2 J2.out.1)
          go_loop [46, 8] (fun i up => ∃ (j : Nat) (b : Bool), j ≤ m2 ∧ i = .int .i64 j ∧ up = .bool b ∧ Hid (chk ns y b (L.drop j) = true)) (fun i _ => m2 - (intOf i).toNat)
          case atStart => exact ⟨0, b0, Nat.zero_le _, rfl, rfl, CK.out⟩
          case round =>
            obtain ⟨j, b, hjm, rfl, rfl, hck⟩ := hrel
            by_cases hlj : j < m2
            · obtain ⟨bb, off2, rfl, _, hcc⟩ := O2.out.2 (by omega)
              have hcell := hcc j hlj
              obtain ⟨x, hx⟩ : ∃ x, numAt L j = x := ⟨_, rfl⟩
              rw [hx] at hcell
              obtain ⟨p1, p2, p7, p8, p9, pn⟩ := chk_step (by have := hm2.out; omega) hck.out x hx
              have P1 := Lib.hid p1
              have P2 := Lib.hid p2
              have P7 := Lib.hid p7
              have P8 := Lib.hid p8
              have P9 := Lib.hid p9
              have PN := Lib.hid pn
              clear hcc hx p1 p2 p7 p8 p9 pn CK hck
              by_cases x1 : x = 1
              · subst x1
                have NX : Hid (chk ns y true (L.drop (j + 1)) = true) := PN.out
                obtain rfl := P1.out rfl
                clear P1 P2 P7 P8 P9 PN
                go_wp2
                go_round
                case rel => exact ⟨j + 1, true, by omega, by go_num, rfl, NX.out⟩
                case measure => simp [intOf]; omega
              · by_cases x2 : x = 2
                · subst x2
                  have NX : Hid (chk ns y false (L.drop (j + 1)) = true) := PN.out
                  obtain rfl := P2.out rfl
                  clear P1 P2 P7 P8 P9 PN x1
                  go_wp2
                  go_round
                  case rel => exact ⟨j + 1, false, by omega, by go_num, rfl, NX.out⟩
                  case measure => simp [intOf]; omega
                · have NX : Hid (chk ns y b (L.drop (j + 1)) = true) := by
                    have h := PN.out
                    rw [if_neg x1, if_neg x2] at h
                    exact h
                  have t1 : (x == 1) = false := by simpa using x1
                  have t2 : (x == 2) = false := by simpa using x2
                  by_cases x7 : x = 7
                  · subst x7
                    have h67 := P7.out rfl
                    clear P1 P2 P7 P8 P9 PN x1 x2 t1 t2
                    rcases h67 with rfl | rfl
                    all_goals
                      go_wp2_with (go_at_call 34; ((with_reducible refine (ST.out).mono ?_); rintro e w' ⟨rfl, rfl⟩))
                      go_round
                      case rel => exact ⟨j + 1, b, by omega, by go_num, rfl, NX.out⟩
                      case measure => simp [intOf]; omega
                  · have t7 : (x == 7) = false := by simpa using x7
                    by_cases x8 : x = 8
                    · subst x8
                      have hy6 := P8.out rfl
                      subst hy6
                      clear P1 P2 P7 P8 P9 PN x1 x2 x7 t1 t2 t7
                      go_wp2
                      go_round
                      case rel => exact ⟨j + 1, b, by omega, by go_num, rfl, NX.out⟩
                      case measure => simp [intOf]; omega
                    · by_cases x9 : x = 9
                      · subst x9
                        have hy7 := P9.out rfl
                        subst hy7
                        clear P1 P2 P7 P8 P9 PN x1 x2 x7 t1 t2 t7 x8
                        go_wp2
                        go_round
                        case rel => exact ⟨j + 1, b, by omega, by go_num, rfl, NX.out⟩
                        case measure => simp [intOf]; omega
                      · have t8 : (x == 8) = false := by simpa using x8
                        have t9 : (x == 9) = false := by simpa using x9
                        clear P1 P2 P7 P8 P9 PN x1 x2 x7 x8 x9
                        go_wp2
                        go_round
                        case rel => exact ⟨j + 1, b, by omega, by go_num, rfl, NX.out⟩
                        case measure => simp [intOf]; omega
            · obtain rfl : j = m2 := by omega
              have hbn : UpIs b ns := chk_end (by rw [← hm2.out]; exact hck.out)
              have SD := Lib.hid (J2.out.sends HC.out _ _ cc2 _ L O2.out (Nat.le_refl _) (by omega))
              clear hck CK
              have heb : ∀ q : Bool, (q != q) = false := by simp
              have SN2 : Hid ((snd L).length = 0 ∨ 2 ≤ ns) := by
                rcases SN.out with h | h
                · exact .inl (by rw [h]; rfl)
                · exact .inr h
              obtain ⟨sl, hsl⟩ : ∃ sl, (snd L).length = sl := ⟨_, rfl⟩
              rw [hsl] at SN2 SD
              clear hsl SN
              have arms : ns = 9 ∧ b = true ∨ (ns == 9) = false ∧ b = false := by
                have h : b = decide (ns = 9) := hbn
                by_cases h9 : ns = 9
                · exact .inl ⟨h9, by rw [h, decide_eq_true h9]⟩
                · exact .inr ⟨by simpa using h9, by rw [h, decide_eq_false h9]⟩
              have sls : sl = 0 ∨ (0 < sl ∧ ¬ ns < 2) := by
                rcases SN2.out with h | h
                · exact .inl h
                · rcases Nat.eq_zero_or_pos sl with h0 | h0
                  · exact .inl h0
                  · exact .inr ⟨h0, by omega⟩
              clear SN2
              rcases arms with ⟨rfl, rfl⟩ | ⟨t9, rfl⟩
              all_goals
                rcases sls with rfl | ⟨hsl, hns2⟩
                all_goals
                  go_wp2_with (first
                    | (go_at_call 34; ((with_reducible refine (ST.out).mono ?_); rintro e w' ⟨rfl, rfl⟩))
                    | (go_at_call 22; ((with_reducible refine (SD.out).mono ?_); rintro e w3 ⟨A3, m3, cc3, rfl, rfl, j3⟩; have J3 := Lib.hid j3; have ST3 := Lib.hid (state_any _ _ _ _ _ w3 j3.1); clear j3))
                    | (go_at_call 34; ((with_reducible refine (ST3.out).mono ?_); rintro e w' ⟨rfl, rfl⟩)))
                  go_roundw
                  case rel => exact ⟨k + 1, _, _, _, by omega, by go_num, rfl, hbn, J3.out⟩
                  case measure => simp [intOf]; omega
      · by_cases hkn : k < n
        · obtain ⟨b, off, rfl, hbl, hc⟩ := (HR.out.below hj.2.2 (Nat.le_refl _)) (by omega)
          obtain ⟨q1, q2, q3, q4⟩ := hc k hkn
          have hk2 : ¬ k < 1000 := fun h => hlt ⟨hkn, h⟩
          have HJ := Lib.hid hj
          clear hj hc hlt
          go_wp2_with (go_at_call 21; ((with_reducible refine ((HJ.out.alloc _).awake HT.out HN.out).mono ?_); rintro e w3 ⟨rfl, hj3⟩; have HJ3 := Lib.hid hj3; clear hj3))
          go_ret
          exact ⟨rfl, HJ3.out.2.2⟩
        · have HJ := Lib.hid hj
          clear hj hlt
          go_wp2_with (go_at_call 21; ((with_reducible refine (HJ.out.awake HT.out HN.out).mono ?_); rintro e w3 ⟨rfl, hj3⟩; have HJ3 := Lib.hid hj3; clear hj3))
          go_ret
          exact ⟨rfl, HJ3.out.2.2⟩
  · have NW := Lib.hid (new_no mc mt w hok)
    have AW := Lib.hid (awake_any w hT hNm)
    clear hok hr hT hNm
    go_enter Tryd.func8, Tryd.ntmps8
    go_wp2_with (first
      | (go_at_call 26; ((with_reducible refine NW.out.mono ?_); rintro e w1 ⟨rfl, rfl⟩))
      | (go_at_call 21; ((with_reducible refine AW.out.mono ?_); rintro e w' ⟨rfl, hb⟩; have HB := Lib.hid hb; clear hb)))
    go_ret
    exact ⟨rfl, HB.out⟩
end Go.Proofs.YtpkmddagcfjadaaDoor
