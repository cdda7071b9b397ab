/-
  PolicyTimes.
-/
import Derived.Test.YtdjifjlkpimiaaaPoLaw
namespace Go.Proofs.Ytdjifjlkpimiaaa
open Go.RowKit
set_option maxRecDepth 100000
set_option maxHeartbeats 4000000
set_option linter.unusedSimpArgs false
set_option linter.unusedVariables false

/-- the law's numbers beside the policy -/
def TmI (w W : World) (z g : Nat) (cv : Array Value) (il se ho : Int) (k : Int) (nw bg la en : Int) : Prop :=
  ∃ x, PoI w W z g cv x k ∧ TmJ x bg la en ∧ x.now = nw ∧ x.idl = il ∧ x.se = se ∧ x.ho = ho ∧ (0 ≤ bg ∧ bg ≤ nw) ∧ (0 ≤ la ∧ la ≤ nw) ∧ (-1 ≤ en ∧ en ≤ nw)
/-- what the law knows of a round behind its call -/
structure TmA (il se ho t bg la en : Int) (x y : PoS) (kd : Int) (l : List Int) : Prop where
  yes : x.st = 3 → overB se il t bg la = true → l.head? = some 2 ∧ y.st ≠ 3
  no : x.st = 3 → overB se il t bg la = false → l.head? = some 2 → kd = 3
  dial : ∀ v ∈ l, v = 1 → 0 ≤ en → ho ≤ t - en
  len : l.length ≤ 2
theorem policytimes_walk (cv : Array Value) (il se ho mf : Int) (pe dm : Bool) (A : Option Addr) (n c : Nat) (f : Nat → Int × Int × Bool) (w : World) (hc : ConfP cv il se ho mf pe dm) (hr : PoOps w w.heap.size A n f) (hn : n ≤ 5864062014634) :
    Calls Try.prog 4 #[.agg cv, .slice A n c] w fun e w' => e = .returned (.bool true) ∧ Below w.heap.size w w' := by
  obtain ⟨W1, hW1⟩ : ∃ W1, w.alloc (.cells cv 25) = W1 := ⟨_, rfl⟩
  have k1 : Blk W1 w.heap.size 25 cv.toList := by rw [← hW1]; exact blk_new w _ _
  have B1 : Below w.heap.size w W1 := by rw [← hW1]; exact (Below.refl _ _).alloc (Nat.le_refl _) _
  have s1 : W1.heap.size = w.heap.size + 1 := by rw [← hW1]; simp
  obtain ⟨z, hz⟩ : ∃ z, w.heap.size = z := ⟨_, rfl⟩
  have HN := Lib.hid (poNew_any cv il se ho mf pe dm W1 hc)
  have IC : Hid ((Try.prog.info? 25).map (·.size) = some cv.size) := by show _ = _; rw [hc.1]; exact infoC
  have HK := Lib.hid k1
  have HR1 := Lib.hid (conf_row k1)
  have HB1 := Lib.hid B1
  have HS1 := Lib.hid s1
  have HW := Lib.hid hW1
  have HC := Lib.hid hc
  have HR := Lib.hid hr
  have HZ := Lib.hid hz
  clear k1 B1 s1 hW1 hc hr
  rw [hz] at HR1
  cases hok : okN il se ho mf with
  | false =>
    have HO := Lib.hid hok
    clear hok
    go_enter Try.func4, Try.ntmps4
    go_upto_region 1 with (fail)
    rw [HW.out]
    clear HW hz
    go_wp2_with (first | ((with_reducible refine step_conf (.tmp 2) z cv HR1.out IC.out ?_ rfl rfl ?_); rotate_left; rfl) | (go_at_call 8; ((with_reducible refine HN.out.mono ?_); rintro e w2 ⟨hb, hno, _⟩; obtain rfl := hno HO.out; have HB2 := Lib.hid (bto HB1.out hb); clear hb hno)) | (go_at_call 10; refine (awake28 _).mono ?_; rintro e w3 ⟨rfl, h3⟩; have H3 := Lib.hid (bto HB2.out h3); clear h3))
    go_ret
    exact ⟨rfl, H3.out⟩
  | true =>
    have HO := Lib.hid hok
    clear hok
    go_enter Try.func4, Try.ntmps4
    go_upto_region 1 with (fail)
    rw [HW.out]
    clear HW hz
    go_wp2_with (first | ((with_reducible refine step_conf (.tmp 2) z cv HR1.out IC.out ?_ rfl rfl ?_); rotate_left; rfl) | (go_at_call 8; ((with_reducible refine HN.out.mono ?_); rintro e w2 ⟨hb, hno, hyes⟩; obtain ⟨g, rfl, hg, hx⟩ := hyes HO.out; have HB2 := Lib.hid (bto HB1.out hb); have HJ0 : Hid (TmI w w2 z g cv il se ho 0 0 0 0 (-1)) := ⟨poNew il se ho mf pe dm, ⟨bto HB1.out hb, by rw [← HZ.out]; exact Blk.below HK.out hb HK.out.lt, by rw [HZ.out]; exact Nat.le_refl _, by have := HS1.out; omega, by have := HS1.out; have := HZ.out; omega, hx, poNew_ok HO.out, by simp [poNew]⟩, ⟨fun h => by simp [poNew] at h, by simp [poNew], fun h => absurd h (by omega)⟩, rfl, rfl, rfl, rfl, by omega, by omega, by omega⟩; clear hb hx hyes hg hno)))
    clear HN HR1 HK IC HS1 HB1
    go_loopw [7, 8, 9, 10, 36] (fun s7 s8 s9 s10 i wr => ∃ (k : Nat) (nw bg la en : Int), k ≤ n ∧ s7 = .int .i64 nw ∧ s8 = .int .i64 bg ∧ s9 = .int .i64 la ∧ s10 = .int .i64 en ∧ i = .int .i64 k ∧ Hid (TmI w wr z g cv il se ho k nw bg la en)) (fun _ _ _ _ i _ => n - (intOf i).toNat)
    case atStart => exact ⟨0, 0, 0, 0, -1, Nat.zero_le _, rfl, rfl, rfl, rfl, rfl, HJ0⟩
    case round =>
      obtain ⟨k, nw, bg, la, en, hk, rfl, rfl, rfl, rfl, rfl, HJ⟩ := hrel
      have HBr : Hid (Below w.heap.size w wr) := by
        obtain ⟨x, hI, _⟩ := HJ.out
        exact hI.bl
      by_cases hlt : k < n
      · by_cases h300 : k < 300
        · obtain ⟨b, off, rfl, hb, hcell⟩ := HR.out (by omega)
          obtain ⟨c0, c1, c2, q0, q1⟩ := hcell k hlt
          have d0 : wr.cell? ⟨b, off + k * 3, none⟩ = some (.int .i64 (f k).1) := (HBr.out.cell (p := ⟨b, off + k * 3, none⟩) hb).trans c0
          have d1 : wr.cell? ⟨b, off + k * 3 + 1, none⟩ = some (.int .i64 (f k).2.1) := (HBr.out.cell (p := ⟨b, off + k * 3 + 1, none⟩) hb).trans c1
          have d2 : wr.cell? ⟨b, off + k * 3 + 2, none⟩ = some (.bool (f k).2.2) := (HBr.out.cell (p := ⟨b, off + k * 3 + 2, none⟩) hb).trans c2
          clear c0 c1 c2 hcell
          generalize (f k).1 = kk at d0 q0
          generalize (f k).2.1 = bb at d1 q1
          generalize (f k).2.2 = m at d2
          obtain ⟨x, hI, hJ, e1, e2, e3, e4, ⟨b0, b1⟩, ⟨l0, l1⟩, ⟨n0, n1⟩⟩ := HJ.out
          have h5 := hI.now
          have hx0 := hI.ok.now
          have SO : Hid (∀ W, Calls Try.prog 15 #[.int .i64 bb, .int .i64 5000] W fun e w' => ∃ v, e = .returned (.int .i64 v) ∧ (0 ≤ v ∧ v ≤ 5000) ∧ W = w') := fun W => some_any bb 5000 W q1 (by omega)
          have nb : 0 ≤ nw ∧ nw ≤ 5000 * 299 := by omega
          obtain ⟨nb0, nb1⟩ := nb
          have nb2 : nw ≤ 5000 * (k : Int) := by omega
          obtain ⟨s, hs⟩ : ∃ s, x.st = s := ⟨_, rfl⟩
          have hsb := hI.ok.st
          rw [hs] at hsb
          obtain ⟨sb0, sb1⟩ := hsb
          have S1 : Hid (Calls Try.prog 16 #[.pointer (some ⟨g, 0, none⟩)] (wr.alloc (.cells #[.int .i64 kk, .int .i64 bb, .bool m] 36)) fun e w' => e = .returned (.int .i64 s) ∧ (wr.alloc (.cells #[.int .i64 kk, .int .i64 bb, .bool m] 36)) = w') := by
            rw [← hs]
            exact poMState_any g x _ (hI.pb.alloc _)
          have LC : Hid (∀ t, nw ≤ t → t ≤ 5000 * (k + 1) → Calls Try.prog 11 #[.pointer (some ⟨g, 0, none⟩), .agg #[.int .i64 kk, .int .i64 bb, .bool m], .int .i64 t] (wr.alloc (.cells #[.int .i64 kk, .int .i64 bb, .bool m] 36)) fun e w2 =>
              ∃ y A n c l, e = .returned (.tuple #[.slice A n c, .int .i64 0]) ∧ Hid (PoA w (wr.alloc (.cells #[.int .i64 kk, .int .i64 bb, .bool m] 36)) w2 z g wr.heap.size cv y (k + 1 : Nat) kk bb m A n c l) ∧ Hid (TmA il se ho t bg la en x y (kdO kk m) l) ∧
                Hid (∀ b' l' e', b' = (if kdO kk m = 4 ∧ s ≠ 3 ∧ y.st = 3 then t else bg) → l' = (if kdO kk m = 4 ∧ s ≠ 3 ∧ y.st = 3 then t else if kdO kk m = 1 ∧ s = 3 then t else la) → e' = (if kdO kk m = 5 ∧ 2 ≤ s ∧ s ≤ 4 then t else en) → TmI w w2 z g cv il se ho (k + 1 : Nat) t b' l' e')) := by
            show ∀ t, _ → _ → _
            intro t ht1 ht2
            have hbad : poBad t x = false := decide_eq_false (by omega)
            have hst := tm_step (k := kdO kk m) (t := t) hI.ok hJ hbad
            rw [e2, e3, e4, hs] at hst
            obtain ⟨t1, t2, t3, t4, t5, t6⟩ := hst
            refine (law_call kk bb t m hI hbad (by push_cast; omega)).mono ?_
            rintro e w2 ⟨A2, m2, c2, rfl, hA⟩
            refine ⟨_, A2, m2, c2, _, rfl, hA, ⟨fun h => t1 (by rw [← hs]; exact h), fun h => t2 (by rw [← hs]; exact h), t3, by have a := poSetL_len (poAt x t); have b := poDoL_len (kdO kk m) (poSet (poAt x t)); unfold poStepL; rw [List.length_append]; omega⟩, ?_⟩
            show ∀ b' l' e', _ → _ → _ → _
            intro b' l' e' q1 q2 q3
            obtain ⟨a1, a2, a3, a4, a5, a6⟩ := t6
            refine ⟨_, hA.i, by rw [q1, q2, q3]; exact t4, t5, a4.trans e2, a5.trans e3, a3.trans e4, ?_, ?_, ?_⟩
            · rw [q1]
              split <;> omega
            · rw [q2]
              repeat' split
              all_goals omega
            · rw [q3]
              split <;> omega
          have HS := Lib.hid hs
          clear hI hJ e1 e2 e3 e4 h5 hx0 hs HJ q0 q1
          go_upto_region 12 with (go_at_call 15; refine (SO.out _).mono ?_; rintro e w' ⟨v, rfl, ⟨v0, v1⟩, rfl⟩)
          obtain ⟨t, ht⟩ : ∃ t, nw + v = t := ⟨_, rfl⟩
          rw [ht]
          have ht1 : nw ≤ t := by omega
          have ht2 : t ≤ 5000 * ((k : Int) + 1) := by omega
          have ht3 : 0 ≤ t ∧ t ≤ 1500000 := by omega
          obtain ⟨tb0, tb1⟩ := ht3
          clear ht v0 v1
          go_upto_region 16 with (first | (go_at_call 16; ((with_reducible refine S1.out.mono ?_); rintro e w' ⟨rfl, rfl⟩)) | (go_at_call 11; refine (LC.out t ht1 ht2).mono ?_; rintro e w2 ⟨y, A2, m2, c2, l, rfl, PA, TA, TN⟩))
          have hcc := conf_cells PA.out.i.row HC.out
          obtain ⟨g25, g26, g27, -⟩ := hcc
          have o0 := PA.out.op0
          have o2 := PA.out.op2
          have SY : Hid (Calls Try.prog 16 #[.pointer (some ⟨g, 0, none⟩)] w2 fun e w' => e = .returned (.int .i64 y.st) ∧ w2 = w') := poMState_any g y _ PA.out.i.pb
          have bt : bg ≤ t := by omega
          have lt2 : la ≤ t := by omega
          have et : en ≤ t := by omega
          clear LC S1 SO nb1 nb2 ht1 ht2
          have OV : Hid (∀ v : Bool, (v = true ↔ (0 < se ∧ se ≤ t - bg ∨ 0 < il ∧ il ≤ t - la)) → v = overB se il t bg la) := by
            show ∀ v : Bool, _ → _
            intro v hv
            unfold overB
            cases v with
            | true => exact (decide_eq_true (hv.1 rfl)).symm
            | false => exact (decide_eq_false (fun h => by have := hv.2 h; cases this)).symm
          obtain ⟨ov, hov⟩ : ∃ ov, overB se il t bg la = ov := ⟨_, rfl⟩
          rw [hov] at OV
          have HOV := Lib.hid hov
          clear hov
          go_cut [16] from 59 to 82 (fun v W => v = .bool ov ∧ w2 = W)
          case first =>
            clear PA TA TN SY HOV
            by_cases a0 : 0 < se
            · by_cases a1 : se ≤ t - bg
              · have r := Lib.hid (OV.out true (by constructor <;> intro <;> first | rfl | (simp; omega) | omega))
                clear OV
                go_wp2_with (fail)
                go_meet
                exact ⟨by rw [← r.out], rfl⟩
              · by_cases i0 : 0 < il
                · by_cases i1 : il ≤ t - la
                  · have r := Lib.hid (OV.out true (by constructor <;> intro <;> first | rfl | omega))
                    clear OV
                    go_wp2_with (fail)
                    go_meet
                    exact ⟨by rw [← r.out], rfl⟩
                  · have r := Lib.hid (OV.out false (by constructor <;> intro <;> first | contradiction | omega))
                    clear OV
                    go_wp2_with (fail)
                    go_meet
                    exact ⟨by rw [← r.out], rfl⟩
                · have r := Lib.hid (OV.out false (by constructor <;> intro <;> first | contradiction | omega))
                  clear OV
                  go_wp2_with (fail)
                  go_meet
                  exact ⟨by rw [← r.out], rfl⟩
            · by_cases i0 : 0 < il
              · by_cases i1 : il ≤ t - la
                · have r := Lib.hid (OV.out true (by constructor <;> intro <;> first | rfl | omega))
                  clear OV
                  go_wp2_with (fail)
                  go_meet
                  exact ⟨by rw [← r.out], rfl⟩
                · have r := Lib.hid (OV.out false (by constructor <;> intro <;> first | contradiction | omega))
                  clear OV
                  go_wp2_with (fail)
                  go_meet
                  exact ⟨by rw [← r.out], rfl⟩
              · have r := Lib.hid (OV.out false (by constructor <;> intro <;> first | contradiction | omega))
                clear OV
                go_wp2_with (fail)
                go_meet
                exact ⟨by rw [← r.out], rfl⟩
          case rest =>
            obtain ⟨rfl, rfl⟩ := hcut
            have hlen := PA.out.rd.1
            have HL := Lib.hid hlen
            have HRD := Lib.hid PA.out.rd
            obtain ⟨hu, hhu⟩ : ∃ hu : Bool, (l.head? == some 2) = hu := ⟨_, rfl⟩
            have HU := Lib.hid hhu
            clear hhu hlen OV
            go_upto_region 17 with (fail)
            go_cut [17] from 83 to 91 (fun v W => v = .bool hu ∧ w2 = W)
            case first =>
              have e1 := HL.out
              have e2 := HU.out
              cases l with
              | nil =>
                obtain rfl : m2 = 0 := by simpa using e1.symm
                have r : Hid (false = hu) := by rw [← e2]; rfl
                clear e1 e2 PA TA TN SY HOV HU HL HRD
                go_wp2_with (fail)
                go_meet
                exact ⟨by rw [← r.out], rfl⟩
              | cons a0 lr =>
                have hm2 : 0 < m2 := by rw [← e1]; simp
                have r := Lib.hid (show (a0 == 2) = hu by rw [← e2]; simp)
                obtain ⟨q, qo, hA, _, hcl⟩ := HRD.out.2 hm2
                have z0 : w2.cell? ⟨q, qo + 0, none⟩ = some (.int .i64 a0) := hcl 0 hm2
                rw [Nat.add_zero] at z0
                subst hA
                clear e1 e2 PA TA TN SY HOV HU HL HRD hcl
                go_wp2_with (fail)
                go_meet
                exact ⟨by rw [← r.out], rfl⟩
            case rest =>
              obtain ⟨rfl, rfl⟩ := hcut
              obtain ⟨s2, hs2⟩ : ∃ s2, y.st = s2 := ⟨_, rfl⟩
              rw [hs2] at SY
              have HS2 := Lib.hid hs2
              clear hs2
              go_upto_region 18 with (fail)
              go_cut [117] from 92 to 117 (fun v W => v = .bool false ∧ w2 = W)
              case first =>
                by_cases h3 : s = 3
                · have hx3 : x.st = 3 := HS.out.trans h3
                  cases hv : ov with
                  | true =>
                    obtain ⟨y1, y2⟩ := TA.out.yes hx3 (HOV.out.trans hv)
                    have hut : hu = true := by rw [← HU.out, y1]; rfl
                    have ns : (s2 == 3) = false := by rw [← HS2.out]; simpa using y2
                    have ts : (s == 3) = true := by simpa using h3
                    subst hv hut
                    clear h3 hx3 y1 y2 PA TA TN HOV HU HL HRD
                    go_wp2_with (go_at_call 16; ((with_reducible refine SY.out.mono ?_); rintro e w' ⟨rfl, rfl⟩))
                    go_meet
                    exact ⟨rfl, rfl⟩
                  | false =>
                    have ts : (s == 3) = true := by simpa using h3
                    cases hw : hu with
                    | true =>
                      have k3 := TA.out.no hx3 (HOV.out.trans hv) (by have := HU.out; rw [hw] at this; simpa using this)
                      have kk3 : kk = 3 := by
                        unfold kdO pkK at k3
                        repeat' split at k3
                        all_goals omega
                      subst hv hw kk3
                      clear h3 hx3 k3 PA TA TN HOV HU HL HRD
                      go_wp2_with (go_at_call 16; ((with_reducible refine SY.out.mono ?_); rintro e w' ⟨rfl, rfl⟩))
                      go_meet
                      exact ⟨rfl, rfl⟩
                    | false =>
                      subst hv hw
                      clear h3 hx3 PA TA TN HOV HU HL HRD
                      go_wp2_with (go_at_call 16; ((with_reducible refine SY.out.mono ?_); rintro e w' ⟨rfl, rfl⟩))
                      go_meet
                      exact ⟨rfl, rfl⟩
                · have ts : (s == 3) = false := by simpa using h3
                  clear h3 PA TA TN HOV HU HL HRD
                  go_wp2_with (go_at_call 16; ((with_reducible refine SY.out.mono ?_); rintro e w' ⟨rfl, rfl⟩))
                  go_meet
                  exact ⟨rfl, rfl⟩
              case rest =>
                obtain ⟨rfl, rfl⟩ := hcut
                clear HOV HU
                have hm2 : m2 ≤ 2 := by have := TA.out.len; have := HL.out; omega
                go_wp2
                go_loop [120] (fun i => ∃ j : Nat, j ≤ m2 ∧ i = .int .i64 j) (fun i => m2 - (intOf i).toNat)
                case atStart => exact ⟨0, Nat.zero_le _, rfl⟩
                case round =>
                  obtain ⟨j, hj, rfl⟩ := hrel
                  by_cases hjl : j < m2
                  · obtain ⟨q, qo, hA, _, hcl⟩ := HRD.out.2 (by omega)
                    have z0 : w2.cell? ⟨q, qo + j, none⟩ = some (.int .i64 (numAt l j)) := hcl j hjl
                    have hd := TA.out.dial (numAt l j) (by
                      have hjl2 : j < l.length := by rw [HL.out]; exact hjl
                      rw [numAt_eq hjl2]
                      exact List.getElem_mem hjl2)
                    subst hA
                    generalize numAt l j = v at z0 hd
                    clear hcl PA TA TN
                    by_cases v1 : v = 1
                    · subst v1
                      by_cases en0 : 0 ≤ en
                      · have hd2 := hd rfl en0
                        clear hd
                        go_wp2
                        go_round
                        case rel => exact ⟨j + 1, by omega, by go_num⟩
                        case measure => simp [intOf]; omega
                      · clear hd
                        go_wp2
                        go_round
                        case rel => exact ⟨j + 1, by omega, by go_num⟩
                        case measure => simp [intOf]; omega
                    · have tv : (v == 1) = false := by simpa using v1
                      clear hd v1
                      go_wp2
                      go_round
                      case rel => exact ⟨j + 1, by omega, by go_num⟩
                      case measure => simp [intOf]; omega
                  · obtain rfl : j = m2 := by omega
                    rw [HS2.out] at TN
                    clear PA TA HRD HL hj hjl
                    by_cases k4 : kk = 4
                    · subst k4
                      have ek : kdO 4 m = 4 := rfl
                      rw [ek] at TN
                      by_cases h3 : s = 3
                      · have ts : (s != 3) = false := by simpa using h3
                        have HN2 := Lib.hid (TN.out bg la en (by simp [h3]) (by simp [h3]) (by simp [h3]))
                        clear TN h3 ek
                        go_wp2_with (go_at_call 16; ((with_reducible refine SY.out.mono ?_); rintro e w' ⟨rfl, rfl⟩))
                        go_roundw
                        case rel => exact ⟨k + 1, t, bg, la, en, by omega, rfl, rfl, rfl, rfl, by go_num, HN2⟩
                        case measure => simp [intOf]; omega
                      · have ts : (s != 3) = true := by simpa using h3
                        by_cases y3 : s2 = 3
                        · have ty : (s2 == 3) = true := by simpa using y3
                          have HN2 := Lib.hid (TN.out t t en (by simp [h3, y3]) (by simp [h3, y3]) (by simp [h3, y3]))
                          clear TN h3 y3 ek
                          go_wp2_with (go_at_call 16; ((with_reducible refine SY.out.mono ?_); rintro e w' ⟨rfl, rfl⟩))
                          go_roundw
                          case rel => exact ⟨k + 1, t, t, t, en, by omega, rfl, rfl, rfl, rfl, by go_num, HN2⟩
                          case measure => simp [intOf]; omega
                        · have ty : (s2 == 3) = false := by simpa using y3
                          have HN2 := Lib.hid (TN.out bg la en (by simp [h3, y3]) (by simp [h3, y3]) (by simp [h3, y3]))
                          clear TN h3 y3 ek
                          go_wp2_with (go_at_call 16; ((with_reducible refine SY.out.mono ?_); rintro e w' ⟨rfl, rfl⟩))
                          go_roundw
                          case rel => exact ⟨k + 1, t, bg, la, en, by omega, rfl, rfl, rfl, rfl, by go_num, HN2⟩
                          case measure => simp [intOf]; omega
                    · have t4 : (kk == 4) = false := by simpa using k4
                      by_cases k1 : kk = 1
                      · subst k1
                        cases m with
                        | true =>
                          have ek : kdO 1 true = 1 := rfl
                          rw [ek] at TN
                          by_cases h3 : s = 3
                          · have ts : (s == 3) = true := by simpa using h3
                            have HN2 := Lib.hid (TN.out bg t en (by simp [h3]) (by simp [h3]) (by simp [h3]))
                            clear TN h3 ek k4
                            go_wp2_with (go_at_call 16; ((with_reducible refine SY.out.mono ?_); rintro e w' ⟨rfl, rfl⟩))
                            go_roundw
                            case rel => exact ⟨k + 1, t, bg, t, en, by omega, rfl, rfl, rfl, rfl, by go_num, HN2⟩
                            case measure => simp [intOf]; omega
                          · have ts : (s == 3) = false := by simpa using h3
                            have HN2 := Lib.hid (TN.out bg la en (by simp [h3]) (by simp [h3]) (by simp [h3]))
                            clear TN h3 ek k4
                            go_wp2_with (go_at_call 16; ((with_reducible refine SY.out.mono ?_); rintro e w' ⟨rfl, rfl⟩))
                            go_roundw
                            case rel => exact ⟨k + 1, t, bg, la, en, by omega, rfl, rfl, rfl, rfl, by go_num, HN2⟩
                            case measure => simp [intOf]; omega
                        | false =>
                          have ek : kdO 1 false = 9 := rfl
                          rw [ek] at TN
                          have HN2 := Lib.hid (TN.out bg la en (by simp) (by simp) (by simp))
                          clear TN ek k4
                          go_wp2_with (go_at_call 16; ((with_reducible refine SY.out.mono ?_); rintro e w' ⟨rfl, rfl⟩))
                          go_roundw
                          case rel => exact ⟨k + 1, t, bg, la, en, by omega, rfl, rfl, rfl, rfl, by go_num, HN2⟩
                          case measure => simp [intOf]; omega
                      · have t1 : (kk == 1) = false := by simpa using k1
                        by_cases k5 : kk = 5
                        · subst k5
                          have ek : kdO 5 m = 5 := rfl
                          rw [ek] at TN
                          by_cases h2 : 2 ≤ s
                          · by_cases h4 : s ≤ 4
                            · have HN2 := Lib.hid (TN.out bg la t (by simp [h2, h4]) (by simp [h2, h4]) (by simp [h2, h4]))
                              clear TN ek k4 k1
                              go_wp2_with (go_at_call 16; ((with_reducible refine SY.out.mono ?_); rintro e w' ⟨rfl, rfl⟩))
                              go_roundw
                              case rel => exact ⟨k + 1, t, bg, la, t, by omega, rfl, rfl, rfl, rfl, by go_num, HN2⟩
                              case measure => simp [intOf]; omega
                            · have HN2 := Lib.hid (TN.out bg la en (by simp [h2, h4]) (by simp [h2, h4]) (by simp [h2, h4]))
                              clear TN ek k4 k1
                              go_wp2_with (go_at_call 16; ((with_reducible refine SY.out.mono ?_); rintro e w' ⟨rfl, rfl⟩))
                              go_roundw
                              case rel => exact ⟨k + 1, t, bg, la, en, by omega, rfl, rfl, rfl, rfl, by go_num, HN2⟩
                              case measure => simp [intOf]; omega
                          · have HN2 := Lib.hid (TN.out bg la en (by simp [h2]) (by simp [h2]) (by simp [h2]))
                            clear TN ek k4 k1
                            go_wp2_with (go_at_call 16; ((with_reducible refine SY.out.mono ?_); rintro e w' ⟨rfl, rfl⟩))
                            go_roundw
                            case rel => exact ⟨k + 1, t, bg, la, en, by omega, rfl, rfl, rfl, rfl, by go_num, HN2⟩
                            case measure => simp [intOf]; omega
                        · have t5 : (kk == 5) = false := by simpa using k5
                          have ek : kdO kk m ≠ 4 ∧ kdO kk m ≠ 1 ∧ kdO kk m ≠ 5 := by
                            unfold kdO
                            rw [if_neg k1]
                            split <;> omega
                          obtain ⟨x1, x2, x3⟩ := ek
                          have HN2 := Lib.hid (TN.out bg la en (by simp [x1, x2, x3]) (by simp [x1, x2, x3]) (by simp [x1, x2, x3]))
                          clear TN x1 x2 x3 k4 k1 k5
                          go_wp2_with (go_at_call 16; ((with_reducible refine SY.out.mono ?_); rintro e w' ⟨rfl, rfl⟩))
                          go_roundw
                          case rel => exact ⟨k + 1, t, bg, la, en, by omega, rfl, rfl, rfl, rfl, by go_num, HN2⟩
                          case measure => simp [intOf]; omega
        · have hc3 := HR.out
          obtain ⟨b, off, rfl, hb, hcell⟩ := HR.out (by omega)
          obtain ⟨c0, c1, c2, _⟩ := hcell k hlt
          have d0 : wr.cell? ⟨b, off + k * 3, none⟩ = some (.int .i64 (f k).1) := (HBr.out.cell (p := ⟨b, off + k * 3, none⟩) hb).trans c0
          have d1 : wr.cell? ⟨b, off + k * 3 + 1, none⟩ = some (.int .i64 (f k).2.1) := (HBr.out.cell (p := ⟨b, off + k * 3 + 1, none⟩) hb).trans c1
          have d2 : wr.cell? ⟨b, off + k * 3 + 2, none⟩ = some (.bool (f k).2.2) := (HBr.out.cell (p := ⟨b, off + k * 3 + 2, none⟩) hb).trans c2
          clear c0 c1 c2 hcell hc3
          go_wp2_with (go_at_call 10; refine (awake28 _).mono ?_; rintro e w3 ⟨rfl, h3⟩; have H3 := Lib.hid (bto (HBr.out.alloc HBr.out.size _) h3); clear h3)
          go_ret
          exact ⟨rfl, H3.out⟩
      · obtain rfl : k = n := by omega
        go_wp2_with (go_at_call 10; refine (awake28 _).mono ?_; rintro e w3 ⟨rfl, h3⟩; have H3 := Lib.hid (bto HBr.out h3); clear h3)
        go_ret
        exact ⟨rfl, H3.out⟩
end Go.Proofs.Ytdjifjlkpimiaaa
