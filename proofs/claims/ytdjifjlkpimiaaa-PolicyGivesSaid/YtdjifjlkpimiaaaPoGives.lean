/-
  PolicyGives.
-/
import Derived.Test.YtdjifjlkpimiaaaPoLaw
import Derived.Test.YtdjifjlkpimiaaaPoGvM
namespace Go.Proofs.Ytdjifjlkpimiaaa
open Go.RowKit
set_option maxRecDepth 100000
set_option maxHeartbeats 8000000
set_option linter.unusedSimpArgs false
set_option linter.unusedVariables false

def GvI (w W : World) (z g : Nat) (cv : Array Value) (mf : Int) (pe dm : Bool) (k : Int) (nw failed : Int) (asked ran : Bool) : Prop :=
  ∃ x, PoI w W z g cv x k ∧ GvJ x failed asked ran ∧ x.now = nw ∧ x.mf = mf ∧ x.per = pe ∧ x.dem = dm ∧ failed ≤ k
/-- what the law knows of a round behind its call -/
structure GvB (s : Int) (mf : Int) (pe dm : Bool) (asked0 ran : Bool) (failed1 : Int) (y : PoS) (kd : Int) (l : List Int) : Prop where
  ok : gvA kd dm pe (s, asked0, ran) l
  over : kd = 5 → s = 2 → 0 < mf → failed1 + 1 ≤ mf ∧ (failed1 + 1 = mf → y.st = 5)
  len : l.length ≤ 2
theorem PoA.at {w W3 W V : World} {z g p : Nat} {cv : Array Value} {y : PoS} {k' kk bb : Int} {m : Bool} {A : Option Addr} {n c : Nat} {l : List Int} {il se ho mf : Int} {pe dm : Bool} (h : PoA w W3 W z g p cv y k' kk bb m A n c l) (hc : ConfP cv il se ho mf pe dm) (hb : Below W.heap.size W V) :
    (V.cell? ⟨p, 0, none⟩ = some (.int .i64 kk) ∧ V.cell? ⟨p, 1, none⟩ = some (.int .i64 bb) ∧ V.cell? ⟨p, 2, none⟩ = some (.bool m)) ∧ (V.cell? ⟨z, 28, none⟩ = some (.bool pe) ∧ V.cell? ⟨z, 29, none⟩ = some (.bool dm) ∧ V.cell? ⟨z, 30, none⟩ = some (.int .i64 mf)) ∧
    RdI V W.heap.size A n l ∧ PoI w V z g cv y k' := by
  have hI := h.i.later hb
  have cc := conf_cells hI.row hc
  have hp : p < W.heap.size := World.block_lt_of_cell? _ _ h.op0
  exact ⟨⟨(hb.cell (p := ⟨p, 0, none⟩) hp).trans h.op0, (hb.cell (p := ⟨p, 1, none⟩) hp).trans h.op1, (hb.cell (p := ⟨p, 2, none⟩) hp).trans h.op2⟩, cc.2.2.2, h.rd.below hb (Nat.le_refl _), hI⟩
theorem asks_kd (k : Int) (m : Bool) : asksB k m = decide (kdO k m = 1 ∨ kdO k m = 2) := by
  unfold asksB kdO pkK
  by_cases h1 : k = 1
  · subst h1
    cases m <;> simp
  · rw [if_neg h1]
    by_cases h2 : k = 2
    · subst h2
      simp
    · have a : (k == 2) = false := by simpa using h2
      have b : (k == 1) = false := by simpa using h1
      rw [a, b]
      split <;> simp <;> omega
theorem kd_five (k : Int) (m : Bool) : kdO k m = 5 ↔ k = 5 := by
  unfold kdO pkK
  repeat' split
  all_goals omega
theorem kd_two (k : Int) (m : Bool) : kdO k m = 2 ↔ k = 2 := by
  unfold kdO pkK
  repeat' split
  all_goals omega
theorem policygives_walk (cv : Array Value) (il se ho mf : Int) (pe dm : Bool) (A : Option Addr) (n c : Nat) (f : Nat → Int × Int × Bool) (w : World) (hc : ConfP cv il se ho mf pe dm) (hr : PoOps w w.heap.size A n f) (hn : n ≤ 5864062014634) :
    Calls Try.prog 5 #[.agg cv, .slice A n c] w fun e w' => e = .returned (.bool true) ∧ Below w.heap.size w w' := by
  obtain ⟨W1, hW1⟩ : ∃ W1, w.alloc (.cells cv 25) = W1 := ⟨_, rfl⟩
  have k1 : Blk W1 w.heap.size 25 cv.toList := by rw [← hW1]; exact blk_new w _ _
  have B1 : Below w.heap.size w W1 := by rw [← hW1]; exact (Below.refl _ _).alloc (Nat.le_refl _) _
  have s1 : W1.heap.size = w.heap.size + 1 := by rw [← hW1]; simp
  obtain ⟨z, hz⟩ : ∃ z, w.heap.size = z := ⟨_, rfl⟩
  have HN := Lib.hid (poNew_any cv il se ho mf pe dm W1 hc)
  have IC : Hid ((Try.prog.info? 25).map (·.size) = some cv.size) := by show _ = _; rw [hc.1]; exact infoC
  have HK := Lib.hid k1
  have HR1 := Lib.hid (conf_row k1)
  have HB1 := Lib.hid B1
  have HS1 := Lib.hid s1
  have HW := Lib.hid hW1
  have HC := Lib.hid hc
  have HR := Lib.hid hr
  have HZ := Lib.hid hz
  clear k1 B1 s1 hW1 hc hr
  rw [hz] at HR1
  cases hok : okN il se ho mf with
  | false =>
    have HO := Lib.hid hok
    clear hok
    go_enter Try.func5, Try.ntmps5
    go_upto_region 1 with (fail)
    rw [HW.out]
    clear HW hz
    go_wp2_with (first | ((with_reducible refine step_conf (.tmp 2) z cv HR1.out IC.out ?_ rfl rfl ?_); rotate_left; rfl) | (go_at_call 8; ((with_reducible refine HN.out.mono ?_); rintro e w2 ⟨hb, hno, _⟩; obtain rfl := hno HO.out; have HB2 := Lib.hid (bto HB1.out hb); clear hb hno)) | (go_at_call 10; refine (awake28 _).mono ?_; rintro e w3 ⟨rfl, h3⟩; have H3 := Lib.hid (bto HB2.out h3); clear h3))
    go_ret
    exact ⟨rfl, H3.out⟩
  | true =>
    have HO := Lib.hid hok
    clear hok
    go_enter Try.func5, Try.ntmps5
    go_upto_region 1 with (fail)
    rw [HW.out]
    clear HW hz
    go_wp2_with (first | ((with_reducible refine step_conf (.tmp 2) z cv HR1.out IC.out ?_ rfl rfl ?_); rotate_left; rfl) | (go_at_call 8; ((with_reducible refine HN.out.mono ?_); rintro e w2 ⟨hb, hno, hyes⟩; obtain ⟨g, rfl, hg, hx⟩ := hyes HO.out; have HB2 := Lib.hid (bto HB1.out hb); have HJ0 : Hid (GvI w w2 z g cv mf pe dm 0 0 0 false false) := ⟨poNew il se ho mf pe dm, ⟨bto HB1.out hb, by rw [← HZ.out]; exact Blk.below HK.out hb HK.out.lt, by rw [HZ.out]; exact Nat.le_refl _, by have := HS1.out; omega, by have := HS1.out; have := HZ.out; omega, hx, poNew_ok HO.out, by simp [poNew]⟩, ⟨⟨fun _ => rfl, fun _ _ h => by cases h⟩, ⟨by omega, by simp [poNew], fun h _ => h⟩⟩, rfl, rfl, rfl, rfl, by omega⟩; clear hb hx hyes hg hno)))
    clear HN HR1 HK IC HS1 HB1
    go_loopw [7, 8, 9, 10, 31] (fun s7 s8 s9 s10 i wr => ∃ (k : Nat) (nw failed : Int) (asked ran : Bool), k ≤ n ∧ s7 = .int .i64 nw ∧ s8 = .int .i64 failed ∧ s9 = .bool asked ∧ s10 = .bool ran ∧ i = .int .i64 k ∧ Hid (GvI w wr z g cv mf pe dm k nw failed asked ran)) (fun _ _ _ _ i _ => n - (intOf i).toNat)
    case atStart => exact ⟨0, 0, 0, false, false, Nat.zero_le _, rfl, rfl, rfl, rfl, rfl, HJ0⟩
    case round =>
      obtain ⟨k, nw, failed, asked, ran, hk, rfl, rfl, rfl, rfl, rfl, HJ⟩ := hrel
      have HBr : Hid (Below w.heap.size w wr) := by
        obtain ⟨x, hI, _⟩ := HJ.out
        exact hI.bl
      by_cases hlt : k < n
      · by_cases h300 : k < 300
        · obtain ⟨b, off, rfl, hb, hcell⟩ := HR.out (by omega)
          obtain ⟨c0, c1, c2, q0, q1⟩ := hcell k hlt
          have d0 : wr.cell? ⟨b, off + k * 3, none⟩ = some (.int .i64 (f k).1) := (HBr.out.cell (p := ⟨b, off + k * 3, none⟩) hb).trans c0
          have d1 : wr.cell? ⟨b, off + k * 3 + 1, none⟩ = some (.int .i64 (f k).2.1) := (HBr.out.cell (p := ⟨b, off + k * 3 + 1, none⟩) hb).trans c1
          have d2 : wr.cell? ⟨b, off + k * 3 + 2, none⟩ = some (.bool (f k).2.2) := (HBr.out.cell (p := ⟨b, off + k * 3 + 2, none⟩) hb).trans c2
          clear c0 c1 c2 hcell
          generalize (f k).1 = kk at d0 q0
          generalize (f k).2.1 = bb at d1 q1
          generalize (f k).2.2 = m at d2
          obtain ⟨x, hI, hJ, e1, e2, e3, e4, hfk⟩ := HJ.out
          have h5 := hI.now
          have hx0 := hI.ok.now
          have hf0 := hJ.c.lo
          have SO : Hid (∀ W, Calls Try.prog 15 #[.int .i64 bb, .int .i64 5000] W fun e w' => ∃ v, e = .returned (.int .i64 v) ∧ (0 ≤ v ∧ v ≤ 5000) ∧ W = w') := fun W => some_any bb 5000 W q1 (by omega)
          have nb : 0 ≤ nw ∧ nw ≤ 5000 * 299 := by omega
          obtain ⟨nb0, nb1⟩ := nb
          have nb2 : nw ≤ 5000 * (k : Int) := by omega
          obtain ⟨s, hs⟩ : ∃ s, x.st = s := ⟨_, rfl⟩
          have hsb := hI.ok.st
          rw [hs] at hsb
          obtain ⟨sb0, sb1⟩ := hsb
          have S1 : Hid (Calls Try.prog 16 #[.pointer (some ⟨g, 0, none⟩)] (wr.alloc (.cells #[.int .i64 kk, .int .i64 bb, .bool m] 36)) fun e w' => e = .returned (.int .i64 s) ∧ (wr.alloc (.cells #[.int .i64 kk, .int .i64 bb, .bool m] 36)) = w') := by
            rw [← hs]
            exact poMState_any g x _ (hI.pb.alloc _)
          obtain ⟨failed1, hfl⟩ : ∃ q, (if kdO kk m = 2 then (0 : Int) else failed) = q := ⟨_, rfl⟩
          obtain ⟨asked0, has⟩ : ∃ q, ((if kdO kk m = 5 ∧ x.st = 3 then false else asked) || decide (kdO kk m = 1 ∨ kdO kk m = 2)) = q := ⟨_, rfl⟩
          have f1b : 0 ≤ failed1 ∧ failed1 ≤ 300 := by rw [← hfl]; split <;> omega
          obtain ⟨f1b0, f1b1⟩ := f1b
          have LC : Hid (∀ t, nw ≤ t → t ≤ 5000 * (k + 1) → Calls Try.prog 11 #[.pointer (some ⟨g, 0, none⟩), .agg #[.int .i64 kk, .int .i64 bb, .bool m], .int .i64 t] (wr.alloc (.cells #[.int .i64 kk, .int .i64 bb, .bool m] 36)) fun e w2 =>
              ∃ y A n c l, e = .returned (.tuple #[.slice A n c, .int .i64 0]) ∧ Hid (PoA w (wr.alloc (.cells #[.int .i64 kk, .int .i64 bb, .bool m] 36)) w2 z g wr.heap.size cv y (k + 1 : Nat) kk bb m A n c l) ∧ Hid (GvB s mf pe dm asked0 ran failed1 y (kdO kk m) l) ∧
                Hid (∀ W' failed' asked' ran', Below w2.heap.size w2 W' → failed' = (if y.st = 3 then 0 else if kk = 5 ∧ s = 2 then failed1 + 1 else failed1) → asked' = (gvF (kdO kk m) (s, asked0, ran) l).2.1 → ran' = (if y.st = 3 then true else (gvF (kdO kk m) (s, asked0, ran) l).2.2) → GvI w W' z g cv mf pe dm (k + 1 : Nat) t failed' asked' ran')) := by
            show ∀ t, _ → _ → _
            intro t ht1 ht2
            have hbad : poBad t x = false := decide_eq_false (by omega)
            have hst := gv_step (kd := kdO kk m) (t := t) hI.ok hbad hJ (by omega) has.symm hfl.symm
            rw [e2, e3, e4, hs] at hst
            obtain ⟨t1, t2, t3, t4⟩ := hst
            have hn := (tm_step (k := kdO kk m) (t := t) (began := x.ran) (last := x.us) (ended := -1) hI.ok ⟨fun _ => ⟨rfl, rfl⟩, by omega, fun h => absurd h (by omega)⟩ hbad).2.2.2.2.1
            refine (law_call kk bb t m hI hbad (by push_cast; omega)).mono ?_
            rintro e w2 ⟨A2, m2, c2, rfl, hA⟩
            refine ⟨_, A2, m2, c2, _, rfl, hA, ⟨t1, t2, by have a := poSetL_len (poAt x t); have b := poDoL_len (kdO kk m) (poSet (poAt x t)); unfold poStepL; rw [List.length_append]; omega⟩, ?_⟩
            show ∀ W' failed' asked' ran', _ → _ → _ → _ → _
            intro W' failed' asked' ran' hW q1 q2 q3
            obtain ⟨a1, a2, a3, a4, a5, a6⟩ := t4
            have k5 := kd_five kk m
            refine ⟨_, hA.i.later hW, ?_, hn, a6.trans e2, a2.trans e3, a1.trans e4, ?_⟩
            · rw [q1, q2, q3]
              by_cases hk5 : kk = 5
              · rw [k5.2 hk5] at t3 ⊢
                rw [hk5]
                exact t3
              · have hk5' : ¬ kdO kk m = 5 := fun h => hk5 (k5.1 h)
                rw [if_neg (fun h => hk5' h.1 : ¬ (kdO kk m = 5 ∧ s = 2))] at t3
                rw [if_neg (fun h => hk5 h.1 : ¬ (kk = 5 ∧ s = 2))]
                exact t3
            · rw [q1]
              have : failed1 ≤ k := by rw [← hfl]; split <;> omega
              push_cast
              repeat' split
              all_goals omega
          have HS := Lib.hid hs
          have HFL : Hid (kk = 2 ∧ failed1 = 0 ∨ kk ≠ 2 ∧ failed1 = failed) := by
            show _ ∨ _
            rw [← hfl]
            by_cases h2 : kk = 2
            · exact .inl ⟨h2, if_pos ((kd_two kk m).2 h2)⟩
            · exact .inr ⟨h2, if_neg (fun h => h2 ((kd_two kk m).1 h))⟩
          have HAS : Hid (asked0 = ((if kk = 5 ∧ s = 3 then false else asked) || asksB kk m)) := by
            show _ = _
            rw [← has, ← hs, asks_kd]
            have k5 := kd_five kk m
            by_cases hk5 : kk = 5
            · rw [k5.2 hk5, hk5]
            · rw [if_neg (fun h => hk5 (k5.1 h.1) : ¬ (kdO kk m = 5 ∧ x.st = 3)), if_neg (fun h => hk5 h.1 : ¬ (kk = 5 ∧ x.st = 3))]
          have AK : Hid (∀ W, Calls Try.prog 17 #[.agg #[.int .i64 kk, .int .i64 bb, .bool m]] W fun e w' => e = .returned (.bool (asksB kk m)) ∧ Below W.heap.size W w') := fun W => asks_any kk bb m W
          obtain ⟨ak, hak⟩ : ∃ q, asksB kk m = q := ⟨_, rfl⟩
          rw [hak] at AK HAS
          have HAK := Lib.hid hak
          clear hI hJ e1 e2 e3 e4 h5 hx0 hs HJ q0 q1 hfl has hak
          go_upto_region 13 with (fail)
          go_upto_region 14 with (go_at_call 15; refine (SO.out _).mono ?_; rintro e w' ⟨v, rfl, ⟨v0, v1⟩, rfl⟩)
          obtain ⟨t, ht⟩ : ∃ t, nw + v = t := ⟨_, rfl⟩
          rw [ht]
          have ht1 : nw ≤ t := by omega
          have ht2 : t ≤ 5000 * ((k : Int) + 1) := by omega
          have ht3 : 0 ≤ t ∧ t ≤ 1500000 := by omega
          obtain ⟨tb0, tb1⟩ := ht3
          clear ht v0 v1
          go_upto_region 16 with (first | (go_at_call 16; ((with_reducible refine S1.out.mono ?_); rintro e w' ⟨rfl, rfl⟩)) | (go_at_call 11; refine (LC.out t ht1 ht2).mono ?_; rintro e w2 ⟨y, A2, m2, c2, l, rfl, PA, TA, TN⟩))
          have hlen := PA.out.rd.1
          have HL := Lib.hid hlen
          have hm2 : m2 ≤ 2 := by have := TA.out.len; omega
          obtain ⟨⟨o0, o1, o2⟩, -, -, -⟩ := PA.out.at HC.out (Below.refl _ _)
          clear LC S1 SO nb1 nb2 ht1 ht2 hlen
          obtain ⟨asked1, ha1⟩ : ∃ q, (if kk = 5 ∧ s = 3 then false else asked) = q := ⟨_, rfl⟩
          rw [ha1] at HAS
          have HA1 := Lib.hid ha1
          clear ha1
          have PA0 := PA
          have TA0 := TA
          have TN0 := TN
          clear PA TA TN
          go_upto_if 61 with (fail)
          go_cut [8] from 59 to 61 (fun u W => u = .int .i64 failed1 ∧ w2 = W)
          case first =>
            have hfl := HFL.out
            clear PA0 TA0 TN0 HFL HAS HL HA1
            rcases hfl with ⟨rfl, rfl⟩ | ⟨k2, rfl⟩
            · go_wp2_with (fail)
              go_meet
              exact ⟨rfl, rfl⟩
            · have t2 : (kk == 2) = false := by simpa using k2
              clear k2
              go_wp2_with (fail)
              go_meet
              exact ⟨rfl, rfl⟩
          obtain ⟨rfl, rfl⟩ := hcut
          go_upto_region 20 with (fail)
          obtain ⟨c68, hc68⟩ : ∃ q : Bool, decide (kk = 5 ∧ s = 3) = q := ⟨_, rfl⟩
          have HC68 := Lib.hid hc68
          clear hc68
          go_cut [68] from 62 to 67 (fun u W => u = .bool c68 ∧ w2 = W)
          case first =>
            have hq := HC68.out
            clear PA0 TA0 TN0 HFL HAS HL HA1
            by_cases k5 : kk = 5
            · subst k5
              by_cases h3 : s = 3
              · have ts : (s == 3) = true := by simpa using h3
                have e := Lib.hid (hq.symm.trans (decide_eq_true ⟨rfl, h3⟩))
                clear hq h3
                go_wp2_with (fail)
                go_meet
                exact ⟨by rw [e.out], rfl⟩
              · have ts : (s == 3) = false := by simpa using h3
                have e := Lib.hid (hq.symm.trans (decide_eq_false (fun h => h3 h.2)))
                clear hq h3
                go_wp2_with (fail)
                go_meet
                exact ⟨by rw [e.out], rfl⟩
            · have t5 : (kk == 5) = false := by simpa using k5
              have e := Lib.hid (hq.symm.trans (decide_eq_false (fun h => k5 h.1)))
              clear hq k5
              go_wp2_with (fail)
              go_meet
              exact ⟨by rw [e.out], rfl⟩
          obtain ⟨rfl, rfl⟩ := hcut
          go_upto_if 68 with (fail)
          go_cut [9] from 68 to 68 (fun u W => u = .bool asked1 ∧ w2 = W)
          case first =>
            have ha1 := HA1.out
            have hq := HC68.out
            clear PA0 TA0 TN0 HFL HAS HL HA1
            cases c68 with
            | true =>
              have e : Hid (asked1 = false) := by show _ = _; rw [← ha1, if_pos (of_decide_eq_true hq)]
              clear ha1 hq
              go_wp2_with (fail)
              go_meet
              exact ⟨by rw [e.out], rfl⟩
            | false =>
              have e : Hid (asked1 = asked) := by show _ = _; rw [← ha1, if_neg (of_decide_eq_false hq)]
              clear ha1 hq
              go_wp2_with (fail)
              go_meet
              exact ⟨by rw [e.out], rfl⟩
          obtain ⟨rfl, rfl⟩ := hcut
          clear HC68
          go_upto_region 22 with (fail)
          go_cut [9] from 69 to 73 (fun u W => u = .bool asked0 ∧ Hid (Below w2.heap.size w2 W))
          case first =>
            have has := HAS.out
            have BR0 : Hid (Below w2.heap.size w2 w2) := Below.refl _ _
            clear PA0 TA0 TN0 HFL HAS HL HA1
            cases asked1 with
            | true =>
              have e := Lib.hid (has.trans (Bool.true_or ak))
              clear has
              go_wp2_with (fail)
              go_meet
              exact ⟨by rw [e.out], BR0.out⟩
            | false =>
              have e := Lib.hid (has.trans (Bool.false_or ak))
              clear has
              go_wp2_with (go_at_call 17; refine (AK.out _).mono ?_; rintro e w3 ⟨rfl, h3⟩; have BR := Lib.hid h3; clear h3)
              go_meet
              exact ⟨by rw [e.out], BR.out⟩
          case rest =>
            have PA := PA0
            have TA := TA0
            have TN := TN0
            clear PA0 TA0 TN0 HA1
            obtain ⟨rfl, HB3⟩ := hcut
            clear o0 o1 o2 HFL HAS
            have a0 : Hid (gvF (kdO kk m) (s, asked0, ran) (l.take 0) = (s, asked0, ran)) := rfl
            obtain ⟨W5, hW5⟩ : ∃ W5, W5 = wr := ⟨_, rfl⟩
            subst hW5
            go_wp2
            go_loopw [9, 10, 16, 77] (fun s9 s10 s16 i wq => ∃ (j : Nat) (at' : Int) (as' rn' : Bool), j ≤ m2 ∧ s16 = .int .i64 at' ∧ s9 = .bool as' ∧ s10 = .bool rn' ∧ i = .int .i64 j ∧ Hid (gvF (kdO kk m) (s, asked0, ran) (l.take j) = (at', as', rn')) ∧ Hid (Below w2.heap.size w2 wq)) (fun _ _ _ i _ => m2 - (intOf i).toNat)
            case atStart => exact ⟨0, _, _, _, Nat.zero_le _, rfl, rfl, rfl, rfl, a0, HB3⟩
            case round =>
              obtain ⟨j, at', as', rn', hj, rfl, rfl, rfl, rfl, HG, HBq⟩ := hrel
              by_cases hjl : j < m2
              · obtain ⟨⟨o0, o1, o2⟩, ⟨g28, g29, g30⟩, hrd, hI2⟩ := PA.out.at HC.out HBq.out
                have hjl2 : j < l.length := by rw [HL.out]; exact hjl
                have hok := gvA_at l _ j TA.out.ok hjl2
                have hst := gvF_step (kd := kdO kk m) (s, asked0, ran) l j hjl2
                rw [HG.out] at hok hst
                obtain ⟨q, qo, hA, _, hcl⟩ := hrd.2 (by omega)
                have z0 : wr.cell? ⟨q, qo + j, none⟩ = some (.int .i64 (numAt l j)) := hcl j hjl
                subst hA
                generalize numAt l j = v at z0 hok hst
                have HST := Lib.hid hst
                clear hcl hrd hI2 hst hjl2 PA TA TN HG HL
                rcases hok with ⟨rfl, hat⟩ | ⟨rfl, q1, q2, q3⟩
                · have HE : Hid (gvF (kdO kk m) (s, asked0, ran) (l.take (j + 1)) = (4, ak, rn')) := by
                    show _ = _
                    rw [HST.out, ← HAK.out, asks_kd]
                    rfl
                  simp only at hat
                  clear HST
                  rcases hat with rfl | rfl
                  all_goals
                    go_wp2_with (go_at_call 17; refine (AK.out _).mono ?_; rintro e w3 ⟨rfl, h3⟩; have BR := Lib.hid h3; clear h3)
                    go_roundw
                    case rel => exact ⟨j + 1, 4, ak, rn', by omega, rfl, rfl, rfl, by go_num, HE, bto HBq.out BR.out⟩
                    case measure => simp [intOf]; omega
                · have HE : Hid (gvF (kdO kk m) (s, asked0, ran) (l.take (j + 1)) = (2, as', false)) := HST.out
                  simp only at q1 q2 q3
                  rw [ne_eq, kd_five] at q1
                  rw [kd_five] at q2
                  have Q3 := Lib.hid q3
                  clear HST q3
                  go_upto_region 32 with (fail)
                  go_cut [122] from 91 to 121 (fun u W => u = .bool false ∧ wr = W)
                  case first =>
                    clear HE Q3 HBq
                    by_cases k5 : kk = 5
                    · obtain ⟨x0, x5⟩ := q2 k5
                      have t0 : (at' == 0) = false := by simpa using x0
                      have t5 : (at' == 5) = false := by simpa using x5
                      subst k5
                      clear q1 q2 x0 x5
                      go_wp2_with (fail)
                      go_meet
                      exact ⟨rfl, rfl⟩
                    · have hat := q1 k5
                      have t5 : (kk == 5) = false := by simpa using k5
                      have t6 : (kk != 5) = true := by simpa using k5
                      clear q1 q2 k5
                      rcases hat with rfl | rfl | rfl
                      all_goals
                        go_wp2_with (fail)
                        go_meet
                        exact ⟨rfl, rfl⟩
                  obtain ⟨rfl, rfl⟩ := hcut
                  clear q1 q2
                  go_upto_region 34 with (fail)
                  go_cut [136] from 123 to 135 (fun u W => u = .bool false ∧ wr = W)
                  case first =>
                    have q3 := Q3.out
                    clear HE Q3 HBq
                    cases dm <;> cases pe <;> cases rn' <;> cases as'
                    case true.false.true.false => exact absurd (q3 rfl rfl rfl) (by simp)
                    all_goals
                      clear q3
                      go_wp2_with (fail)
                      go_meet
                      exact ⟨rfl, rfl⟩
                  obtain ⟨rfl, rfl⟩ := hcut
                  clear Q3
                  go_wp2
                  go_roundw
                  case rel => exact ⟨j + 1, 2, as', false, by omega, rfl, rfl, rfl, by go_num, HE, HBq⟩
                  case measure => simp [intOf]; omega
              · obtain rfl : j = m2 := by omega
                obtain ⟨⟨o0, o1, o2⟩, ⟨g28, g29, g30⟩, _, hI2⟩ := PA.out.at HC.out HBq.out
                obtain ⟨s2, hs2⟩ : ∃ s2, y.st = s2 := ⟨_, rfl⟩
                have SY : Hid (Calls Try.prog 16 #[.pointer (some ⟨g, 0, none⟩)] wr fun e w' => e = .returned (.int .i64 s2) ∧ wr = w') := by
                  rw [← hs2]
                  exact poMState_any g y _ hI2.pb
                have EG : Hid (as' = (gvF (kdO kk m) (s, asked0, ran) l).2.1 ∧ rn' = (gvF (kdO kk m) (s, asked0, ran) l).2.2) := by
                  have e := HG.out
                  rw [← HL.out, List.take_length] at e
                  rw [e]
                  exact ⟨rfl, rfl⟩
                have hov := TA.out.over
                rw [kd_five, hs2] at hov
                rw [hs2] at TN
                clear PA TA HG HL hI2 hs2
                by_cases k5 : kk = 5
                · subst k5
                  by_cases h2 : s = 2
                  · have ts : (s == 2) = true := by simpa using h2
                    by_cases hm : 0 < mf
                    · obtain ⟨w1, w2⟩ := hov rfl h2 hm
                      clear hov
                      have tle : decide (mf < failed1 + 1) = false := decide_eq_false (by omega)
                      by_cases he : failed1 + 1 = mf
                      · have h5 := w2 he
                        subst h5
                        have te : ((failed1 + 1) == mf) = true := by simpa using he
                        have HN2 := Lib.hid (TN.out wr (failed1 + 1) as' rn' HBq.out (by simp [h2]) EG.out.1 (by simpa using EG.out.2))
                        clear TN w2 w1 h2 he
                        go_wp2_with (go_at_call 16; ((with_reducible refine SY.out.mono ?_); rintro e w' ⟨rfl, rfl⟩))
                        go_roundw
                        case rel => exact ⟨k + 1, t, _, as', rn', by omega, rfl, rfl, rfl, rfl, by go_num, HN2⟩
                        case measure => simp [intOf]; omega
                      · have te : ((failed1 + 1) == mf) = false := by simpa using he
                        by_cases y3 : s2 = 3
                        · have ty : (s2 == 3) = true := by simpa using y3
                          have HN2 := Lib.hid (TN.out wr 0 as' true HBq.out (by simp [y3, h2]) EG.out.1 (by simp [y3]))
                          clear TN y3 w2 w1 h2 he
                          go_wp2_with (go_at_call 16; ((with_reducible refine SY.out.mono ?_); rintro e w' ⟨rfl, rfl⟩))
                          go_roundw
                          case rel => exact ⟨k + 1, t, 0, as', true, by omega, rfl, rfl, rfl, rfl, by go_num, HN2⟩
                          case measure => simp [intOf]; omega
                        · have ty : (s2 == 3) = false := by simpa using y3
                          have HN2 := Lib.hid (TN.out wr (failed1 + 1) as' rn' HBq.out (by simp [y3, h2]) EG.out.1 (by simp [y3]; exact EG.out.2))
                          clear TN y3 w2 w1 h2 he
                          go_wp2_with (go_at_call 16; ((with_reducible refine SY.out.mono ?_); rintro e w' ⟨rfl, rfl⟩))
                          go_roundw
                          case rel => exact ⟨k + 1, t, _, as', rn', by omega, rfl, rfl, rfl, rfl, by go_num, HN2⟩
                          case measure => simp [intOf]; omega
                    · clear hov
                      by_cases y3 : s2 = 3
                      · have ty : (s2 == 3) = true := by simpa using y3
                        have HN2 := Lib.hid (TN.out wr 0 as' true HBq.out (by simp [y3, h2]) EG.out.1 (by simp [y3]))
                        clear TN y3 h2
                        go_wp2_with (go_at_call 16; ((with_reducible refine SY.out.mono ?_); rintro e w' ⟨rfl, rfl⟩))
                        go_roundw
                        case rel => exact ⟨k + 1, t, 0, as', true, by omega, rfl, rfl, rfl, rfl, by go_num, HN2⟩
                        case measure => simp [intOf]; omega
                      · have ty : (s2 == 3) = false := by simpa using y3
                        have HN2 := Lib.hid (TN.out wr (failed1 + 1) as' rn' HBq.out (by simp [y3, h2]) EG.out.1 (by simp [y3]; exact EG.out.2))
                        clear TN y3 h2
                        go_wp2_with (go_at_call 16; ((with_reducible refine SY.out.mono ?_); rintro e w' ⟨rfl, rfl⟩))
                        go_roundw
                        case rel => exact ⟨k + 1, t, _, as', rn', by omega, rfl, rfl, rfl, rfl, by go_num, HN2⟩
                        case measure => simp [intOf]; omega
                  · have ts : (s == 2) = false := by simpa using h2
                    clear hov
                    by_cases y3 : s2 = 3
                    · have ty : (s2 == 3) = true := by simpa using y3
                      have HN2 := Lib.hid (TN.out wr 0 as' true HBq.out (by simp [y3, h2]) EG.out.1 (by simp [y3]))
                      clear TN y3 h2
                      go_wp2_with (go_at_call 16; ((with_reducible refine SY.out.mono ?_); rintro e w' ⟨rfl, rfl⟩))
                      go_roundw
                      case rel => exact ⟨k + 1, t, 0, as', true, by omega, rfl, rfl, rfl, rfl, by go_num, HN2⟩
                      case measure => simp [intOf]; omega
                    · have ty : (s2 == 3) = false := by simpa using y3
                      have HN2 := Lib.hid (TN.out wr (failed1) as' rn' HBq.out (by simp [y3, h2]) EG.out.1 (by simp [y3]; exact EG.out.2))
                      clear TN y3 h2
                      go_wp2_with (go_at_call 16; ((with_reducible refine SY.out.mono ?_); rintro e w' ⟨rfl, rfl⟩))
                      go_roundw
                      case rel => exact ⟨k + 1, t, _, as', rn', by omega, rfl, rfl, rfl, rfl, by go_num, HN2⟩
                      case measure => simp [intOf]; omega
                · have t5 : (kk == 5) = false := by simpa using k5
                  clear hov
                  by_cases y3 : s2 = 3
                  · have ty : (s2 == 3) = true := by simpa using y3
                    have HN2 := Lib.hid (TN.out wr 0 as' true HBq.out (by simp [y3, k5]) EG.out.1 (by simp [y3]))
                    clear TN y3 k5
                    go_wp2_with (go_at_call 16; ((with_reducible refine SY.out.mono ?_); rintro e w' ⟨rfl, rfl⟩))
                    go_roundw
                    case rel => exact ⟨k + 1, t, 0, as', true, by omega, rfl, rfl, rfl, rfl, by go_num, HN2⟩
                    case measure => simp [intOf]; omega
                  · have ty : (s2 == 3) = false := by simpa using y3
                    have HN2 := Lib.hid (TN.out wr (failed1) as' rn' HBq.out (by simp [y3, k5]) EG.out.1 (by simp [y3]; exact EG.out.2))
                    clear TN y3 k5
                    go_wp2_with (go_at_call 16; ((with_reducible refine SY.out.mono ?_); rintro e w' ⟨rfl, rfl⟩))
                    go_roundw
                    case rel => exact ⟨k + 1, t, _, as', rn', by omega, rfl, rfl, rfl, rfl, by go_num, HN2⟩
                    case measure => simp [intOf]; omega
        · obtain ⟨b, off, rfl, hb, hcell⟩ := HR.out (by omega)
          obtain ⟨c0, c1, c2, _⟩ := hcell k hlt
          have d0 : wr.cell? ⟨b, off + k * 3, none⟩ = some (.int .i64 (f k).1) := (HBr.out.cell (p := ⟨b, off + k * 3, none⟩) hb).trans c0
          have d1 : wr.cell? ⟨b, off + k * 3 + 1, none⟩ = some (.int .i64 (f k).2.1) := (HBr.out.cell (p := ⟨b, off + k * 3 + 1, none⟩) hb).trans c1
          have d2 : wr.cell? ⟨b, off + k * 3 + 2, none⟩ = some (.bool (f k).2.2) := (HBr.out.cell (p := ⟨b, off + k * 3 + 2, none⟩) hb).trans c2
          clear c0 c1 c2 hcell
          go_wp2_with (go_at_call 10; refine (awake28 _).mono ?_; rintro e w3 ⟨rfl, h3⟩; have H3 := Lib.hid (bto (HBr.out.alloc HBr.out.size _) h3); clear h3)
          go_ret
          exact ⟨rfl, H3.out⟩
      · obtain rfl : k = n := by omega
        go_wp2_with (go_at_call 10; refine (awake28 _).mono ?_; rintro e w3 ⟨rfl, h3⟩; have H3 := Lib.hid (bto HBr.out h3); clear h3)
        go_ret
        exact ⟨rfl, H3.out⟩
end Go.Proofs.Ytdjifjlkpimiaaa
