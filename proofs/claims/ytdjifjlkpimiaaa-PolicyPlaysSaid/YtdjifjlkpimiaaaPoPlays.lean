/-
  PolicyPlays.
-/
import Derived.Test.YtdjifjlkpimiaaaPoAlike
namespace Go.Proofs.Ytdjifjlkpimiaaa
open Go.RowKit
set_option maxRecDepth 100000
set_option maxHeartbeats 8000000
set_option linter.unusedSimpArgs false
set_option linter.unusedVariables false

/-- a policy, the reference's, and the law's own copy of a call -/
structure PlQ (w W : World) (g h p : Nat) (cs : List Value) (x y : PoS) (kk bb : Int) (m : Bool) : Prop where
  bl : Below w.heap.size w W
  gw : w.heap.size ≤ g
  hw : w.heap.size ≤ h
  ne : g ≠ h
  pb : PoB W g x
  qb : RpB W h cs y
  okx : PoOk x
  oky : PoOk y
  op : Blk W p 36 [.int .i64 kk, .int .i64 bb, .bool m]
  pg : p ≠ g
  ph : p ≠ h
theorem PlQ.later {w W W' : World} {g h p : Nat} {cs : List Value} {x y : PoS} {kk bb : Int} {m : Bool} (q : PlQ w W g h p cs x y kk bb m) (hb : Below W.heap.size W W') : PlQ w W' g h p cs x y kk bb m :=
  ⟨bto q.bl hb, q.gw, q.hw, q.ne, q.pb.below hb, q.qb.below hb, q.okx, q.oky, Blk.below q.op hb q.op.lt, q.pg, q.ph⟩
theorem PlQ.stepP {w W W' : World} {g h p : Nat} {cs : List Value} {x y x' : PoS} {kk bb : Int} {m : Bool} (q : PlQ w W g h p cs x y kk bb m) (hg : W.grownBy W' (some g)) (hx : PoB W' g x') (ho : PoOk x') : PlQ w W' g h p cs x' y kk bb m :=
  ⟨bgr q.bl q.gw hg, q.gw, q.hw, q.ne, hx, q.qb.row hg (fun e => q.ne e.symm), ho, q.oky, Blk.grown q.op hg (fun e => q.pg (by injection e with e; exact e.symm)), q.pg, q.ph⟩
theorem PlQ.stepQ {w W W' : World} {g h p : Nat} {cs : List Value} {x y y' : PoS} {kk bb : Int} {m : Bool} (q : PlQ w W g h p cs x y kk bb m) (hg : W.grownBy W' (some h)) (hy : RpB W' h cs y') (ho : PoOk y') : PlQ w W' g h p cs x y' kk bb m :=
  ⟨bgr q.bl q.hw hg, q.gw, q.hw, q.ne, q.pb.row hg q.ne, hy, q.okx, ho, Blk.grown q.op hg (fun e => q.ph (by injection e with e; exact e.symm)), q.pg, q.ph⟩
theorem PlQ.cells {w W : World} {g h p : Nat} {cs : List Value} {x y : PoS} {kk bb : Int} {m : Bool} (q : PlQ w W g h p cs x y kk bb m) : W.cell? ⟨p, 0, none⟩ = some (.int .i64 kk) ∧ W.cell? ⟨p, 1, none⟩ = some (.int .i64 bb) ∧ W.cell? ⟨p, 2, none⟩ = some (.bool m) :=
  ⟨q.op.cell 0, q.op.cell 1, q.op.cell 2⟩
/-- between two calls -/
def PlI (w W : World) (g h : Nat) (cs : List Value) (nw : Int) : Prop :=
  ∃ x, Below w.heap.size w W ∧ w.heap.size ≤ g ∧ w.heap.size ≤ h ∧ g ≠ h ∧ PoB W g x ∧ RpB W h cs x ∧ PoOk x ∧ x.now = nw
theorem PlI.row {w W W' : World} {g h : Nat} {cs : List Value} {nw : Int} {v : Value} (q : PlI w W g h cs nw) (hg : W.grownBy W' v.ownBlock) (hv : ∀ i, v.ownBlock = some i → w.heap.size ≤ i ∧ i ≠ g ∧ i ≠ h) : PlI w W' g h cs nw := by
  obtain ⟨x, h1, h2, h3, h4, h5, h6, h7, h8⟩ := q
  refine ⟨x, h1.grown hg h1.size (fun k e => (hv k e).1), h2, h3, h4, ?_, ⟨?_, h6.cf⟩, h7, h8⟩
  · exact Blk.grown h5 hg (fun e => (hv g e).2.1 rfl)
  · exact Blk.grown h6.blk hg (fun e => (hv h e).2.2 rfl)
theorem policyplays_walk (cs : List Value) (il se ho mf : Int) (pe dm : Bool) (A : Option Addr) (n c : Nat) (f : Nat → Int × Int × Bool) (w : World) (hc : ConfP cs.toArray il se ho mf pe dm) (hr : PoOps w w.heap.size A n f) (hn : n ≤ 5864062014634) :
    Calls Try.prog 3 #[.agg cs.toArray, .slice A n c] w fun e w' => e = .returned (.bool true) ∧ Below w.heap.size w w' := by
  obtain ⟨W1, hW1⟩ : ∃ W1, w.alloc (.cells cs.toArray 25) = W1 := ⟨_, rfl⟩
  have k1 : Blk W1 w.heap.size 25 cs.toArray.toList := by rw [← hW1]; exact blk_new w _ _
  have B1 : Below w.heap.size w W1 := by rw [← hW1]; exact (Below.refl _ _).alloc (Nat.le_refl _) _
  have s1 : W1.heap.size = w.heap.size + 1 := by rw [← hW1]; simp
  obtain ⟨z, hz⟩ : ∃ z, w.heap.size = z := ⟨_, rfl⟩
  have hc0 := hc
  have HN : Hid True := trivial
  have IC : Hid ((Try.prog.info? 25).map (·.size) = some cs.toArray.size) := by show _ = _; rw [hc.1]; exact infoC
  have HK := Lib.hid k1
  have HR1 := Lib.hid (conf_row k1)
  have HB1 := Lib.hid B1
  have HS1 := Lib.hid s1
  have HW := Lib.hid hW1
  have HC := Lib.hid hc
  have HR := Lib.hid hr
  have HZ := Lib.hid hz
  clear k1 B1 s1 hW1 hc hr
  rw [hz] at HR1
  have HNN : Hid (∀ W, Calls Try.prog 8 #[.agg cs.toArray] W (NewR W il se ho mf pe dm)) := fun W => poNew_any cs.toArray il se ho mf pe dm W hc0
  have HNR : Hid (∀ W, Calls Try.prog 9 #[.agg cs.toArray] W (RNewR W cs il se ho mf pe dm)) := fun W => rnew_any cs il se ho mf pe dm W hc0
  clear hc0 HN
  cases hok : okN il se ho mf with
  | false =>
    have HO := Lib.hid hok
    clear hok
    go_enter Try.func3, Try.ntmps3
    go_upto_region 1 with (fail)
    rw [HW.out]
    clear HW hz
    go_upto_region 2 with (first | ((with_reducible refine step_conf (.tmp 2) z cs.toArray HR1.out IC.out ?_ rfl rfl ?_); rotate_left; rfl) | (go_at_call 8; ((with_reducible refine (HNN.out _).mono ?_); rintro e w2 ⟨hb, hno, _⟩; obtain rfl := hno HO.out; have HR2 := Lib.hid (conf_row (Blk.below HK.out hb HK.out.lt)); rw [HZ.out] at HR2; have HB2 := Lib.hid (bto HB1.out hb); clear hb hno)))
    go_wp2_with (first | ((with_reducible refine step_conf (.tmp 2) z cs.toArray HR2.out IC.out ?_ rfl rfl ?_); rotate_left; rfl) | (go_at_call 9; ((with_reducible refine (HNR.out _).mono ?_); rintro e w3 ⟨hb, hno, _⟩; obtain rfl := hno HO.out; have HB3 := Lib.hid (bto HB2.out hb); clear hb hno)) | (go_at_call 10; refine (awake28 _).mono ?_; rintro e w4 ⟨rfl, h4⟩; have H4 := Lib.hid (bto HB3.out h4); clear h4))
    go_ret
    exact ⟨rfl, H4.out⟩
  | true =>
    have HO := Lib.hid hok
    clear hok
    go_enter Try.func3, Try.ntmps3
    go_upto_region 1 with (fail)
    rw [HW.out]
    clear HW hz
    go_upto_region 2 with (first | ((with_reducible refine step_conf (.tmp 2) z cs.toArray HR1.out IC.out ?_ rfl rfl ?_); rotate_left; rfl) | (go_at_call 8; ((with_reducible refine (HNN.out _).mono ?_); rintro e w2 ⟨hb, hno, hyes⟩; obtain ⟨g, rfl, hg, hx⟩ := hyes HO.out; have HX := Lib.hid hx; have HG := Lib.hid hg; have HR2 := Lib.hid (conf_row (Blk.below HK.out hb HK.out.lt)); rw [HZ.out] at HR2; have HB2 := Lib.hid (bto HB1.out hb); clear hb hno hyes hg hx)))
    go_wp2_with (first | ((with_reducible refine step_conf (.tmp 2) z cs.toArray HR2.out IC.out ?_ rfl rfl ?_); rotate_left; rfl) | (go_at_call 9; ((with_reducible refine (HNR.out _).mono ?_); rintro e w3 ⟨hb, hno, hyes⟩; obtain ⟨h, rfl, hh, hy⟩ := hyes HO.out; have HJ0 : Hid (PlI w w3 g h cs 0) := ⟨poNew il se ho mf pe dm, bto HB2.out hb, by have := HS1.out; have := HG.out; omega, by have := HB2.out.size; omega, by have := HX.out.lt; omega, HX.out.below hb, hy, poNew_ok HO.out, rfl⟩; clear hb hno hyes hh hy)))
    clear HNN HNR HR1 HR2 HK IC HS1 HB1 HX HG
    go_loopw [9, 43] (fun s9 i wr => ∃ (k : Nat) (nw : Int), k ≤ n ∧ s9 = .int .i64 nw ∧ i = .int .i64 k ∧ Hid (PlI w wr g h cs nw)) (fun _ i _ => n - (intOf i).toNat)
    case atStart => exact ⟨0, 0, Nat.zero_le _, rfl, rfl, HJ0⟩
    case round =>
      obtain ⟨k, nw, hk, rfl, rfl, HJ⟩ := hrel
      have HBr : Hid (Below w.heap.size w wr) := by
        obtain ⟨x, hI, _⟩ := HJ.out
        exact hI
      have HEND : Hid (Calls Try.prog 14 #[.pointer (some ⟨g, 0, none⟩), .pointer (some ⟨h, 0, none⟩)] wr fun e w' => e = .returned (.bool true) ∧ Below wr.heap.size wr w') := by
        obtain ⟨x, _, _, _, _, h5, h6, h7, _⟩ := HJ.out
        exact alike_yes g h cs x wr h5 h6 h7
      by_cases hlt : k < n
      · obtain ⟨b, off, rfl, hb, hcell⟩ := HR.out (by omega)
        obtain ⟨c0, c1, c2, q0, q1⟩ := hcell k hlt
        have d0 : wr.cell? ⟨b, off + k * 3, none⟩ = some (.int .i64 (f k).1) := (HBr.out.cell (p := ⟨b, off + k * 3, none⟩) hb).trans c0
        have d1 : wr.cell? ⟨b, off + k * 3 + 1, none⟩ = some (.int .i64 (f k).2.1) := (HBr.out.cell (p := ⟨b, off + k * 3 + 1, none⟩) hb).trans c1
        have d2 : wr.cell? ⟨b, off + k * 3 + 2, none⟩ = some (.bool (f k).2.2) := (HBr.out.cell (p := ⟨b, off + k * 3 + 2, none⟩) hb).trans c2
        clear c0 c1 c2 hcell
        generalize (f k).1 = kk at d0 q0
        generalize (f k).2.1 = bb at d1 q1
        generalize (f k).2.2 = m at d2
        by_cases h400 : k < 400
        · obtain ⟨x, hbl, hgw, hhw, hne, hpb, hqb, hok, hnow⟩ := HJ.out
          have Q0 : Hid (PlQ w (wr.alloc (.cells #[.int .i64 kk, .int .i64 bb, .bool m] 36)) g h wr.heap.size cs x x kk bb m) :=
            ⟨hbl.alloc hbl.size _, hgw, hhw, hne, hpb.alloc _, hqb.alloc _, hok, hok, blk_new _ _ _, by have := hpb.lt; omega, by have := hqb.lt; omega⟩
          have HNW := Lib.hid hnow
          obtain ⟨W0, hW0⟩ : ∃ W0, wr.alloc (.cells #[.int .i64 kk, .int .i64 bb, .bool m] 36) = W0 := ⟨_, rfl⟩
          have HW0 := Lib.hid hW0
          rw [hW0] at Q0
          obtain ⟨q1a, q1b⟩ := q1
          clear hbl hgw hhw hne hpb hqb hok hnow hW0 HEND HJ q0
          go_upto_region 12 with (fail)
          rw [HW0.out]
          obtain ⟨o0, o1, o2⟩ := Q0.out.cells
          go_upto_region 13 with (fail)
          obtain ⟨c61, hc61⟩ : ∃ q : Bool, decide (1099511627776 < bb ∨ bb < -1099511627776) = q := ⟨_, rfl⟩
          have HC61 := Lib.hid hc61
          clear hc61
          go_cut [61] from 54 to 60 (fun u W => u = .bool c61 ∧ W0 = W)
          case first =>
            have hq := HC61.out
            clear Q0 HC61
            by_cases b1 : 1099511627776 < bb
            · have e := Lib.hid (hq.symm.trans (decide_eq_true (.inl b1)))
              have t1 : decide (1099511627776 < bb) = true := decide_eq_true b1
              clear hq b1
              go_wp2_with (fail)
              go_meet
              exact ⟨by rw [e.out], rfl⟩
            · have t1 : decide (1099511627776 < bb) = false := decide_eq_false b1
              by_cases b2 : bb < -1099511627776
              · have e := Lib.hid (hq.symm.trans (decide_eq_true (.inr b2)))
                have t2 : decide (bb < -1099511627776) = true := decide_eq_true b2
                clear hq b1 b2
                go_wp2_with (fail)
                go_meet
                exact ⟨by rw [e.out], rfl⟩
              · have e := Lib.hid (hq.symm.trans (decide_eq_false (fun h => h.elim b1 b2)))
                have t2 : decide (bb < -1099511627776) = false := decide_eq_false b2
                clear hq b1 b2
                go_wp2_with (fail)
                go_meet
                exact ⟨by rw [e.out], rfl⟩
          obtain ⟨rfl, rfl⟩ := hcut
          obtain ⟨t, ht⟩ : ∃ t, (if c61 then bb else wrap64 (nw + bb)) = t := ⟨_, rfl⟩
          have HT := Lib.hid ht
          clear ht
          go_upto_if 61 with (fail)
          go_cut [12] from 61 to 63 (fun u W => u = .int .i64 t ∧ W0 = W)
          case first =>
            have ht := HT.out
            clear Q0 HC61 HT
            cases c61 with
            | true =>
              have e := Lib.hid (ht.symm.trans (if_pos rfl))
              clear ht
              go_wp2_with (fail)
              go_meet
              exact ⟨by rw [e.out], rfl⟩
            | false =>
              have e := Lib.hid (ht.symm.trans (if_neg (by simp)))
              clear ht
              go_wp2_with (fail)
              go_meet
              exact ⟨by rw [e.out], rfl⟩
          obtain ⟨rfl, rfl⟩ := hcut
          clear HC61 HT
          have QX := Q0.out
          cases hbad : poBad t x with
          | true =>
            have CB : Hid (Calls Try.prog 11 #[.pointer (some ⟨g, 0, none⟩), .agg #[.int .i64 kk, .int .i64 bb, .bool m], .int .i64 t] W0 fun e w2 => e = .returned (.tuple #[.slice none 0 0, .int .i64 1]) ∧ Hid (PlQ w w2 g h wr.heap.size cs x x kk bb m) ∧ (w2.cell? ⟨wr.heap.size, 0, none⟩ = some (.int .i64 kk) ∧ w2.cell? ⟨wr.heap.size, 1, none⟩ = some (.int .i64 bb) ∧ w2.cell? ⟨wr.heap.size, 2, none⟩ = some (.bool m))) := by
              refine (call_bad g x kk bb t m W0 QX.pb hbad).mono ?_
              rintro e w2 ⟨he, hb⟩
              have hq := QX.later hb
              exact ⟨he, hq, hq.cells⟩
            have CM : Hid (∀ w2, Hid (PlQ w w2 g h wr.heap.size cs x x kk bb m) → Calls Try.prog 12 #[.pointer (some ⟨h, 0, none⟩), .agg #[.int .i64 kk, .int .i64 bb, .bool m], .int .i64 t] w2 fun e w3 => e = .returned (.tuple #[.slice none 0 0, .int .i64 1]) ∧ Hid (PlQ w w3 g h wr.heap.size cs x x kk bb m)) := by
              show ∀ w2, _ → _
              intro w2 hq
              refine (model_bad h cs x kk bb t m w2 hq.out.qb hq.out.okx hbad).mono ?_
              rintro e w3 ⟨he, hb⟩
              exact ⟨he, hq.out.later hb⟩
            clear QX hbad
            go_upto_region 17 with (first | (go_at_call 11; ((with_reducible refine CB.out.mono ?_); rintro e w2 ⟨rfl, HQ, o0, o1, o2⟩)) | (go_at_call 12; ((with_reducible refine (CM.out _ HQ).mono ?_); rintro e w3 ⟨rfl, HQ3⟩)))
            have NU := Lib.hid (numbers_yes none none 0 0 0 [] w3 0 0 RdI.nil RdI.nil (by omega))
            have AL : Hid (∀ q, Calls Try.prog 14 #[.pointer (some ⟨g, 0, none⟩), .pointer (some ⟨h, 0, none⟩)] (w3.drewN q) fun e w5 => e = .returned (.bool true) ∧ Hid (PlI w w5 g h cs nw)) := by
              show ∀ q, _
              intro q
              have hq := HQ3.out
              refine (alike_yes g h cs x (w3.drewN q) (Blk.drewN hq.pb q) (hq.qb.drewN q) hq.okx).mono ?_
              rintro e w5 ⟨he, hb⟩
              exact ⟨he, x, bto (bdrewN hq.bl q) hb, hq.gw, hq.hw, hq.ne, PoB.below (Blk.drewN hq.pb q) hb, (hq.qb.drewN q).below hb, hq.okx, HNW.out⟩
            clear CB CM HQ HQ3 o0 o1 o2 Q0
            go_wp2_with (first | (go_at_call 13; ((with_reducible refine NU.out.mono ?_); rintro e w4 ⟨rfl, q, rfl⟩)) | (go_at_call 14; ((with_reducible refine (AL.out _).mono ?_); rintro e w5 ⟨rfl, B5⟩)))
            go_loop [95] (fun i => i = .int .i64 0) (fun _ => 0)
            case atStart => rfl
            case round =>
              obtain rfl := hrel
              go_wp2
              go_roundw
              case rel => exact ⟨k + 1, nw, by omega, rfl, by go_num, B5⟩
              case measure => simp [intOf]; omega
          | false =>
            obtain ⟨l, hl⟩ : ∃ l, poStepL (kdO kk m) t x = l := ⟨_, rfl⟩
            obtain ⟨ln, hln⟩ : ∃ q, l.length = q := ⟨_, rfl⟩
            obtain ⟨x1, hx1⟩ : ∃ q, poStep (kdO kk m) t x = q := ⟨_, rfl⟩
            have hl2 : ln ≤ 2 := by
              rw [← hln, ← hl]
              have a := poSetL_len (poAt x t)
              have b := poDoL_len (kdO kk m) (poSet (poAt x t))
              unfold poStepL
              rw [List.length_append]
              omega
            have hnow : x1.now = t := by
              rw [← hx1]
              exact (tm_step (k := kdO kk m) (t := t) (began := x.ran) (last := x.us) (ended := -1) QX.okx ⟨fun _ => ⟨rfl, rfl⟩, by have := QX.okx.now; omega, fun h => absurd h (by omega)⟩ hbad).2.2.2.2.1
            have CB : Hid (Calls Try.prog 11 #[.pointer (some ⟨g, 0, none⟩), .agg #[.int .i64 kk, .int .i64 bb, .bool m], .int .i64 t] W0 fun e w2 => ∃ A c, e = .returned (.tuple #[.slice A ln c, .int .i64 0]) ∧ Hid (OwnI w2 W0.heap.size (.slice A ln c) l) ∧ Hid (PlQ w w2 g h wr.heap.size cs x1 x kk bb m) ∧ (w2.cell? ⟨wr.heap.size, 0, none⟩ = some (.int .i64 kk) ∧ w2.cell? ⟨wr.heap.size, 1, none⟩ = some (.int .i64 bb) ∧ w2.cell? ⟨wr.heap.size, 2, none⟩ = some (.bool m))) := by
              refine (call_any g x kk bb t m W0 QX.pb QX.okx hbad).mono ?_
              rintro e w2 ⟨v, rfl, ho, hy, hg⟩
              rw [hl] at ho
              rw [hx1] at hy
              obtain ⟨A, c, rfl, _⟩ := ho.slice
              have hq := QX.stepP hg hy (by rw [← hx1]; exact poStep_ok QX.okx hbad)
              rw [hln] at ho ⊢
              exact ⟨A, c, rfl, ho, hq, hq.cells⟩
            have CM : Hid (∀ w2 A c, Hid (OwnI w2 W0.heap.size (.slice A ln c) l) → Hid (PlQ w w2 g h wr.heap.size cs x1 x kk bb m) → Calls Try.prog 12 #[.pointer (some ⟨h, 0, none⟩), .agg #[.int .i64 kk, .int .i64 bb, .bool m], .int .i64 t] w2 fun e w3 => ∃ C d, e = .returned (.tuple #[.slice C ln d, .int .i64 0]) ∧ Hid (OwnI w3 W0.heap.size (.slice A ln c) l) ∧ Hid (RdI w3 w3.heap.size C ln l) ∧ Hid (PlQ w w3 g h wr.heap.size cs x1 x1 kk bb m)) := by
              show ∀ w2 A c, _ → _ → _
              intro w2 A c hA hq
              refine (model_any h cs x kk bb t m w2 hq.out.qb hq.out.oky hbad).mono ?_
              rintro e w3 ⟨v, rfl, ho, hy, hg⟩
              rw [hl] at ho
              rw [hx1] at hy
              obtain ⟨C, d, rfl, _⟩ := ho.slice
              have hq3 := hq.out.stepQ hg hy hq.out.okx
              rw [hln] at ho ⊢
              refine ⟨C, d, rfl, hA.out.grown hg ?_, ho.rd.1, hq3⟩
              rcases hob : (Value.slice A ln c).ownBlock with _ | i
              · exact .inl rfl
              · refine .inr fun e => ?_
                injection e with e
                have := (hA.out.form.2 i hob).1
                have := QX.qb.lt
                omega
            have hgs : g < W0.heap.size ∧ h < W0.heap.size ∧ w.heap.size ≤ W0.heap.size := ⟨QX.pb.lt, QX.qb.lt, QX.bl.size⟩
            have HGS := Lib.hid hgs
            have HNOW := Lib.hid hnow
            clear hl hln hx1 hnow QX hbad hgs
            go_upto_region 17 with (first | (go_at_call 11; ((with_reducible refine CB.out.mono ?_); rintro e w2 ⟨A2, c2, rfl, HA, HQ, o0, o1, o2⟩)) | (go_at_call 12; ((with_reducible refine (CM.out _ _ _ HA HQ).mono ?_); rintro e w3 ⟨C3, c3, rfl, HA3, HC3, HQ3⟩)))
            have NU := Lib.hid (numbers_yes A2 C3 ln c2 c3 l w3 _ _ HA3.out.rd.1 HC3.out (by omega))
            have AL : Hid (∀ q, Calls Try.prog 14 #[.pointer (some ⟨g, 0, none⟩), .pointer (some ⟨h, 0, none⟩)] (w3.drewN q) fun e w5 => e = .returned (.bool true) ∧ Hid (PlI w w5 g h cs t ∧ OwnI w5 W0.heap.size (.slice A2 ln c2) l)) := by
              show ∀ q, _
              intro q
              have hq := HQ3.out
              refine (alike_yes g h cs x1 (w3.drewN q) (Blk.drewN hq.pb q) (hq.qb.drewN q) hq.okx).mono ?_
              rintro e w5 ⟨he, hb⟩
              exact ⟨he, ⟨x1, bto (bdrewN hq.bl q) hb, hq.gw, hq.hw, hq.ne, PoB.below (Blk.drewN hq.pb q) hb, (hq.qb.drewN q).below hb, hq.okx, HNOW.out⟩, (HA3.out.drewN q).later hb⟩
            clear CB CM HQ HQ3 HA HA3 HC3 o0 o1 o2 Q0
            go_upto_region 19 with (first | (go_at_call 13; ((with_reducible refine NU.out.mono ?_); rintro e w4 ⟨rfl, q, rfl⟩)) | (go_at_call 14; ((with_reducible refine (AL.out _).mono ?_); rintro e w5 ⟨rfl, B5⟩)))
            -- the answer is written over
            have hP := B5.out.1
            have hO := B5.out.2
            have hvb : ∀ i, (Value.slice A2 ln c2).ownBlock = some i → w.heap.size ≤ i ∧ i ≠ g ∧ i ≠ h := by
              intro i hi
              have := (hO.form.2 i hi).1
              have := HGS.out
              omega
            have HVB := Lib.hid hvb
            have HP := Lib.hid hP
            have hsp : ∃ cs' : List Value, ln ≤ cs'.length ∧ (0 < ln → ∃ q', A2 = some ⟨q', 0, none⟩ ∧ Blk w5 q' 3 cs') := by
              rcases hO.2 with ⟨e, h0⟩ | ⟨q', cap, cur, e, hb2, hq, hcp, hm, hsz, _⟩
              · injection e with e1 e2 e3
                exact ⟨[], by simp; omega, fun h => by omega⟩
              · injection e with e1 e2 e3
                refine ⟨cur.toList, ?_, fun _ => ⟨q', e1, by unfold Blk; simpa using hq⟩⟩
                simp
                omega
            obtain ⟨cs', hcl, hcb⟩ := hsp
            have HJ5 : Hid (w5.grownBy w5 (Value.slice A2 ln c2).ownBlock ∧ ∃ cs' : List Value, ln ≤ cs'.length ∧ (0 < ln → ∃ q', A2 = some ⟨q', 0, none⟩ ∧ Blk w5 q' 3 cs')) := ⟨World.grownBy.refl _ _, cs', hcl, hcb⟩
            clear hP hO hvb hcl hcb B5 NU AL
            obtain ⟨Wr, hWr⟩ : ∃ q, q = wr := ⟨_, rfl⟩
            subst hWr
            go_wp2
            go_loopw [95] (fun i ws => ∃ j : Nat, j ≤ ln ∧ i = .int .i64 j ∧ Hid (w5.grownBy ws (Value.slice A2 ln c2).ownBlock ∧ ∃ cs' : List Value, ln ≤ cs'.length ∧ (0 < ln → ∃ q', A2 = some ⟨q', 0, none⟩ ∧ Blk ws q' 3 cs'))) (fun i _ => ln - (intOf i).toNat)
            case atStart => exact ⟨0, Nat.zero_le _, rfl, HJ5⟩
            case round =>
              obtain ⟨j, hj, rfl, HS⟩ := hrel
              by_cases hjl : j < ln
              · obtain ⟨hgr, cs', hcl, hcb⟩ := HS.out
                obtain ⟨q', rfl, hbk⟩ := hcb (by omega)
                obtain ⟨u, hu⟩ : ∃ u, cs'[j]? = some u := ⟨cs'[j]'(by omega), List.getElem?_eq_getElem (by omega)⟩
                have z0 : wr.cell? ⟨q', j, none⟩ = some u := (hbk.cell j).trans hu
                have z1 : wr.frozen? ⟨q', j, none⟩ = false := hbk.frozen j
                have HS2 : Hid (w5.grownBy (wr.setCell ⟨q', j, none⟩ (.int .i64 99)) (Value.slice (some ⟨q', 0, none⟩) ln c2).ownBlock ∧ ∃ cs'' : List Value, ln ≤ cs''.length ∧ (0 < ln → ∃ q'', (some (⟨q', 0, none⟩ : Addr)) = some ⟨q'', 0, none⟩ ∧ Blk (wr.setCell ⟨q', j, none⟩ (.int .i64 99)) q'' 3 cs'')) :=
                  ⟨gtrans' hgr (gset' _ _ _ _), cs'.set j (.int .i64 99), by rw [List.length_set]; exact hcl, fun _ => ⟨q', rfl, hbk.set_ j _⟩⟩
                clear hgr hcl hcb hbk hu HS
                go_wp2
                go_roundw
                case rel => exact ⟨j + 1, by omega, by go_num, HS2⟩
                case measure => simp [intOf]; omega
              · obtain rfl : j = ln := by omega
                have HN2 : Hid (PlI w wr g h cs t) := HP.out.row HS.out.1 HVB.out
                clear HS HP HVB
                go_wp2
                go_roundw
                case rel => exact ⟨k + 1, t, by omega, rfl, by go_num, HN2⟩
                case measure => simp [intOf]; omega
        · have HE2 : Hid (Calls Try.prog 14 #[.pointer (some ⟨g, 0, none⟩), .pointer (some ⟨h, 0, none⟩)] (wr.alloc (.cells #[.int .i64 kk, .int .i64 bb, .bool m] 36)) fun e w' => e = .returned (.bool true) ∧ Hid (Below w.heap.size w w')) := by
            obtain ⟨x, h1, _, _, _, h5, h6, h7, _⟩ := HJ.out
            exact (alike_yes g h cs x _ (h5.alloc _) (h6.alloc _) h7).mono fun e w' hh => ⟨hh.1, bto (h1.alloc h1.size _) hh.2⟩
          clear HEND HJ
          go_wp2_with (first | (go_at_call 14; ((with_reducible refine HE2.out.mono ?_); rintro e w2 ⟨rfl, B2⟩)) | (go_at_call 10; refine (awake28 _).mono ?_; rintro e w3 ⟨rfl, h3⟩; have H3 := Lib.hid (bto B2.out h3); clear h3))
          go_ret
          exact ⟨rfl, H3.out⟩
      · obtain rfl : k = n := by omega
        go_wp2_with (first | (go_at_call 14; ((with_reducible refine HEND.out.mono ?_); rintro e w2 ⟨rfl, b2⟩; have B2 := Lib.hid (bto HBr.out b2); clear b2)) | (go_at_call 10; refine (awake28 _).mono ?_; rintro e w3 ⟨rfl, h3⟩; have H3 := Lib.hid (bto B2.out h3); clear h3))
        go_ret
        exact ⟨rfl, H3.out⟩
theorem policyplays_walk2 (cv : Array Value) (il se ho mf : Int) (pe dm : Bool) (A : Option Addr) (n c : Nat) (f : Nat → Int × Int × Bool) (w : World) (hc : ConfP cv il se ho mf pe dm) (hr : PoOps w w.heap.size A n f) (hn : n ≤ 5864062014634) :
    Calls Try.prog 3 #[.agg cv, .slice A n c] w fun e w' => e = .returned (.bool true) ∧ Below w.heap.size w w' := by
  obtain ⟨cs⟩ := cv
  exact policyplays_walk cs il se ho mf pe dm A n c f w hc hr hn
end Go.Proofs.Ytdjifjlkpimiaaa
