/-
  PolicyIdles.
-/
import Derived.Test.YtdjifjlkpimiaaaPoLaw
namespace Go.Proofs.Ytdjifjlkpimiaaa
open Go.RowKit
set_option maxRecDepth 100000
set_option maxHeartbeats 8000000
set_option linter.unusedSimpArgs false
set_option linter.unusedVariables false

theorem numbers_yes (A C : Option Addr) (n ca cb : Nat) (l : List Int) (w : World) (B B2 : Nat) (ha : RdI w B A n l) (hb : RdI w B2 C n l) (hm : n ≤ 1152921504606846976) :
    Calls Try.prog 13 #[.slice A n ca, .slice C n cb] w fun e w' => e = .returned (.bool true) ∧ ∃ k, w' = w.drewN k := by
  have heq : ((n : Int) != (n : Int)) = false := by simp
  have Ha := Lib.hid ha
  have Hb := Lib.hid hb
  clear ha hb
  go_enter Try.func13, Try.ntmps13
  go_wp2
  go_loopw [13] (fun i wr => ∃ k : Nat, k ≤ n ∧ i = .int .i64 k ∧ ∃ m, wr = w.drewN m) (fun i _ => n - (intOf i).toNat)
  case atStart => exact ⟨0, Nat.zero_le _, rfl, 0, rfl⟩
  case round =>
    obtain ⟨k, hk, rfl, m, rfl⟩ := hrel
    by_cases hlt : k < n
    · obtain ⟨a, o, rfl, _, hc⟩ := Ha.out.2 (by omega)
      obtain ⟨b, q, rfl, _, hd⟩ := Hb.out.2 (by omega)
      have h1 := hc k hlt
      have h2 := hd k hlt
      have hs : (numAt l k != numAt l k) = false := by simp
      clear hc hd
      go_wp2
      go_quiet (fail)
      go_wp2
      go_roundw
      case rel => exact ⟨k + 1, by omega, by go_num, _, rfl⟩
      case measure => simp [intOf]; omega
    · go_wp2
      go_ret
      exact ⟨rfl, _, rfl⟩
theorem least_le (a b : Int) : least a b ≤ a ∧ least a b ≤ b := by
  unfold least
  split <;> omega
theorem fold_le : ∀ (l : List (Int × Nat)) (a : Int), l.foldl (fun a d => least a d.1) a ≤ a ∧ ∀ p ∈ l, l.foldl (fun a d => least a d.1) a ≤ p.1
  | [], a => ⟨Int.le_refl _, fun p h => by simp at h⟩
  | q :: r, a => by
    obtain ⟨h1, h2⟩ := fold_le r (least a q.1)
    obtain ⟨h3, h4⟩ := least_le a q.1
    refine ⟨Int.le_trans h1 h3, fun p hp => ?_⟩
    rcases List.mem_cons.1 hp with rfl | hp
    · exact Int.le_trans h1 h4
    · exact h2 p hp
/-- a tick ahead of what is due changes the time alone -/
theorem idle_step {x : PoS} {t : Int} (h : nxE (poDl x) ≠ 0 ∨ t < nxV (poDl x)) : poSet (poAt x t) = poAt x t ∧ poSetL (poAt x t) = [] := by
  refine set_none (x := poAt x t) fun j p hp => ?_
  have hp' : (poDl x)[j]? = some p := hp
  have hm := List.mem_of_getElem? hp'
  have hne : poDl x ≠ [] := fun e => by rw [e] at hm; simp at hm
  unfold nxE nxV at h
  rw [if_neg hne, if_neg hne] at h
  show t < p.1
  rcases h with h | h
  · exact absurd rfl h
  · have := (fold_le (poDl x) 1099511627776).2 p hm
    unfold nxL at h
    omega
/-- two policies, and the law's own copy of a call -/
structure PoQ (w W : World) (g h p : Nat) (x y : PoS) (kk bb : Int) (m : Bool) : Prop where
  bl : Below w.heap.size w W
  gw : w.heap.size ≤ g
  hw : w.heap.size ≤ h
  ne : g ≠ h
  pb : PoB W g x
  qb : PoB W h y
  okx : PoOk x
  oky : PoOk y
  op : Blk W p 36 [.int .i64 kk, .int .i64 bb, .bool m]
  pg : p ≠ g
  ph : p ≠ h
theorem PoQ.later {w W W' : World} {g h p : Nat} {x y : PoS} {kk bb : Int} {m : Bool} (q : PoQ w W g h p x y kk bb m) (hb : Below W.heap.size W W') : PoQ w W' g h p x y kk bb m :=
  ⟨bto q.bl hb, q.gw, q.hw, q.ne, q.pb.below hb, q.qb.below hb, q.okx, q.oky, Blk.below q.op hb q.op.lt, q.pg, q.ph⟩
theorem PoQ.stepP {w W W' : World} {g h p : Nat} {x y x' : PoS} {kk bb : Int} {m : Bool} (q : PoQ w W g h p x y kk bb m) (hg : W.grownBy W' (some g)) (hx : PoB W' g x') (ho : PoOk x') : PoQ w W' g h p x' y kk bb m :=
  ⟨bgr q.bl q.gw hg, q.gw, q.hw, q.ne, hx, q.qb.row hg (fun e => q.ne e.symm), ho, q.oky, Blk.grown q.op hg (fun e => q.pg (by injection e with e; exact e.symm)), q.pg, q.ph⟩
theorem PoQ.stepQ {w W W' : World} {g h p : Nat} {x y y' : PoS} {kk bb : Int} {m : Bool} (q : PoQ w W g h p x y kk bb m) (hg : W.grownBy W' (some h)) (hy : PoB W' h y') (ho : PoOk y') : PoQ w W' g h p x y' kk bb m :=
  ⟨bgr q.bl q.hw hg, q.gw, q.hw, q.ne, q.pb.row hg q.ne, hy, q.okx, ho, Blk.grown q.op hg (fun e => q.ph (by injection e with e; exact e.symm)), q.pg, q.ph⟩
theorem PoQ.cells {w W : World} {g h p : Nat} {x y : PoS} {kk bb : Int} {m : Bool} (q : PoQ w W g h p x y kk bb m) : W.cell? ⟨p, 0, none⟩ = some (.int .i64 kk) ∧ W.cell? ⟨p, 1, none⟩ = some (.int .i64 bb) ∧ W.cell? ⟨p, 2, none⟩ = some (.bool m) :=
  ⟨q.op.cell 0, q.op.cell 1, q.op.cell 2⟩
theorem bdrewN {a b : World} {B : Nat} (h : Below B a b) (n : Nat) : Below B a (b.drewN n) := ⟨h.os, h.tape, h.output, h.size, h.block⟩
def IdI (w W : World) (g h : Nat) (k : Int) (nw : Int) : Prop :=
  ∃ x, Below w.heap.size w W ∧ w.heap.size ≤ g ∧ w.heap.size ≤ h ∧ g ≠ h ∧ PoB W g x ∧ PoB W h x ∧ PoOk x ∧ x.now = nw ∧ nw ≤ 5000 * k
theorem policyidles_walk (cv : Array Value) (il se ho mf : Int) (pe dm : Bool) (A : Option Addr) (n c : Nat) (f : Nat → Int × Int × Bool) (w : World) (hc : ConfP cv il se ho mf pe dm) (hr : PoOps w w.heap.size A n f) (hn : n ≤ 5864062014634) (A' : Option Addr) (n' c' : Nat) (l' : List Int) (hr' : RdI w w.heap.size A' n' l') (hl' : ∀ v ∈ l', In64 v) (hn' : n' ≤ 17592186043904) :
    Calls Try.prog 6 #[.agg cv, .slice A n c, .slice A' n' c'] w fun e w' => e = .returned (.bool true) ∧ Below w.heap.size w w' := by
  obtain ⟨W1, hW1⟩ : ∃ W1, w.alloc (.cells cv 25) = W1 := ⟨_, rfl⟩
  have k1 : Blk W1 w.heap.size 25 cv.toList := by rw [← hW1]; exact blk_new w _ _
  have B1 : Below w.heap.size w W1 := by rw [← hW1]; exact (Below.refl _ _).alloc (Nat.le_refl _) _
  have s1 : W1.heap.size = w.heap.size + 1 := by rw [← hW1]; simp
  obtain ⟨z, hz⟩ : ∃ z, w.heap.size = z := ⟨_, rfl⟩
  have hc0 := hc
  have HN : Hid True := trivial
  have IC : Hid ((Try.prog.info? 25).map (·.size) = some cv.size) := by show _ = _; rw [hc.1]; exact infoC
  have HK := Lib.hid k1
  have HR1 := Lib.hid (conf_row k1)
  have HB1 := Lib.hid B1
  have HS1 := Lib.hid s1
  have HW := Lib.hid hW1
  have HC := Lib.hid hc
  have HR := Lib.hid hr
  have HZ := Lib.hid hz
  clear k1 B1 s1 hW1 hc hr
  rw [hz] at HR1
  have HNN : Hid (∀ W, Calls Try.prog 8 #[.agg cv] W (NewR W il se ho mf pe dm)) := fun W => poNew_any cv il se ho mf pe dm W hc0
  have HR' := Lib.hid hr'
  have HL' := Lib.hid hl'
  clear hc0 hr' hl' HN
  cases hok : okN il se ho mf with
  | false =>
    have HO := Lib.hid hok
    clear hok
    go_enter Try.func6, Try.ntmps6
    go_upto_region 1 with (fail)
    rw [HW.out]
    clear HW hz
    go_upto_region 2 with (first | ((with_reducible refine step_conf (.tmp 3) z cv HR1.out IC.out ?_ rfl rfl ?_); rotate_left; rfl) | (go_at_call 8; ((with_reducible refine (HNN.out _).mono ?_); rintro e w2 ⟨hb, hno, _⟩; obtain rfl := hno HO.out; have HR2 := Lib.hid (conf_row (Blk.below HK.out hb HK.out.lt)); rw [HZ.out] at HR2; have HB2 := Lib.hid (bto HB1.out hb); clear hb hno)))
    go_wp2_with (first | ((with_reducible refine step_conf (.tmp 3) z cv HR2.out IC.out ?_ rfl rfl ?_); rotate_left; rfl) | (go_at_call 8; ((with_reducible refine (HNN.out _).mono ?_); rintro e w3 ⟨hb, hno, _⟩; obtain rfl := hno HO.out; have HB3 := Lib.hid (bto HB2.out hb); clear hb hno)) | (go_at_call 10; refine (awake28 _).mono ?_; rintro e w4 ⟨rfl, h4⟩; have H4 := Lib.hid (bto HB3.out h4); clear h4))
    go_ret
    exact ⟨rfl, H4.out⟩
  | true =>
    have HO := Lib.hid hok
    clear hok
    go_enter Try.func6, Try.ntmps6
    go_upto_region 1 with (fail)
    rw [HW.out]
    clear HW hz
    go_upto_region 2 with (first | ((with_reducible refine step_conf (.tmp 3) z cv HR1.out IC.out ?_ rfl rfl ?_); rotate_left; rfl) | (go_at_call 8; ((with_reducible refine (HNN.out _).mono ?_); rintro e w2 ⟨hb, hno, hyes⟩; obtain ⟨g, rfl, hg, hx⟩ := hyes HO.out; have HX := Lib.hid hx; have HG := Lib.hid hg; have HR2 := Lib.hid (conf_row (Blk.below HK.out hb HK.out.lt)); rw [HZ.out] at HR2; have HB2 := Lib.hid (bto HB1.out hb); clear hb hno hyes hg hx)))
    go_wp2_with (first | ((with_reducible refine step_conf (.tmp 3) z cv HR2.out IC.out ?_ rfl rfl ?_); rotate_left; rfl) | (go_at_call 8; ((with_reducible refine (HNN.out _).mono ?_); rintro e w3 ⟨hb, hno, hyes⟩; obtain ⟨h, rfl, hh, hy⟩ := hyes HO.out; have HJ0 : Hid (IdI w w3 g h 0 0) := ⟨poNew il se ho mf pe dm, bto HB2.out hb, by have := HS1.out; have := HG.out; omega, by have := HB2.out.size; omega, by have := HX.out.lt; omega, HX.out.below hb, hy, poNew_ok HO.out, rfl, by omega⟩; clear hb hno hyes hh hy)))
    clear HNN HR1 HR2 HK IC HS1 HB1 HX HG
    have hn300 := hn
    go_loopw [11, 49] (fun s11 i wr => ∃ (k : Nat) (nw : Int), k ≤ n ∧ s11 = .int .i64 nw ∧ i = .int .i64 k ∧ Hid (IdI w wr g h k nw)) (fun _ i _ => n - (intOf i).toNat)
    case atStart => exact ⟨0, 0, Nat.zero_le _, rfl, rfl, HJ0⟩
    case round =>
      obtain ⟨k, nw, hk, rfl, rfl, HJ⟩ := hrel
      have HBr : Hid (Below w.heap.size w wr) := by
        obtain ⟨x, hI, _⟩ := HJ.out
        exact hI
      by_cases hlt : k < n
      · by_cases h300 : k < 300
        · obtain ⟨b, off, rfl, hb, hcell⟩ := HR.out (by omega)
          obtain ⟨c0, c1, c2, q0, q1⟩ := hcell k hlt
          have d0 : wr.cell? ⟨b, off + k * 3, none⟩ = some (.int .i64 (f k).1) := (HBr.out.cell (p := ⟨b, off + k * 3, none⟩) hb).trans c0
          have d1 : wr.cell? ⟨b, off + k * 3 + 1, none⟩ = some (.int .i64 (f k).2.1) := (HBr.out.cell (p := ⟨b, off + k * 3 + 1, none⟩) hb).trans c1
          have d2 : wr.cell? ⟨b, off + k * 3 + 2, none⟩ = some (.bool (f k).2.2) := (HBr.out.cell (p := ⟨b, off + k * 3 + 2, none⟩) hb).trans c2
          clear c0 c1 c2 hcell
          generalize (f k).1 = kk at d0 q0
          generalize (f k).2.1 = bb at d1 q1
          generalize (f k).2.2 = m at d2
          obtain ⟨x, hbl, hgw, hhw, hne, hpb, hqb, hok, hnow, hnk⟩ := HJ.out
          have hx0 := hok.now
          have SO : Hid (∀ W, Calls Try.prog 15 #[.int .i64 bb, .int .i64 5000] W fun e w' => ∃ v, e = .returned (.int .i64 v) ∧ (0 ≤ v ∧ v ≤ 5000) ∧ W = w') := fun W => some_any bb 5000 W q1 (by omega)
          have nb : 0 ≤ nw ∧ nw ≤ 5000 * 299 := by omega
          obtain ⟨nb0, nb1⟩ := nb
          have nb2 : nw ≤ 5000 * (k : Int) := hnk
          have Q0 : Hid (PoQ w (wr.alloc (.cells #[.int .i64 kk, .int .i64 bb, .bool m] 36)) g h wr.heap.size x x kk bb m) :=
            ⟨hbl.alloc hbl.size _, hgw, hhw, hne, hpb.alloc _, hqb.alloc _, hok, hok, blk_new _ _ _, by have := hpb.lt; omega, by have := hqb.lt; omega⟩
          have HNW := Lib.hid hnow
          clear hbl hgw hhw hne hpb hqb hok hnow hnk HJ q0 q1 hx0
          go_upto_region 13 with (go_at_call 15; refine (SO.out _).mono ?_; rintro e w' ⟨v, rfl, ⟨v0, v1⟩, rfl⟩)
          obtain ⟨t, ht⟩ : ∃ t, nw + v = t := ⟨_, rfl⟩
          rw [ht]
          have ht1 : nw ≤ t := by omega
          have ht2 : t ≤ 5000 * ((k : Int) + 1) := by omega
          have ht3 : 0 ≤ t ∧ t ≤ 1500000 := by omega
          obtain ⟨tb0, tb1⟩ := ht3
          have htw : IntKind.i64.wrap (t - nw) = t - nw := IntWalk.i64_in _ (by omega)
          clear ht v0 v1 SO
          have SAME : Hid (∀ tq kd, poStep kd t (poAt x tq) = poStep kd t x ∧ poStepL kd t (poAt x tq) = poStepL kd t x) := fun tq kd => ⟨rfl, rfl⟩
          obtain ⟨W0, hW0⟩ : ∃ W0, wr.alloc (.cells #[.int .i64 kk, .int .i64 bb, .bool m] 36) = W0 := ⟨_, rfl⟩
          have BW0 : Below wr.heap.size wr W0 := by rw [← hW0]; exact (Below.refl _ _).alloc (Nat.le_refl _) _
          have B00 := Lib.hid BW0
          have HW0 := Lib.hid hW0
          rw [hW0] at Q0
          clear BW0 hW0
          go_upto_if 64 with (fail)
          rw [HW0.out]
          have QC : Hid (PoQ w W0 g h wr.heap.size x x kk bb m ∧ poBad t x = false) := ⟨Q0.out, decide_eq_false (by have := HNW.out; omega)⟩
          go_cut [15, 16, 17, 18, 19] from 61 to 99 (fun _ _ _ _ _ W => Hid (∃ y, PoQ w W g h wr.heap.size x y kk bb m ∧ poBad t y = false ∧ ∀ kd, poStep kd t y = poStep kd t x ∧ poStepL kd t y = poStepL kd t x))
          case first =>
            by_cases hkn : k < n'
            · obtain ⟨b', off', rfl, hb', hcl⟩ := HR'.out.2 (by omega)
              have z0 : W0.cell? ⟨b', off' + k, none⟩ = some (.int .i64 (numAt l' k)) := (B00.out.cell (p := ⟨b', off' + k, none⟩) (Nat.lt_of_lt_of_le hb' HBr.out.size)).trans ((HBr.out.cell (p := ⟨b', off' + k, none⟩) hb').trans (hcl k hkn))
              have i64 : In64 (numAt l' k) := by
                have hkl : k < l'.length := by rw [HR'.out.1]; exact hkn
                rw [numAt_eq hkl]
                exact HL'.out _ (List.getElem_mem hkl)
              generalize numAt l' k = ti at z0 i64
              have S2 : Hid (∀ W, Calls Try.prog 15 #[.int .i64 ti, .int .i64 (t - nw)] W fun e w' => ∃ v, e = .returned (.int .i64 v) ∧ (0 ≤ v ∧ v ≤ t - nw) ∧ W = w') := fun W => some_any ti (t - nw) W i64 (by omega)
              obtain ⟨dv, hdv⟩ : ∃ q, nxV (poDl x) = q := ⟨_, rfl⟩
              obtain ⟨de, hde⟩ : ∃ q, nxE (poDl x) = q := ⟨_, rfl⟩
              have NX : Hid (Calls Try.prog 18 #[.pointer (some ⟨h, 0, none⟩)] W0 fun e w' => e = .returned (.tuple #[.int .i64 dv, .int .i64 de]) ∧ Hid (Below W0.heap.size W0 w')) := by
                rw [← hdv, ← hde]
                exact poNext_any h x W0 QC.out.1.qb QC.out.1.okx
              have TK : Hid (∀ W, Hid (Below W0.heap.size W0 W) → ∀ tq, nw ≤ tq → tq ≤ t → (de ≠ 0 ∨ tq < dv) → Calls Try.prog 19 #[.pointer (some ⟨h, 0, none⟩), .int .i64 tq] W fun e w' => ∃ A c, e = .returned (.tuple #[.slice A 0 c, .int .i64 0]) ∧ Hid (∃ y, PoQ w w' g h wr.heap.size x y kk bb m ∧ poBad t y = false ∧ ∀ kd, poStep kd t y = poStep kd t x ∧ poStepL kd t y = poStepL kd t x)) := by
                show ∀ W, _ → ∀ tq, _ → _ → _ → _
                intro W hW tq h1 h2 h3
                have hq := QC.out.1.later hW.out
                have hbt : poBad tq x = false := decide_eq_false (by have := HNW.out; omega)
                have hid := idle_step (x := x) (t := tq) (by rw [hdv, hde]; exact h3)
                refine (poMTick_any h x tq W hq.qb hq.okx hbt).mono ?_
                rintro e w' ⟨v, rfl, ho, hy, hg⟩
                have e1 : poStep 9 tq x = poAt x tq := hid.1
                have e2 : poStepL 9 tq x = [] := by
                  show poSetL (poAt x tq) ++ poDoL 9 (poSet (poAt x tq)) = []
                  rw [hid.2]
                  rfl
                rw [e2] at ho
                rw [e1] at hy
                obtain ⟨A, c, rfl, _⟩ := ho.slice
                refine ⟨A, c, rfl, ⟨poAt x tq, hq.stepQ hg hy (poAt_ok hq.okx (by have := HNW.out; omega) (by omega)), decide_eq_false ?_, fun kd => ⟨rfl, rfl⟩⟩⟩
                show ¬ (t < tq ∨ 1099511627776 < t)
                omega
              have BQ : Hid (∀ W, Below W0.heap.size W0 W → ∃ y, PoQ w W g h wr.heap.size x y kk bb m ∧ poBad t y = false ∧ ∀ kd, poStep kd t y = poStep kd t x ∧ poStepL kd t y = poStepL kd t x) := fun W hW => ⟨x, QC.out.1.later hW, QC.out.2, fun kd => ⟨rfl, rfl⟩⟩
              clear hcl hb' i64 hdv hde QC Q0 B00 HR' HBr HW0
              go_upto_region 16 with (first | (go_at_call 15; refine (S2.out _).mono ?_; rintro e w' ⟨v2, rfl, ⟨u0, u1⟩, rfl⟩) | (go_at_call 18; ((with_reducible refine NX.out.mono ?_); rintro e w4 ⟨rfl, B4⟩)))
              obtain ⟨tq, htq⟩ : ∃ q, nw + v2 = q := ⟨_, rfl⟩
              have e1 : nw ≤ tq := by omega
              have e2 : tq ≤ t := by omega
              rw [htq]
              clear htq u0 u1 S2 NX
              by_cases g0 : de = 0
              · subst g0
                by_cases g1 : tq < dv
                · have TK2 := Lib.hid (TK.out w4 B4 tq e1 e2 (.inr g1))
                  clear TK
                  go_wp2_with (go_at_call 19; ((with_reducible refine TK2.out.mono ?_); rintro e w5 ⟨A5, c5, rfl, H5⟩))
                  go_meet
                  exact H5
                · have H4 := BQ.out w4 B4.out
                  have H5 := Lib.hid H4
                  clear H4 TK
                  go_wp2_with (fail)
                  go_meet
                  exact H5
              · have tg : (de != 0) = true := by simpa using g0
                have TK2 := Lib.hid (TK.out w4 B4 tq e1 e2 (.inl g0))
                clear TK g0
                go_wp2_with (go_at_call 19; ((with_reducible refine TK2.out.mono ?_); rintro e w5 ⟨A5, c5, rfl, H5⟩))
                go_meet
                exact H5
            · have H5 : Hid (∃ y, PoQ w W0 g h wr.heap.size x y kk bb m ∧ poBad t y = false ∧ ∀ kd, poStep kd t y = poStep kd t x ∧ poStepL kd t y = poStepL kd t x) := ⟨x, QC.out.1, QC.out.2, fun kd => ⟨rfl, rfl⟩⟩
              clear QC Q0 B00 HW0
              go_wp2_with (fail)
              go_meet
              exact H5
          case rest =>
            obtain ⟨y, PQ, ybad, ysame⟩ := hcut.out
            obtain ⟨o0, o1, o2⟩ := PQ.cells
            obtain ⟨l, hl⟩ : ∃ l, poStepL (kdO kk m) t x = l := ⟨_, rfl⟩
            obtain ⟨ln, hln⟩ : ∃ q, l.length = q := ⟨_, rfl⟩
            obtain ⟨x1, hx1⟩ : ∃ q, poStep (kdO kk m) t x = q := ⟨_, rfl⟩
            have hl2 : ln ≤ 2 := by
              rw [← hln, ← hl]
              have a := poSetL_len (poAt x t)
              have b := poDoL_len (kdO kk m) (poSet (poAt x t))
              unfold poStepL
              rw [List.length_append]
              omega
            have hnow : x1.now = t := by
              rw [← hx1]
              exact (tm_step (k := kdO kk m) (t := t) (began := x.ran) (last := x.us) (ended := -1) PQ.okx ⟨fun _ => ⟨rfl, rfl⟩, by have := PQ.okx.now; omega, fun h => absurd h (by omega)⟩ QC.out.2).2.2.2.2.1
            obtain ⟨Wc, hwc⟩ : ∃ q, wc = q := ⟨_, rfl⟩
            subst hwc
            have CP : Hid (Calls Try.prog 11 #[.pointer (some ⟨g, 0, none⟩), .agg #[.int .i64 kk, .int .i64 bb, .bool m], .int .i64 t] wc fun e w2 => ∃ A c, e = .returned (.tuple #[.slice A ln c, .int .i64 0]) ∧ Hid (RdI w2 w2.heap.size A ln l ∧ ∀ b off, A = some ⟨b, off, none⟩ → b ≠ h) ∧ Hid (PoQ w w2 g h wr.heap.size x1 y kk bb m) ∧ w2.cell? ⟨wr.heap.size, 0, none⟩ = some (.int .i64 kk) ∧ w2.cell? ⟨wr.heap.size, 1, none⟩ = some (.int .i64 bb) ∧ w2.cell? ⟨wr.heap.size, 2, none⟩ = some (.bool m)) := by
              refine (call_any g x kk bb t m _ PQ.pb PQ.okx QC.out.2).mono ?_
              rintro e w2 ⟨v, rfl, ho, hy, hg⟩
              rw [hl] at ho
              rw [hx1] at hy
              obtain ⟨A, c, rfl, _⟩ := ho.slice
              have hq := PQ.stepP hg hy (by rw [← hx1]; exact poStep_ok PQ.okx QC.out.2)
              rw [hln] at ho ⊢
              refine ⟨A, c, rfl, ⟨ho.rd.1, fun b off e => ?_⟩, hq, hq.cells⟩
              subst e
              have := (ho.form.2 b rfl).1
              have := PQ.qb.lt
              omega
            have CQ : Hid (∀ w2 A, Hid (RdI w2 w2.heap.size A ln l ∧ ∀ b off, A = some ⟨b, off, none⟩ → b ≠ h) → Hid (PoQ w w2 g h wr.heap.size x1 y kk bb m) → Calls Try.prog 11 #[.pointer (some ⟨h, 0, none⟩), .agg #[.int .i64 kk, .int .i64 bb, .bool m], .int .i64 t] w2 fun e w3 => ∃ C c, e = .returned (.tuple #[.slice C ln c, .int .i64 0]) ∧ Hid (RdI w3 w2.heap.size A ln l) ∧ Hid (RdI w3 w3.heap.size C ln l) ∧ Hid (PoQ w w3 g h wr.heap.size x1 x1 kk bb m)) := by
              show ∀ w2 A, _ → _ → _
              intro w2 A hA hq
              refine (call_any h y kk bb t m _ hq.out.qb hq.out.oky ybad).mono ?_
              rintro e w3 ⟨v, rfl, ho, hy, hg⟩
              rw [(ysame _).2, hl] at ho
              rw [(ysame _).1, hx1] at hy
              obtain ⟨C, c, rfl, _⟩ := ho.slice
              have hq3 := hq.out.stepQ hg hy hq.out.okx
              rw [hln] at ho ⊢
              exact ⟨C, c, rfl, hA.out.1.off hg (Nat.le_refl _) hA.out.2, ho.rd.1, hq3⟩
            have HNOW := Lib.hid hnow
            have NE := Lib.hid (fun z : Int => (by simp : (z != z) = false))
            clear hl hln hx1 hnow PQ ybad ysame QC Q0 B00 SAME
            obtain ⟨s1, hs1⟩ : ∃ q, x1.st = q := ⟨_, rfl⟩
            obtain ⟨fa1, hfa1⟩ : ∃ q, x1.fa = q := ⟨_, rfl⟩
            obtain ⟨wy1, hwy1⟩ : ∃ q, x1.wy = q := ⟨_, rfl⟩
            have HS1 := Lib.hid hs1
            have HF1 := Lib.hid hfa1
            have HY1 := Lib.hid hwy1
            clear hs1 hfa1 hwy1 NE
            go_upto_region 23 with (first | (go_at_call 11; ((with_reducible refine CP.out.mono ?_); rintro e w2 ⟨A2, c2, rfl, HA, HQ, o0, o1, o2⟩)) | (go_at_call 11; ((with_reducible refine (CQ.out _ _ HA HQ).mono ?_); rintro e w3 ⟨C3, c3, rfl, HA3, HC3, HQ3⟩)))
            have NU := Lib.hid (numbers_yes A2 C3 ln c2 c3 l w3 _ _ HA3.out HC3.out (by omega))
            have DG : Hid (∀ q, PoB (w3.drewN q) g x1) := fun q => Blk.drewN HQ3.out.pb q
            have DH : Hid (∀ q, PoB (w3.drewN q) h x1) := fun q => Blk.drewN HQ3.out.qb q
            have SG : Hid (∀ q, Calls Try.prog 16 #[.pointer (some ⟨g, 0, none⟩)] (w3.drewN q) fun e w' => e = .returned (.int .i64 s1) ∧ w3.drewN q = w') := by
              rw [← HS1.out]
              exact fun q => poMState_any g x1 _ (DG.out q)
            have SH : Hid (∀ q, Calls Try.prog 16 #[.pointer (some ⟨h, 0, none⟩)] (w3.drewN q) fun e w' => e = .returned (.int .i64 s1) ∧ w3.drewN q = w') := by
              rw [← HS1.out]
              exact fun q => poMState_any h x1 _ (DH.out q)
            have FG : Hid (∀ q, Calls Try.prog 20 #[.pointer (some ⟨g, 0, none⟩)] (w3.drewN q) fun e w' => e = .returned (.int .i64 fa1) ∧ w3.drewN q = w') := by
              rw [← HF1.out]
              exact fun q => poMFailures_any g x1 _ (DG.out q)
            have FH : Hid (∀ q, Calls Try.prog 20 #[.pointer (some ⟨h, 0, none⟩)] (w3.drewN q) fun e w' => e = .returned (.int .i64 fa1) ∧ w3.drewN q = w') := by
              rw [← HF1.out]
              exact fun q => poMFailures_any h x1 _ (DH.out q)
            have YG : Hid (∀ q, Calls Try.prog 21 #[.pointer (some ⟨g, 0, none⟩)] (w3.drewN q) fun e w' => e = .returned (.string wy1) ∧ w3.drewN q = w') := by
              rw [← HY1.out]
              exact fun q => poMWhy_any g x1 _ (DG.out q)
            have YH : Hid (∀ q, Calls Try.prog 21 #[.pointer (some ⟨h, 0, none⟩)] (w3.drewN q) fun e w' => e = .returned (.string wy1) ∧ w3.drewN q = w') := by
              rw [← HY1.out]
              exact fun q => poMWhy_any h x1 _ (DH.out q)
            have HN2 : Hid (∀ q, IdI w (w3.drewN q) g h (k + 1 : Nat) t) := fun q => ⟨x1, bdrewN HQ3.out.bl q, HQ3.out.gw, HQ3.out.hw, HQ3.out.ne, DG.out q, DH.out q, HQ3.out.okx, HNOW.out, by push_cast; omega⟩
            have n1 : (s1 != s1) = false := by simp
            have n2 : (fa1 != fa1) = false := by simp
            have n3 : (wy1.toList != wy1.toList) = false := by simp
            clear CP CQ HA HQ HA3 HC3 HQ3 DG DH HS1 HF1 HY1 HNOW o0 o1 o2
            go_wp2_with (first | (go_at_call 13; ((with_reducible refine NU.out.mono ?_); rintro e w4 ⟨rfl, q, rfl⟩)) | (go_at_call 16; ((with_reducible refine (SG.out _).mono ?_); rintro e w' ⟨rfl, rfl⟩)) | (go_at_call 16; ((with_reducible refine (SH.out _).mono ?_); rintro e w' ⟨rfl, rfl⟩)) | (go_at_call 20; ((with_reducible refine (FG.out _).mono ?_); rintro e w' ⟨rfl, rfl⟩)) | (go_at_call 20; ((with_reducible refine (FH.out _).mono ?_); rintro e w' ⟨rfl, rfl⟩)) | (go_at_call 21; ((with_reducible refine (YG.out _).mono ?_); rintro e w' ⟨rfl, rfl⟩)) | (go_at_call 21; ((with_reducible refine (YH.out _).mono ?_); rintro e w' ⟨rfl, rfl⟩)))
            go_roundw
            case rel => exact ⟨k + 1, t, by omega, rfl, by go_num, HN2.out q⟩
            case measure => simp [intOf]; omega
        · obtain ⟨b, off, rfl, hb, hcell⟩ := HR.out (by omega)
          obtain ⟨c0, c1, c2, _⟩ := hcell k hlt
          have d0 : wr.cell? ⟨b, off + k * 3, none⟩ = some (.int .i64 (f k).1) := (HBr.out.cell (p := ⟨b, off + k * 3, none⟩) hb).trans c0
          have d1 : wr.cell? ⟨b, off + k * 3 + 1, none⟩ = some (.int .i64 (f k).2.1) := (HBr.out.cell (p := ⟨b, off + k * 3 + 1, none⟩) hb).trans c1
          have d2 : wr.cell? ⟨b, off + k * 3 + 2, none⟩ = some (.bool (f k).2.2) := (HBr.out.cell (p := ⟨b, off + k * 3 + 2, none⟩) hb).trans c2
          clear c0 c1 c2 hcell
          go_wp2_with (go_at_call 10; refine (awake28 _).mono ?_; rintro e w3 ⟨rfl, h3⟩; have H3 := Lib.hid (bto (HBr.out.alloc HBr.out.size _) h3); clear h3)
          go_ret
          exact ⟨rfl, H3.out⟩
      · obtain rfl : k = n := by omega
        go_wp2_with (go_at_call 10; refine (awake28 _).mono ?_; rintro e w3 ⟨rfl, h3⟩; have H3 := Lib.hid (bto HBr.out h3); clear h3)
        go_ret
        exact ⟨rfl, H3.out⟩
end Go.Proofs.Ytdjifjlkpimiaaa
