/-
  LcpEnds: the walk of the law.
-/
import Derived.Test.YtonbdcajepmgbaaLcEndsW
namespace Go.Proofs.Ytonbdcajepmgbaa
open Go.RowKit
set_option maxRecDepth 100000
set_option maxHeartbeats 4000000
set_option linter.unusedSimpArgs false
set_option linter.unusedVariables false

def cond1 (mru acm mf mine theirs : Int) : Prop := mru < 64 ∨ 16384 < mru ∨ acm < 0 ∨ 4294967295 < acm ∨ mf < 3 ∨ 1000 < mf ∨ mine = 0 ∨ theirs = 0 ∨ mine = theirs
instance (mru acm mf mine theirs : Int) : Decidable (cond1 mru acm mf mine theirs) := by unfold cond1; infer_instance
theorem step_conf {ops : Array Oper} {rest : List Oper} {o : Oper} {a : Act} {w : World} {Q : Exit → Act → World → Prop} (x : Operand) (g : Nat) (cv : Array Value) (hg : w.heap[g]? = some (.cells cv 102 (0, 0))) (hi : (Try.prog.info? 102).map (·.size) = some cv.size)
    (h : wpList Try.prog ops Q rest (a.put o.dst (.agg cv)) w) (hgd : o.guard = none) (ho : o.op = .load 102 x) (hx : a.eval x = .pointer (some ⟨g, 0, none⟩)) : wpList Try.prog ops Q (o :: rest) a w :=
  wpList_load_row hgd 102 x ho g hx 102 cv (0, 0) _ hg Try.underlying102 rfl hi h
theorem u32_lo (x : Int) : 0 ≤ x % 4294967296 := by omega
theorem u32_hi (x : Int) : x % 4294967296 < 4294967296 := by omega
theorem conf_row {W : World} {z : Nat} {cv : Array Value} (h : Blk W z 102 cv.toList) : W.heap[z]? = some (.cells cv 102 (0, 0)) := by
  unfold Blk at h
  simpa using h
def ConfV (cv : Array Value) (cc : CV) (req mru acm : Int) : Prop := cv.size = 33 ∧ cv[2]? = some (.int .i64 req) ∧ cv[4]? = some (.int .i64 mru) ∧ cv[5]? = some (.int .i64 acm) ∧ cv[6]? = some (.bool cc.pfc) ∧ cv[7]? = some (.bool cc.acfc) ∧ cv[8]? = some (.bool cc.mg)
/-- both ends' first request -/
def WtC (w V : World) (cvc cvd : Array Value) (o p : LOpts) (mine theirs : Int) : Prop :=
  Calls Try.prog 64 #[.agg cvc, .int .u32 mine] V fun e w1 => e = .returned (ov o) ∧ ∃ W1, w1.alloc (.cells #[.int .i64 o.mru, .int .i64 o.accm, .int .i64 o.auth, .int .u32 o.magic, .bool o.pfc, .bool o.acfc] 76) = W1 ∧ W1.heap[w.heap.size + 1]? = some (.cells cvd 102 (0, 0)) ∧
    Calls Try.prog 64 #[.agg cvd, .int .u32 theirs] W1 fun e w3 => e = .returned (ov p) ∧ ∃ W4, w3.alloc (.cells #[.int .i64 p.mru, .int .i64 p.accm, .int .i64 p.auth, .int .u32 p.magic, .bool p.pfc, .bool p.acfc] 76) = W4 ∧ EnJ w W4 w1.heap.size w3.heap.size cvc cvd p o
theorem wt_c (w V : World) (cvc cvd : Array Value) (ccc ccd : CV) (req mru acm rqd mrd acd mine theirs : Int) (hc : ConfV cvc ccc req mru acm) (hd : ConfV cvd ccd rqd mrd acd) (hB : Below w.heap.size w V)
    (kc : Blk V w.heap.size 102 cvc.toList) (kd : Blk V (w.heap.size + 1) 102 cvd.toList) : WtC w V cvc cvd (wantO ccc req mru acm mine) (wantO ccd rqd mrd acd theirs) mine theirs := by
  obtain ⟨a1, a2, a3, a4, a5, a6, a7⟩ := hc
  obtain ⟨b1, b2, b3, b4, b5, b6, b7⟩ := hd
  refine (want_any cvc ccc req mru acm mine V a1 a2 a3 a4 a5 a6 a7).mono ?_
  generalize wantO ccc req mru acm mine = o
  rintro e w1 ⟨rfl, h1⟩
  have s1 := h1.size
  have hl := kd.lt
  have BA : Below w1.heap.size w1 (w1.alloc (.cells #[.int .i64 o.mru, .int .i64 o.accm, .int .i64 o.auth, .int .u32 o.magic, .bool o.pfc, .bool o.acfc] 76)) := (Below.refl _ _).alloc (Nat.le_refl _) _
  have ko := blk_new w1 76 o.cells
  have B1 : Below V.heap.size V (w1.alloc (.cells #[.int .i64 o.mru, .int .i64 o.accm, .int .i64 o.auth, .int .u32 o.magic, .bool o.pfc, .bool o.acfc] 76)) := h1.trans (BA.mono s1)
  have ko' : Blk (w1.alloc (.cells #[.int .i64 o.mru, .int .i64 o.accm, .int .i64 o.auth, .int .u32 o.magic, .bool o.pfc, .bool o.acfc] 76)) w1.heap.size 76 o.cells := ko
  have kc1 : Blk (w1.alloc (.cells #[.int .i64 o.mru, .int .i64 o.accm, .int .i64 o.auth, .int .u32 o.magic, .bool o.pfc, .bool o.acfc] 76)) w.heap.size 102 cvc.toList := (B1.block _ kc.lt).trans kc
  have kd1 : Blk (w1.alloc (.cells #[.int .i64 o.mru, .int .i64 o.accm, .int .i64 o.auth, .int .u32 o.magic, .bool o.pfc, .bool o.acfc] 76)) (w.heap.size + 1) 102 cvd.toList := (B1.block _ kd.lt).trans kd
  refine ⟨rfl, _, rfl, conf_row kd1, (want_any cvd ccd rqd mrd acd theirs _ b1 b2 b3 b4 b5 b6 b7).mono ?_⟩
  generalize wantO ccd rqd mrd acd theirs = p
  generalize w1.alloc (.cells #[.int .i64 o.mru, .int .i64 o.accm, .int .i64 o.auth, .int .u32 o.magic, .bool o.pfc, .bool o.acfc] 76) = W1 at *
  rintro e w3 ⟨rfl, h3⟩
  have s3 := h3.size
  have s13 := BA.size
  have lt1 := ko'.lt
  have BC : Below w3.heap.size w3 (w3.alloc (.cells #[.int .i64 p.mru, .int .i64 p.accm, .int .i64 p.auth, .int .u32 p.magic, .bool p.pfc, .bool p.acfc] 76)) := (Below.refl _ _).alloc (Nat.le_refl _) _
  have B3 := h3.trans (BC.mono s3)
  have BV := hB.trans ((B1.trans (B3.mono B1.size)).mono hB.size)
  exact ⟨rfl, _, rfl, ⟨⟨(B3.block _ kc1.lt).trans kc1, (B3.block _ kd1.lt).trans kd1, (B3.block _ ko'.lt).trans ko', blk_new w3 _ p.cells⟩, BV, by omega, by omega⟩⟩
theorem lcpends_walk (cvc cvd : Array Value) (ccc ccd : CV) (req mru acm rqd mrd acd mine theirs : Int) (w : World) (hc : ConfIn w cvc ccc req mru acm) (hd : ConfIn w cvd ccd rqd mrd acd) (hm0 : 0 ≤ mine) (hm1 : mine < 4294967296) (ht0 : 0 ≤ theirs) (ht1 : theirs < 4294967296) :
    Calls Try.prog 12 #[.agg cvc, .agg cvd, .int .u32 mine, .int .u32 theirs] w fun e w' => e = .returned (.bool true) ∧ Below w.heap.size w w' := by
  obtain ⟨W2, hW2⟩ : ∃ W2, (w.alloc (.cells cvc 102)).alloc (.cells cvd 102) = W2 := ⟨_, rfl⟩
  have B1 : Below w.heap.size w (w.alloc (.cells cvc 102)) := (Below.refl _ _).alloc (Nat.le_refl _) _
  have B2 : Below w.heap.size w W2 := by rw [← hW2]; exact B1.alloc (by simp) _
  have s2 : W2.heap.size = w.heap.size + 2 := by rw [← hW2]; simp
  have kc : Blk W2 w.heap.size 102 cvc.toList := by
    rw [← hW2]
    refine (Below.heap_alloc _ _ _ (by simp)).trans ?_
    have h := blk_new w 102 cvc.toList
    unfold Blk at h
    simpa using h
  have kd : Blk W2 (w.heap.size + 1) 102 cvd.toList := by
    rw [← hW2]
    have h := blk_new (w.alloc (.cells cvc 102)) 102 cvd.toList
    rw [World.size_alloc] at h
    unfold Blk at h ⊢
    simpa using h
  obtain ⟨hcA, hc2, hc4, hc5, hcr, hcm, hca⟩ := hc
  obtain ⟨hdA, hd2, hd4, hd5, hdr, hdm, hda⟩ := hd
  have hcA0 := hcA
  have hdA0 := hdA
  obtain ⟨hcs, -, hc6, hc7, hc8, -⟩ := hcA
  obtain ⟨hds, ⟨C, m, d, hd3, hri, hmb⟩, hd6, hd7, hd8, hd21⟩ := hdA
  have x2 := conf_cells kc hc2
  have x4 := conf_cells kc hc4
  have x5 := conf_cells kc hc5
  have y3 := conf_cells kd hd3
  have y21 := conf_cells kd hd21
  have KN : Hid (∀ V, Below w.heap.size w V → Calls Try.prog 38 #[] V fun e w4 => e = .returned (.bool true) ∧ Below w.heap.size w w4) := fun V hV => by
    refine (known11_any V).mono ?_
    rintro e w4 ⟨rfl, b4⟩
    exact ⟨rfl, hV.trans (b4.mono hV.size)⟩
  have KN2 := Lib.hid (KN.out W2 B2)
  have HW := Lib.hid hW2
  have HB2 := Lib.hid B2
  have HKC := Lib.hid kc
  have HKD := Lib.hid kd
  have HRI := Lib.hid hri
  have HCC := Lib.hid (And.intro hcs (And.intro hc2 (And.intro hc4 (And.intro hc5 (And.intro hc6 (And.intro hc7 hc8))))))
  have HDD := Lib.hid (And.intro hds (And.intro hd2 (And.intro hd4 (And.intro hd5 (And.intro hd6 (And.intro hd7 hd8))))))
  have HCF := Lib.hid hdA0
  obtain ⟨mf, hmf⟩ : ∃ x, ccd.mf = x := ⟨_, rfl⟩
  rw [hmf] at y21
  clear hmf hW2 B1 B2 kc kd hc2 hc4 hc5 hd2 hd4 hd5 hc6 hc7 hc8 hd6 hd7 hd8 hd3 hd21 hri hcA0 hdA0 hcs hds
  go_enter Try.func12, Try.ntmps12
  go_upto_region 1 with (fail)
  rw [HW.out]
  go_cut [63] from 23 (fun v W => v = .bool (decide (cond1 mru acm mf mine theirs)) ∧ W2 = W)
  case first =>
    by_cases c1 : mru < 64
    · have hD : decide (cond1 mru acm mf mine theirs) = true := decide_eq_true (.inl c1)
      have HD := Lib.hid hD
      clear hD
      go_wp2
      go_meet
      case rel => exact ⟨by rw [HD.out], rfl⟩
    by_cases c2 : 16384 < mru
    · have hD : decide (cond1 mru acm mf mine theirs) = true := decide_eq_true (.inr (.inl c2))
      have HD := Lib.hid hD
      clear hD
      go_wp2
      go_meet
      case rel => exact ⟨by rw [HD.out], rfl⟩
    by_cases c3 : acm < 0
    · have hD : decide (cond1 mru acm mf mine theirs) = true := decide_eq_true (.inr (.inr (.inl c3)))
      have HD := Lib.hid hD
      clear hD
      go_wp2
      go_meet
      case rel => exact ⟨by rw [HD.out], rfl⟩
    by_cases c4 : 4294967295 < acm
    · have hD : decide (cond1 mru acm mf mine theirs) = true := decide_eq_true (.inr (.inr (.inr (.inl c4))))
      have HD := Lib.hid hD
      clear hD
      go_wp2
      go_meet
      case rel => exact ⟨by rw [HD.out], rfl⟩
    by_cases c5 : mf < 3
    · have hD : decide (cond1 mru acm mf mine theirs) = true := decide_eq_true (.inr (.inr (.inr (.inr (.inl c5)))))
      have HD := Lib.hid hD
      clear hD
      go_wp2
      go_meet
      case rel => exact ⟨by rw [HD.out], rfl⟩
    by_cases c6 : 1000 < mf
    · have hD : decide (cond1 mru acm mf mine theirs) = true := decide_eq_true (.inr (.inr (.inr (.inr (.inr (.inl c6))))))
      have HD := Lib.hid hD
      clear hD
      go_wp2
      go_meet
      case rel => exact ⟨by rw [HD.out], rfl⟩
    by_cases c7 : mine = 0
    · have hD : decide (cond1 mru acm mf mine theirs) = true := decide_eq_true (.inr (.inr (.inr (.inr (.inr (.inr (.inl c7)))))))
      have c7' : (mine == 0) = true := by simpa using c7
      have HD := Lib.hid hD
      clear hD
      clear c7
      go_wp2
      go_meet
      case rel => exact ⟨by rw [HD.out], rfl⟩
    by_cases c8 : theirs = 0
    · have hD : decide (cond1 mru acm mf mine theirs) = true := decide_eq_true (.inr (.inr (.inr (.inr (.inr (.inr (.inr (.inl c8))))))))
      have c7' : (mine == 0) = false := by simpa using c7
      have c8' : (theirs == 0) = true := by simpa using c8
      have HD := Lib.hid hD
      clear hD
      clear c7 c8
      go_wp2
      go_meet
      case rel => exact ⟨by rw [HD.out], rfl⟩
    have c7' : (mine == 0) = false := by simpa using c7
    have c8' : (theirs == 0) = false := by simpa using c8
    have hD : decide (cond1 mru acm mf mine theirs) = (mine == theirs) := by
      by_cases c9 : mine = theirs
      · rw [decide_eq_true (.inr (.inr (.inr (.inr (.inr (.inr (.inr (.inr c9)))))))), c9]; simp
      · rw [decide_eq_false (by unfold cond1; omega)]; simpa using c9
    have HD := Lib.hid hD
    clear hD c7 c8
    go_wp2
    go_meet
    case rel => exact ⟨by rw [HD.out], rfl⟩
  case rest =>
    obtain ⟨rfl, rfl⟩ := hcut
    by_cases hcd : cond1 mru acm mf mine theirs
    · rw [decide_eq_true hcd]
      clear hcd
      go_wp2_with (go_at_call 38; ((with_reducible refine KN2.out.mono ?_); rintro e w4 ⟨rfl, b4⟩; have HB4 := Lib.hid b4; clear b4))
      go_ret
      exact ⟨rfl, HB4.out⟩
    · rw [decide_eq_false hcd]
      have HH := Lib.hid (show (64 ≤ mru ∧ mru ≤ 16384) ∧ (0 ≤ acm ∧ acm ≤ 4294967295) ∧ mine ≠ 0 ∧ theirs ≠ 0 ∧ mine ≠ theirs by unfold cond1 at hcd; omega)
      have hlm := HRI.out.1
      have hlt1 := HKC.out.lt
      have hlt2 := HKD.out.lt
      clear hcd y21 x4 x5
      go_wp2
      go_loopw [9, 10] (fun v i wr => ∃ (V : World) (k : Nat), V = wr ∧ k ≤ m ∧ i = .int .i64 k ∧ v = .bool ((req == 0) || (ccd.acc.take k).contains req) ∧ Hid (Below W2.heap.size W2 V)) (fun _ i _ => m - (intOf i).toNat)
      case atStart => exact ⟨_, 0, rfl, Nat.zero_le _, rfl, by simp, Below.refl _ _⟩
      case round =>
        obtain ⟨V, k, rfl, hkm, rfl, rfl, hV⟩ := hrel
        have d3 : V.cell? ⟨w.heap.size + 1, 3, none⟩ = some (.slice C m d) := (hV.out.cell hlt2).trans y3
        have f2 : V.cell? ⟨w.heap.size, 2, none⟩ = some (.int .i64 req) := (hV.out.cell hlt1).trans x2
        by_cases hlt : k < m
        · obtain ⟨b, off, rfl, hb, hc⟩ := HRI.out.2 (by omega)
          have x1 : V.cell? ⟨b, off + k, none⟩ = some (.int .i64 (numAt ccd.acc k)) := (hV.out.cell (show b < W2.heap.size by omega)).trans ((HB2.out.cell hb).trans (hc k hlt))
          have hm := acc_more ccd.acc k (by omega) req
          obtain ⟨bb, hbb⟩ : ∃ b, ((req == 0) || (ccd.acc.take k).contains req) = b := ⟨_, rfl⟩
          have HN : Hid (((req == 0) || (ccd.acc.take (k + 1)).contains req) = (bb || (numAt ccd.acc k == req))) := by
            show _ = _
            rw [hm, ← hbb, Bool.or_assoc]
          rw [hbb]
          clear hc hm hbb
          generalize numAt ccd.acc k = x at *
          cases bb
          · rcases hx : (x == req) with _ | _
            all_goals
              rw [hx] at HN
              go_wp2
              go_quiet (fail)
              go_wp2
              go_roundw
              case rel => exact ⟨_, k + 1, rfl, by omega, by go_num, by rw [HN.out]; rfl, below_drewN hV.out _⟩
              case measure => simp [intOf]; omega
          · go_wp2
            go_quiet (fail)
            go_wp2
            go_roundw
            case rel => exact ⟨_, k + 1, rfl, by omega, by go_num, by rw [HN.out]; rfl, below_drewN hV.out _⟩
            case measure => simp [intOf]; omega
        · have hkm' : k = m := by omega
          subst hkm'
          rw [List.take_of_length_le (by omega)]
          have BV := HB2.out.trans (hV.out.mono HB2.out.size)
          have KV := Lib.hid (KN.out V BV)
          by_cases hbo : ((req == 0) || ccd.acc.contains req) = false
          · rw [hbo]
            clear hbo
            go_wp2_with (go_at_call 38; ((with_reducible refine KV.out.mono ?_); rintro e w6 ⟨rfl, b6⟩; have HB6 := Lib.hid b6; clear b6))
            go_ret
            exact ⟨rfl, HB6.out⟩
          · have hbo' : ((req == 0) || ccd.acc.contains req) = true := (Bool.eq_false_or_eq_true _).resolve_right hbo
            rw [hbo']
            by_cases r1 : req < 0
            · clear hbo hbo'
              go_wp2_with (go_at_call 38; ((with_reducible refine KV.out.mono ?_); rintro e w6 ⟨rfl, b6⟩; have HB6 := Lib.hid b6; clear b6))
              go_ret
              exact ⟨rfl, HB6.out⟩
            by_cases r2 : 3 < req
            · clear hbo hbo'
              go_wp2_with (go_at_call 38; ((with_reducible refine KV.out.mono ?_); rintro e w6 ⟨rfl, b6⟩; have HB6 := Lib.hid b6; clear b6))
              go_ret
              exact ⟨rfl, HB6.out⟩
            have hI : EndI ccd (wantO ccd rqd mrd acd theirs) (wantO ccc req mru acm mine) := by
              obtain ⟨h1, h2, h3, h4, h5⟩ := HH.out
              refine ⟨⟨h1, h2, ⟨by show 0 ≤ req; omega, by show req ≤ 3; omega⟩, ?_⟩, ?_, ?_⟩
              · show 0 ≤ (if ccc.mg then mine else 0 : Int) ∧ (if ccc.mg then mine else 0 : Int) ≤ 4294967295
                split <;> omega
              · show req = 0 ∨ req ∈ ccd.acc
                rw [Bool.or_eq_true] at hbo'
                rcases hbo' with h | h
                · exact .inl (by simpa using h)
                · exact .inr (by simpa using h)
              · show (if ccc.mg then mine else 0 : Int) ≠ 0 → (if ccc.mg then mine else 0 : Int) ≠ (if ccd.mg then theirs else 0 : Int)
                split <;> split <;> omega
            have hau : (wantO ccc req mru acm mine).auth = req := rfl
            have WT := wt_c w V cvc cvd ccc ccd req mru acm rqd mrd acd mine theirs HCC.out HDD.out BV ((hV.out.block _ hlt1).trans HKC.out) ((hV.out.block _ hlt2).trans HKD.out)
            have HCR := Lib.hid (conf_row ((hV.out.block _ hlt1).trans HKC.out))
            generalize wantO ccd rqd mrd acd theirs = p at *
            generalize wantO ccc req mru acm mine = o at *
            have HI := Lib.hid (And.intro hI hau)
            unfold WtC ov at WT
            have HT := Lib.hid WT
            have IC : Hid ((Try.prog.info? 102).map (·.size) = some cvc.size) := by show _ = _; rw [HCC.out.1]; exact infoC
            have ID : Hid ((Try.prog.info? 102).map (·.size) = some cvd.size) := by show _ = _; rw [HDD.out.1]; exact infoC
            clear hI hau WT hbo hbo'
            go_wp2_with (first
              | ((with_reducible refine step_conf (.tmp 4) w.heap.size cvc HCR.out IC.out ?_ rfl rfl ?_); rotate_left; rfl)
              | (go_at_call 64; ((with_reducible refine HT.out.mono ?_); rintro e w1 ⟨rfl, W1, hw1, hd1, t2⟩; have HW1 := Lib.hid hw1; have HD1 := Lib.hid hd1; have HT2 := Lib.hid t2; clear hw1 hd1 t2))
              | (rw [HW1.out])
              | ((with_reducible refine step_conf (.tmp 5) (w.heap.size + 1) cvd HD1.out ID.out ?_ rfl rfl ?_); rotate_left; rfl)
              | (go_at_call 64; ((with_reducible refine HT2.out.mono ?_); rintro e w3 ⟨rfl, W4, hw4, hj⟩; have HW4 := Lib.hid hw4; have HJ := Lib.hid hj; clear hw4 hj))
              | (rw [HW4.out]))
            clear HT HT2 HW1 HW4 HD1 HCR x2 y3 d3 f2 r1 r2 KV hV BV
            generalize w1.heap.size = z11 at *
            generalize w3.heap.size = z12 at *
            go_loopw [13] (fun v wr => ∃ (V : World) (r : Nat) (o : LOpts), V = wr ∧ r ≤ 1 ∧ v = .int .i64 r ∧ Hid (EnJ w V z11 z12 cvc cvd p o ∧ EndI ccd p o ∧ o.auth = req ∧ (r = 1 → badOf ccd o = []))) (fun v _ => 6 - (intOf v).toNat)
            case atStart => exact ⟨_, 0, o, rfl, by omega, rfl, HJ.out, HI.out.1, HI.out.2, fun h => by cases h⟩
            case round =>
              clear HJ HI
              obtain ⟨V, r, o, rfl, hr1, rfl, hS⟩ := hrel
              obtain ⟨hJ, hI, hau, hbd⟩ := hS.out
              have hr6 : (r : Int) < 6 := by omega
              obtain ⟨x0, x1, x2, x3, x4, x5⟩ := hJ.six
              by_cases hb : badOf ccd o = []
              · have E := en_ok hJ HCF.out hI hb
                unfold EnOk ov at E
                have HE := Lib.hid E
                have HAU := Lib.hid hau
                clear E hJ hI hau hbd hS hb
                go_upto_region 24 with (first
                  | (go_at_call 39; ((with_reducible refine HE.out.mono ?_); rintro e v1 ⟨A, n, c, rfl, h1, e1⟩; obtain ⟨y0, y1, y2, y3, y4, y5⟩ := h1.six2; have HD1 := Lib.hid (conf_row h1.1.2.1); have HE1 := Lib.hid e1; clear h1 e1))
                  | ((with_reducible refine step_conf (.tmp 5) (w.heap.size + 1) cvd HD1.out ID.out ?_ rfl rfl ?_); rotate_left; rfl)
                  | (go_at_call 62; ((with_reducible refine (HE1.out _ (u32_lo _) (u32_hi _)).mono ?_); rintro e v2 ⟨X, nx, cx, rfl, e2⟩; have HE2 := Lib.hid e2; clear e2))
                  | (go_at_call 45; ((with_reducible refine HE2.out.mono ?_); rintro e v3 ⟨rfl, W5, hw5, h5, hz5, e5⟩; have HW5 := Lib.hid hw5; have H5 := Lib.hid h5; have HZ5 := Lib.hid hz5; have HE5 := Lib.hid e5; clear hw5 h5 hz5 e5))
                  | (rw [HW5.out]))
                obtain ⟨l0, l1, l2, l3, l4, l5⟩ := H5.out.six
                obtain ⟨m0, m1, m2, m3, m4, m5⟩ := HZ5.out
                have lc : W5.cell? ⟨w.heap.size, 2, none⟩ = some (.int .i64 req) := conf_cells H5.out.1.1 HCC.out.2.1
                have hab : (o.auth == req) = true := by rw [HAU.out]; simp
                clear HE HE1 HE2 HW5
                go_region_law (first
                  | (go_simp; go_at_call 47; (with_reducible refine HE5.out.mono ?_); rintro e v5 ⟨rfl, h6, ⟨n0, n1, n2, n3, n4, n5⟩⟩; have ld := conf_cells h6.1.1 HCC.out.2.1; have H6 := Lib.hid h6; clear h6)
                  | (go_simp; go_at_call 38; (with_reducible refine (KN.out _ H6.out.bel).mono ?_); rintro e v6 ⟨rfl, b6⟩; have HB6 := Lib.hid b6; clear b6))
                all_goals
                  go_wp2_with fail
                  go_ret
                  exact ⟨rfl, HB6.out⟩
              · have hr0 : r = 0 := by
                  rcases Nat.eq_zero_or_pos r with h | h
                  · exact h
                  · exact absurd (hbd (by omega)) hb
                subst hr0
                have E := en_bad hJ HCF.out hI hb
                have hI2 := fix_end ccd p o hI
                have hb2 := bad_fix ccd o
                have hau2 : (fixO ccd o).auth = req := hau
                generalize fixO ccd o = o2 at *
                have HI2 := Lib.hid (And.intro hI2 (And.intro hau2 hb2))
                unfold EnBad ov at E
                have HE := Lib.hid E
                clear E hJ hI hau hbd hS hb hI2 hb2 hau2
                go_wp2_with (first
                  | (go_at_call 39; ((with_reducible refine HE.out.mono ?_); rintro e v1 ⟨A, n, c, rfl, h1, e1⟩; obtain ⟨y0, y1, y2, y3, y4, y5⟩ := h1.six2; have HD1 := Lib.hid (conf_row h1.1.2.1); have HE1 := Lib.hid e1; clear h1 e1))
                  | ((with_reducible refine step_conf (.tmp 5) (w.heap.size + 1) cvd HD1.out ID.out ?_ rfl rfl ?_); rotate_left; rfl)
                  | (go_at_call 62; ((with_reducible refine (HE1.out _ (u32_lo _) (u32_hi _)).mono ?_); rintro e v2 ⟨X, nx, cx, rfl, h2, e2⟩; obtain ⟨w0, w1', w2', w3', w4', w5'⟩ := h2.six; have HC1 := Lib.hid (conf_row h2.1.1); have HE2 := Lib.hid e2; clear h2 e2))
                  | ((with_reducible refine step_conf (.tmp 4) w.heap.size cvc HC1.out IC.out ?_ rfl rfl ?_); rotate_left; rfl)
                  | (go_at_call 66; ((with_reducible refine HE2.out.mono ?_); rintro e v3 ⟨rfl, W5, hw5, h5, ⟨t0, t1, t2, t3, t4, t5⟩⟩; have s0 := h5.1.2.2.1.frozen 0; have s1 := h5.1.2.2.1.frozen 1; have s2' := h5.1.2.2.1.frozen 2; have s3 := h5.1.2.2.1.frozen 3; have s4 := h5.1.2.2.1.frozen 4; have s5 := h5.1.2.2.1.frozen 5; obtain ⟨q0, q1, q2, q3, q4, q5⟩ := h5.six; have HW5 := Lib.hid hw5; have H5 := Lib.hid h5; clear hw5 h5))
                  | (rw [HW5.out]))
                go_roundw
                case rel => exact ⟨_, 1, o2, rfl, by omega, by go_num, H5.out.put o2, HI2.out.1, HI2.out.2.1, fun _ => HI2.out.2.2⟩
                case measure => simp [intOf]
end Go.Proofs.Ytonbdcajepmgbaa
