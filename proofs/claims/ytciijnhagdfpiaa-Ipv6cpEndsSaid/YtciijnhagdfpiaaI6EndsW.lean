/-
  Ipv6cpEnds: the walk of the law.
-/
import Derived.Test.YtciijnhagdfpiaaI6Ends
import Derived.Deep.RegionHeld3
namespace Go.Proofs.Ytciijnhagdfpiaa
open Go.RowKit
set_option maxRecDepth 100000
set_option maxHeartbeats 4000000
set_option linter.unusedSimpArgs false
set_option linter.unusedVariables false

def cond6 (mf0 mf1 id0 id1 : Int) : Prop := mf0 < 3 ∨ mf1 < 3 ∨ (id0 ≠ 0 ∧ id0 = id1)
instance (mf0 mf1 id0 id1 : Int) : Decidable (cond6 mf0 mf1 id0 id1) := by unfold cond6; infer_instance
theorem ipv6cpends_walk (cv0 cv1 : Array Value) (id0 mf0 id1 mf1 one two third : Int) (w : World) (h0 : ConfI cv0 id0 mf0) (h1 : ConfI cv1 id1 mf1) (i0 : In64 id0) (i1 : In64 id1) (ho : In64 one) (ht : In64 two) (h3 : In64 third) :
    Calls Try.prog 6 #[.agg cv0, .agg cv1, .int .u64 one, .int .u64 two, .int .u64 third] w fun e w' => e = .returned (.bool true) ∧ Below w.heap.size w w' := by
  obtain ⟨cs, rfl⟩ : ∃ cs : List Value, cv1 = cs.toArray := ⟨cv1.toList, by simp⟩
  obtain ⟨W1, hW1⟩ : ∃ W1, w.alloc (.cells cv0 26) = W1 := ⟨_, rfl⟩
  have k0 : Blk W1 w.heap.size 26 cv0.toList := by rw [← hW1]; exact blk_new w _ _
  have B1 : Below w.heap.size w W1 := by rw [← hW1]; exact (Below.refl _ _).alloc (Nat.le_refl _) _
  have s1 : W1.heap.size = w.heap.size + 1 := by rw [← hW1]; simp
  obtain ⟨W2, hW2⟩ : ∃ W2, W1.alloc (.cells cs.toArray 26) = W2 := ⟨_, rfl⟩
  have k1 : Blk W2 (w.heap.size + 1) 26 cs := by rw [← hW2, ← s1]; exact blk_new W1 _ _
  have B2 : Below W1.heap.size W1 W2 := by rw [← hW2]; exact (Below.refl _ _).alloc (Nat.le_refl _) _
  have k02 := (B2.block _ (by omega)).trans k0
  have B02 := B1.trans (B2.mono (by omega))
  have s2 := B2.size
  have c0 : W2.cell? ⟨w.heap.size, 21, none⟩ = some (.int .i64 mf0) := by rw [Blk.cell k02 21, Array.getElem?_toList]; exact h0.2.2
  have c1 : W2.cell? ⟨w.heap.size, 15, none⟩ = some (.int .u64 id0) := by rw [Blk.cell k02 15, Array.getElem?_toList]; exact h0.2.1
  have c2 : W2.cell? ⟨w.heap.size + 1, 21, none⟩ = some (.int .i64 mf1) := (Blk.cell k1 21).trans (by have := h1.2.2; simpa using this)
  have c3 : W2.cell? ⟨w.heap.size + 1, 15, none⟩ = some (.int .u64 id1) := (Blk.cell k1 15).trans (by have := h1.2.1; simpa using this)
  have HW : Hid ((w.alloc (.cells cv0 26)).alloc (.cells cs.toArray 26) = W2) := by show _ = _; rw [hW1, hW2]
  have HR0 : Hid (W2.heap[w.heap.size]? = some (.cells cv0 26 (0, 0))) := conf_row6 k02
  have HR1 : Hid (ConfRow W2 (w.heap.size + 1) cs.toArray) := conf_row6 k1
  have HB := Lib.hid B02
  have KN := Lib.hid (fun V => known17_any V)
  have EW := ew_c h0 h1 HR1.out ho ht
  unfold EwC at EW
  have EW := Lib.hid EW
  have IC : Hid ((Try.prog.info? 26).map (·.size) = some cv0.size) := by show _ = _; rw [h0.1]; exact info6
  have ID : Hid ((Try.prog.info? 26).map (·.size) = some cs.toArray.size) := by show _ = _; rw [h1.1]; exact info6
  have IL : Hid ((Try.prog.info? 26).map (·.size) = some cs.length) := by
    show _ = _
    have h33 : cs.length = 33 := by simpa using h1.1
    rw [h33]
    exact info6
  have H1 := Lib.hid h1
  have H3 := Lib.hid h3
  have HA := Lib.hid (wnt_in i0 ho)
  have HBB := Lib.hid (wnt_in i1 ht)
  clear hW1 hW2 k0 k1 B1 B2 k02 B02 s1 s2 h0 h1 i0 i1
  generalize wnt id0 one = a at *
  generalize wnt id1 two = b at *
  go_enter Try.func6, Try.ntmps6
  go_upto_region 1 with (fail)
  rw [HW.out]
  clear HW
  go_cut [37] from 18 (fun v W => v = .bool (decide (cond6 mf0 mf1 id0 id1)) ∧ W2 = W)
  case first =>
    by_cases d1 : mf0 < 3
    · have HD : Hid (decide (cond6 mf0 mf1 id0 id1) = true) := decide_eq_true (.inl d1)
      go_wp2
      go_meet
      case rel => exact ⟨by rw [HD.out], rfl⟩
    by_cases d2 : mf1 < 3
    · have HD : Hid (decide (cond6 mf0 mf1 id0 id1) = true) := decide_eq_true (.inr (.inl d2))
      go_wp2
      go_meet
      case rel => exact ⟨by rw [HD.out], rfl⟩
    by_cases d3 : id0 = 0
    · have HD : Hid (decide (cond6 mf0 mf1 id0 id1) = false) := decide_eq_false (by unfold cond6; omega)
      have e3 : (id0 != 0) = false := by simpa using d3
      clear d3
      go_wp2
      go_meet
      case rel => exact ⟨by rw [HD.out], rfl⟩
    have e3 : (id0 != 0) = true := by simpa using d3
    by_cases d4 : id0 = id1
    · have HD : Hid (decide (cond6 mf0 mf1 id0 id1) = true) := decide_eq_true (.inr (.inr ⟨d3, d4⟩))
      have e4 : (id0 == id1) = true := by simpa using d4
      clear d3 d4
      go_wp2
      go_meet
      case rel => exact ⟨by rw [HD.out], rfl⟩
    · have HD : Hid (decide (cond6 mf0 mf1 id0 id1) = false) := decide_eq_false (by unfold cond6; omega)
      have e4 : (id0 == id1) = false := by simpa using d4
      clear d3 d4
      go_wp2
      go_meet
      case rel => exact ⟨by rw [HD.out], rfl⟩
  case rest =>
    obtain ⟨rfl, rfl⟩ := hcut
    by_cases hcd : cond6 mf0 mf1 id0 id1
    · rw [decide_eq_true hcd]
      clear hcd
      have KV := Lib.hid (KN.out W2)
      go_wp2_with (go_at_call 16; (with_reducible refine KV.out.mono ?_); rintro e w4 ⟨rfl, b4⟩; have HB4 := Lib.hid b4; clear b4)
      go_ret
      exact ⟨rfl, HB.out.trans (HB4.out.mono HB.out.size)⟩
    · rw [decide_eq_false hcd]
      have HMF : Hid (3 ≤ mf1) := by show _ ≤ _; unfold cond6 at hcd; omega
      clear hcd c0 c1 c2 c3
      go_wp2_with (first
        | ((with_reducible refine step_conf6 (.tmp 5) w.heap.size cv0 HR0.out IC.out ?_ rfl rfl ?_); rotate_left; rfl)
        | (go_at_call 14; (with_reducible refine EW.out.mono ?_); rintro e w1 ⟨rfl, HD1, EW2⟩)
        | ((with_reducible refine step_conf6 (.tmp 6) (w.heap.size + 1) cs.toArray HD1.out ID.out ?_ rfl rfl ?_); rotate_left; rfl)
        | (go_at_call 14; (with_reducible refine EW2.out.mono ?_); rintro e w2 ⟨rfl, HB2⟩))
      clear HR0 EW EW2 HD1
      go_loopw [11, 13] (fun v i wr => ∃ (V : World) (r : Nat) (a : Int), V = wr ∧ v = .int .u64 a ∧ i = .int .i64 r ∧ r ≤ 1 ∧ Hid (In64 a ∧ a ≠ 0 ∧ (r = 1 → a ≠ b) ∧ Below W2.heap.size W2 V)) (fun _ i _ => 3 - (intOf i).toNat)
      case atStart => exact ⟨_, 0, a, rfl, rfl, rfl, by omega, HA.out.1, HA.out.2, fun h => by omega, HB2.out⟩
      case round =>
        clear HA HB2
        obtain ⟨V, r, a, rfl, rfl, rfl, hr1, hS⟩ := hrel
        obtain ⟨ha, ha0, hab, hBV⟩ := hS.out
        have hr3 : (r : Int) < 3 := by omega
        have hrow := HR1.out.on hBV
        have HRG := Lib.hid (range_of hrow)
        have HBV0 := Lib.hid (Below.refl V.heap.size V)
        have HBV1 : Hid (Below V.heap.size V V.drew) := below_drewN (Below.refl V.heap.size V) 1
        by_cases e : a = b
        · have hr0 : r = 0 := by
            rcases (show r = 0 ∨ r = 1 by omega) with h | h
            · exact h
            · exact absurd e (hab h)
          subst hr0
          have gi := giv_in b H3.out
          have go := giv_ok b H3.out
          have ER := er_c (r := 0) (fin := False) H1.out hrow ha H3.out (jd_nak ha ha0 e (by have := HMF.out; omega)) (by rw [putB_length]; omega) (fun _ one' => nk_id (a := a) (draw := one') gi go.1 (by rw [e]; exact go.2))
          unfold ErC at ER
          have HER := Lib.hid ER
          have HG := Lib.hid (And.intro gi (And.intro go hBV))
          have HU : Hid (In64 (IntKind.u64.wrap (one + 1))) := by show In64 _; rw [IntKind.wrap_u64]; unfold In64; omega
          clear ER gi go ha ha0 hab hBV hrow hS e
          generalize giv third b = g' at *
          go_upto_region 8 with (fail)
          refine wp_region_held_drew (S := fun w' => w'.rangeAt (w.heap.size + 1) 0 cs) (by kernel_rfl) ?_ (fun hHeld => ?_)
          · exact HRG.out
          refine' wpAnyH_take (i := 0) (oi := _) (v := _) rfl (by kernel_rfl) (by kernel_rfl) (by kernel_rfl) (fun _ _ _ h => h) (yieldsIf_load_mid (by rfl) _ _ rfl _ _ rfl cs _ (fun _ h => h) Try.underlying26 rfl IL.out) hHeld ?_
          try simp only [Act.put, List.setIfInBounds_toArray, List.set_cons_zero, List.set_cons_succ]
          refine wpAnyH_take (i := 1) (oi := _) (v := ?_) rfl (by kernel_rfl) (by kernel_rfl) (by kernel_rfl) (fun _ _ _ h => h) (Or.inl ⟨by rfl, ?_⟩) hHeld ?_
          rotate_left
          · intro w5 hSw
            go_simp
            try with_reducible rfl
          try simp only [Act.put, List.setIfInBounds_toArray, List.set_cons_zero, List.set_cons_succ]
          refine wpAnyH_take (i := 2) (oi := _) (v := ?_) rfl (by kernel_rfl) (by kernel_rfl) (by kernel_rfl) (fun _ _ _ h => h) (Or.inl ⟨by rfl, ?_⟩) hHeld ?_
          rotate_left
          · intro w5 hSw
            go_simp
            try with_reducible rfl
          try simp only [Act.put, List.setIfInBounds_toArray, List.set_cons_zero, List.set_cons_succ]
          refine wpAnyH_take (i := 4) (oi := _) (v := ?_) rfl (by kernel_rfl) (by kernel_rfl) (by kernel_rfl) (fun _ _ _ h => h) (Or.inl ⟨by rfl, ?_⟩) hHeld ?_
          rotate_left
          · intro w5 hSw
            go_simp
            try with_reducible rfl
          try simp only [Act.put, List.setIfInBounds_toArray, List.set_cons_zero, List.set_cons_succ]
          refine wpAnyH_take (i := 5) (oi := _) (v := ?_) rfl (by kernel_rfl) (by kernel_rfl) (by kernel_rfl) (fun _ _ _ h => h) (Or.inl ⟨by rfl, ?_⟩) hHeld ?_
          rotate_left
          · intro w5 hSw
            go_simp
            try with_reducible rfl
          try simp only [Act.put, List.setIfInBounds_toArray, List.set_cons_zero, List.set_cons_succ]
          refine wpAnyH_ready (rs := [3]) (by kernel_rfl) (by decide) (AllReadyH.cons (o := _) rfl (fun K hK => ?_) AllReadyH.nil)
          go_simp
          refine (HER.out _ HBV1.out).mono ?_
          rintro e V1 ⟨g, rfl, HC1, HE1⟩
          dsimp only
          refine hK.out _ _ HC1.out (fun hHeld => ?_)
          clear hK K
          try simp only [Act.put, List.setIfInBounds_toArray, List.set_cons_zero, List.set_cons_succ]
          refine wpAnyH_ready (rs := [6]) (by kernel_rfl) (by decide) (AllReadyH.cons (o := _) rfl (fun K hK => ?_) AllReadyH.nil)
          go_simp
          refine (HE1.out _ (Below.refl _ _)).mono ?_
          rintro e V2 ⟨F, d, rfl, HC2, HB2, HN⟩
          dsimp only
          refine hK.out _ _ HC2.out (fun hHeld => ?_)
          clear hK K
          refine wpAnyH_take (i := 7) (oi := _) (v := ?_) rfl (by kernel_rfl) (by kernel_rfl) (by kernel_rfl) (fun _ _ _ h => h) (Or.inl ⟨by rfl, ?_⟩) hHeld ?_
          rotate_left
          · intro w5 hSw
            go_simp
            try with_reducible rfl
          try simp only [Act.put, List.setIfInBounds_toArray, List.set_cons_zero, List.set_cons_succ]
          refine wpAnyH_take (i := 8) (oi := _) (v := ?_) rfl (by kernel_rfl) (by kernel_rfl) (by kernel_rfl) (fun _ _ _ h => h) (Or.inl ⟨by rfl, ?_⟩) hHeld ?_
          rotate_left
          · intro w5 hSw
            go_simp
            try with_reducible rfl
          try simp only [Act.put, List.setIfInBounds_toArray, List.set_cons_zero, List.set_cons_succ]
          refine wpAnyH_take (i := 9) (oi := _) (v := ?_) rfl (by kernel_rfl) (by kernel_rfl) (by kernel_rfl) (fun _ _ _ h => h) (Or.inl ⟨by rfl, ?_⟩) hHeld ?_
          rotate_left
          · intro w5 hSw
            go_simp
            try with_reducible rfl
          try simp only [Act.put, List.setIfInBounds_toArray, List.set_cons_zero, List.set_cons_succ]
          refine wpAnyH_take (i := 10) (oi := _) (v := ?_) rfl (by kernel_rfl) (by kernel_rfl) (by kernel_rfl) (fun _ _ _ h => h) (Or.inl ⟨by rfl, ?_⟩) hHeld ?_
          rotate_left
          · intro w5 hSw
            go_simp
            try with_reducible rfl
          try simp only [Act.put, List.setIfInBounds_toArray, List.set_cons_zero, List.set_cons_succ]
          refine wpAnyH_take (i := 11) (oi := _) (v := ?_) rfl (by kernel_rfl) (by kernel_rfl) (by kernel_rfl) (fun _ _ _ h => h) (Or.inl ⟨by rfl, ?_⟩) hHeld ?_
          rotate_left
          · intro w5 hSw
            go_simp
            try with_reducible rfl
          try simp only [Act.put, List.setIfInBounds_toArray, List.set_cons_zero, List.set_cons_succ]
          refine wpAnyH_done (by kernel_rfl) ?_ _
          have HNK := Lib.hid ((HN (fun h => h)).out _ HU.out)
          go_wp2_with (go_at_call 20; (with_reducible refine HNK.out.mono ?_); rintro e V3 ⟨rfl, HB3⟩)
          go_roundw
          case rel => exact ⟨_, 1, g', rfl, rfl, rfl, by omega, HG.out.1, HG.out.2.1.1, fun _ => HG.out.2.1.2, HG.out.2.2.trans (HB3.out.mono HG.out.2.2.size)⟩
          case measure => simp [intOf]
        · have ER := er_c (r := r) (fin := True) (nx := 0) H1.out hrow ha H3.out (jd_ack ha ha0 HBB.out.2 e) (by rw [putB_length]; omega) (fun h => absurd trivial h)
          unfold ErC at ER
          have HER := Lib.hid ER
          have HDN : Hid (dnE a b = 0) := by
            show _ = _
            unfold dnE
            rw [if_neg (by have := HBB.out.2; omega), if_neg e]
          have HG := Lib.hid hBV
          clear ER ha ha0 hab hBV hrow hS e
          go_upto_region 8 with (fail)
          refine wp_region_held_drew (S := fun w' => w'.rangeAt (w.heap.size + 1) 0 cs) (by kernel_rfl) ?_ (fun hHeld => ?_)
          · exact HRG.out
          refine' wpAnyH_take (i := 0) (oi := _) (v := _) rfl (by kernel_rfl) (by kernel_rfl) (by kernel_rfl) (fun _ _ _ h => h) (yieldsIf_load_mid (by rfl) _ _ rfl _ _ rfl cs _ (fun _ h => h) Try.underlying26 rfl IL.out) hHeld ?_
          try simp only [Act.put, List.setIfInBounds_toArray, List.set_cons_zero, List.set_cons_succ]
          refine wpAnyH_take (i := 1) (oi := _) (v := ?_) rfl (by kernel_rfl) (by kernel_rfl) (by kernel_rfl) (fun _ _ _ h => h) (Or.inl ⟨by rfl, ?_⟩) hHeld ?_
          rotate_left
          · intro w5 hSw
            go_simp
            try with_reducible rfl
          try simp only [Act.put, List.setIfInBounds_toArray, List.set_cons_zero, List.set_cons_succ]
          refine wpAnyH_take (i := 2) (oi := _) (v := ?_) rfl (by kernel_rfl) (by kernel_rfl) (by kernel_rfl) (fun _ _ _ h => h) (Or.inl ⟨by rfl, ?_⟩) hHeld ?_
          rotate_left
          · intro w5 hSw
            go_simp
            try with_reducible rfl
          try simp only [Act.put, List.setIfInBounds_toArray, List.set_cons_zero, List.set_cons_succ]
          refine wpAnyH_take (i := 4) (oi := _) (v := ?_) rfl (by kernel_rfl) (by kernel_rfl) (by kernel_rfl) (fun _ _ _ h => h) (Or.inl ⟨by rfl, ?_⟩) hHeld ?_
          rotate_left
          · intro w5 hSw
            go_simp
            try with_reducible rfl
          try simp only [Act.put, List.setIfInBounds_toArray, List.set_cons_zero, List.set_cons_succ]
          refine wpAnyH_take (i := 5) (oi := _) (v := ?_) rfl (by kernel_rfl) (by kernel_rfl) (by kernel_rfl) (fun _ _ _ h => h) (Or.inl ⟨by rfl, ?_⟩) hHeld ?_
          rotate_left
          · intro w5 hSw
            go_simp
            try with_reducible rfl
          try simp only [Act.put, List.setIfInBounds_toArray, List.set_cons_zero, List.set_cons_succ]
          refine wpAnyH_ready (rs := [3]) (by kernel_rfl) (by decide) (AllReadyH.cons (o := _) rfl (fun K hK => ?_) AllReadyH.nil)
          go_simp
          refine (HER.out _ HBV1.out).mono ?_
          rintro e V1 ⟨g, rfl, HC1, HE1⟩
          dsimp only
          refine hK.out _ _ HC1.out (fun hHeld => ?_)
          clear hK K
          try simp only [Act.put, List.setIfInBounds_toArray, List.set_cons_zero, List.set_cons_succ]
          refine wpAnyH_ready (rs := [6]) (by kernel_rfl) (by decide) (AllReadyH.cons (o := _) rfl (fun K hK => ?_) AllReadyH.nil)
          go_simp
          refine (HE1.out _ (Below.refl _ _)).mono ?_
          rintro e V2 ⟨F, d, rfl, HC2, HB2, HN⟩
          dsimp only
          refine hK.out _ _ HC2.out (fun hHeld => ?_)
          clear hK K
          refine wpAnyH_take (i := 7) (oi := _) (v := ?_) rfl (by kernel_rfl) (by kernel_rfl) (by kernel_rfl) (fun _ _ _ h => h) (Or.inl ⟨by rfl, ?_⟩) hHeld ?_
          rotate_left
          · intro w5 hSw
            go_simp
            try with_reducible rfl
          try simp only [Act.put, List.setIfInBounds_toArray, List.set_cons_zero, List.set_cons_succ]
          refine wpAnyH_take (i := 8) (oi := _) (v := ?_) rfl (by kernel_rfl) (by kernel_rfl) (by kernel_rfl) (fun _ _ _ h => h) (Or.inl ⟨by rfl, ?_⟩) hHeld ?_
          rotate_left
          · intro w5 hSw
            go_simp
            try with_reducible rfl
          try simp only [Act.put, List.setIfInBounds_toArray, List.set_cons_zero, List.set_cons_succ]
          refine wpAnyH_take (i := 9) (oi := _) (v := ?_) rfl (by kernel_rfl) (by kernel_rfl) (by kernel_rfl) (fun _ _ _ h => h) (Or.inl ⟨by rfl, ?_⟩) hHeld ?_
          rotate_left
          · intro w5 hSw
            go_simp
            try with_reducible rfl
          try simp only [Act.put, List.setIfInBounds_toArray, List.set_cons_zero, List.set_cons_succ]
          refine wpAnyH_take (i := 10) (oi := _) (v := ?_) rfl (by kernel_rfl) (by kernel_rfl) (by kernel_rfl) (fun _ _ _ h => h) (Or.inl ⟨by rfl, ?_⟩) hHeld ?_
          rotate_left
          · intro w5 hSw
            go_simp
            try with_reducible rfl
          try simp only [Act.put, List.setIfInBounds_toArray, List.set_cons_zero, List.set_cons_succ]
          refine wpAnyH_take (i := 11) (oi := _) (v := ?_) rfl (by kernel_rfl) (by kernel_rfl) (by kernel_rfl) (fun _ _ _ h => h) (Or.inl ⟨by rfl, ?_⟩) hHeld ?_
          rotate_left
          · intro w5 hSw
            go_simp
            try with_reducible rfl
          try simp only [Act.put, List.setIfInBounds_toArray, List.set_cons_zero, List.set_cons_succ]
          refine wpAnyH_done (by kernel_rfl) ?_ _
          have HDO := Lib.hid (done_any a b V2)
          rw [HDN.out] at HDO
          have HKN := Lib.hid (KN.out V2)
          go_wp2_with (first
            | (go_at_call 26; (with_reducible refine HDO.out.mono ?_); rintro e V3 ⟨rfl, rfl⟩)
            | (go_at_call 16; (with_reducible refine HKN.out.mono ?_); rintro e V4 ⟨rfl, h4⟩; have H4 := Lib.hid h4; clear h4))
          go_ret
          have B3 := HB.out.trans (HG.out.mono HB.out.size)
          have B4 := B3.trans (HB2.out.mono B3.size)
          exact ⟨rfl, B4.trans (H4.out.mono B4.size)⟩
end Go.Proofs.Ytciijnhagdfpiaa
