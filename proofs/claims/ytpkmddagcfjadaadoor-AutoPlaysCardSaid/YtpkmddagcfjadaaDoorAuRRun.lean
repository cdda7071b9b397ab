/-
  The reference's Timeout and Run: the walks.
-/
import Derived.Test.YtpkmddagcfjadaaDoorAuRDoW
namespace Go.Proofs.YtpkmddagcfjadaaDoor
open Go.RowKit
set_option maxRecDepth 100000
set_option maxHeartbeats 4000000
set_option linter.unusedSimpArgs false
set_option linter.unusedVariables false

theorem rtimeout_any (g : Nat) (s c mc mt : Int) (w : World) (ha : RAuB w g s c mc mt) (h1 : 0 ≤ mc ∧ mc ≤ 255) (h2 : 0 ≤ mt ∧ mt ≤ 255) (h3 : 0 ≤ c ∧ c ≤ 255) :
    Calls Tryd.prog 45 #[.pointer (some ⟨g, 0, none⟩)] w fun r w' => ∃ v, r = .returned (.tuple #[v, .int .i64 (toE s c)]) ∧ OwnI w' w.heap.size v (toA s c) ∧ RAuB w' g (toS s c) (toC s c mc mt) mc mt ∧ w.grownBy w' (some g) := by
  have RN := Lib.hid (rruns_any s w)
  have k2 : w.cell? ⟨g, 2, none⟩ = some (.int .i64 s) := ha.cell 2
  have k1 : w.cell? ⟨g, 3, none⟩ = some (.int .i64 c) := ha.cell 3
  cases hr : runsB s with
  | false =>
    obtain ⟨e1, e2, e3, e4⟩ := to_not (c := c) (mc := mc) (mt := mt) hr
    rw [e1, e2, e3, e4]
    rw [hr] at RN
    have HA := Lib.hid ha
    clear ha hr e1 e2 e3 e4 h1 h2
    go_enter Tryd.func45, Tryd.ntmps45
    go_wp2_with (go_at_call 20; ((with_reducible refine RN.out.mono ?_); rintro e w' ⟨rfl, rfl⟩))
    go_ret2
    exact ⟨_, rfl, OwnI.nil _ _, HA.out, World.grownBy.refl _ _⟩
  | true =>
    obtain ⟨e1, e2, e3, e4⟩ := to_runs (c := c) (mc := mc) (mt := mt) hr
    rw [e1, e2, e3, e4]
    rw [hr] at RN
    clear e1 e2 e3 e4 hr
    unfold tev
    by_cases hc : 0 < c
    · rw [if_pos hc]
      have D := Lib.hid (rdo_any g s c mc mt 4 w ha h1 h2 h3)
      clear ha h1 h2
      go_enter Tryd.func45, Tryd.ntmps45
      go_wp2_with (first
        | (go_at_call 20; ((with_reducible refine RN.out.mono ?_); rintro e w' ⟨rfl, rfl⟩))
        | (go_at_call 44; ((with_reducible refine D.out.mono ?_); rintro e w' ⟨v, rfl, ho, ha, hg⟩; obtain ⟨A0, c0, rfl, _, _⟩ := ho.slice; have HO := Lib.hid ho; have HA := Lib.hid ha; have HG := Lib.hid hg; clear ho ha hg)))
      go_ret2
      exact ⟨_, rfl, HO.out, HA.out, HG.out⟩
    · rw [if_neg hc]
      have D := Lib.hid (rdo_any g s c mc mt 5 w ha h1 h2 h3)
      clear ha h1 h2
      go_enter Tryd.func45, Tryd.ntmps45
      go_wp2_with (first
        | (go_at_call 20; ((with_reducible refine RN.out.mono ?_); rintro e w' ⟨rfl, rfl⟩))
        | (go_at_call 44; ((with_reducible refine D.out.mono ?_); rintro e w' ⟨v, rfl, ho, ha, hg⟩; obtain ⟨A0, c0, rfl, _, _⟩ := ho.slice; have HO := Lib.hid ho; have HA := Lib.hid ha; have HG := Lib.hid hg; clear ho ha hg)))
      go_ret2
      exact ⟨_, rfl, HO.out, HA.out, HG.out⟩

def RRunJ (w W : World) (g n : Nat) (mc mt : Int) (l : List Int) (R : RunR) (k : Nat) (v : Value) : Prop :=
  ∃ (s c : Int) (a : List Int), RAuB W g s c mc mt ∧ OwnI W (g + 1) v a ∧ (0 ≤ c ∧ c ≤ 255) ∧ a.length ≤ 3 * k ∧ rnA mc mt (l.drop k) s c a k = R ∧ Below w.heap.size w W
theorem rrun_yes (mc mt : Int) (A : Option Addr) (n cap B : Nat) (l : List Int) (w : World) (hr : RdI w B A n l) (hB : B ≤ w.heap.size) (hm : n ≤ 5000000000000) (h1 : 1 ≤ mc ∧ mc ≤ 255) (h2 : 1 ≤ mt ∧ mt ≤ 255) :
    Calls Tryd.prog 31 #[.int .i64 mc, .int .i64 mt, .slice A n cap] w fun r w' => ∃ v, r = .returned (.tuple #[.int .i64 (rnA mc mt l 0 0 [] 0).s, .int .i64 (rnA mc mt l 0 0 [] 0).c, v, .int .i64 (rnA mc mt l 0 0 [] 0).e, .int .i64 (rnA mc mt l 0 0 [] 0).i]) ∧
      OwnI w' w.heap.size v (rnA mc mt l 0 0 [] 0).l ∧ Below w.heap.size w w' := by
  obtain ⟨R, hR⟩ : ∃ R, rnA mc mt l 0 0 [] 0 = R := ⟨_, rfl⟩
  rw [hR]
  have HR := Lib.hid hR
  have HL : Hid (l.length = n) := hr.1
  have HI := Lib.hid hr
  have NW := Lib.hid (rnew_yes mc mt w h1 h2)
  have b1 : Hid (0 ≤ mc ∧ mc ≤ 255) := ⟨by omega, h1.2⟩
  have b2 : Hid (0 ≤ mt ∧ mt ≤ 255) := ⟨by omega, h2.2⟩
  clear hR hr h1 h2
  go_enter Tryd.func31, Tryd.ntmps31
  go_wp2_with (go_at_call 27; refine NW.out.mono ?_; rintro e w1 ⟨rfl, ha, hb⟩; have HA := Lib.hid ha; have HB := Lib.hid hb; clear ha hb)
  have HJ : Hid (RRunJ w w1 w.heap.size n mc mt l R 0 (.slice none 0 0)) := ⟨0, 0, [], HA.out, OwnI.nil _ _, by omega, by simp, by rw [List.drop_zero]; exact HR.out, HB.out⟩
  clear NW HA HB
  go_loopw [24, 12] (fun i v wr => ∃ k : Nat, k ≤ n ∧ i = .int .i64 k ∧ RRunJ w wr w.heap.size n mc mt l R k v) (fun i _ _ => n - (intOf i).toNat)
  case atStart => exact ⟨0, Nat.zero_le _, rfl, HJ.out⟩
  case round =>
    rename_i wr
    obtain ⟨k, hk, rfl, s, c, a, ha, ho, hc, hal, hrn, hb⟩ := hrel
    obtain ⟨A0, c0, rfl, hc0, hz0⟩ := ho.slice
    by_cases hlt : k < n
    · have hri := HI.out.below hb hB
      obtain ⟨b, off, rfl, hb2, hcc⟩ := hri.2 (by omega)
      have hcell := hcc k hlt
      have D := rdo_any w.heap.size s c mc mt (numAt l k) wr ha b1.out b2.out hc
      have hst := rnA_step (mc := mc) (mt := mt) (s := s) (c := c) (a := a) (show k < l.length by have := HL.out; omega)
      have hsp := rnA_stop (mc := mc) (mt := mt) (s := s) (c := c) (a := a) (show k < l.length by have := HL.out; omega)
      have hbd := doC_bounds (s := s) (e := numAt l k) b1.out b2.out hc
      have hdl := doA_length s c (numAt l k)
      obtain ⟨y, hy⟩ : ∃ y, numAt l k = y := ⟨_, rfl⟩
      rw [hy] at hcell D hst hsp hbd hdl
      by_cases hE : doE s c y = 0
      · rw [hE] at D
        have hst := hst hE
        have key : ∀ W v, OwnI W wr.heap.size v (doA s c y) → RAuB W w.heap.size (doS s c y) (doC s c mc mt y) mc mt → wr.grownBy W (some w.heap.size) →
            ∃ A1 c1 v' W', v = .slice A1 (doA s c y).length c1 ∧ (Builtin.append_ #[22, 22] 22 #[.slice A0 a.length c0, .slice A1 (doA s c y).length c1]).run Tryd.prog W = .ok v' W' ∧
              RRunJ w W' w.heap.size n mc mt l R (k + 1) v' := by
          intro W v ho2 ha2 hg
          obtain ⟨A1, c1, rfl, _, hz1⟩ := ho2.slice
          have hsz := hg.size
          have hszb := hb.size
          have hlt2 := ha.lt
          have hfa : (Value.slice A0 a.length c0).ownBlock = none ∨ (Value.slice A0 a.length c0).ownBlock ≠ some w.heap.size := by
            rcases h : (Value.slice A0 a.length c0).ownBlock with _ | j
            · exact .inl rfl
            · have := ho.form.2 j h
              exact .inr (fun e => by injection e; omega)
          obtain ⟨v', W', hrun, h3, h4, h5⟩ := appI_rd (ho.grown hg hfa) ho2.rd.1 hz1 (by omega) (by omega)
          refine ⟨A1, c1, v', W', rfl, hrun, doS s c y, doC s c mc mt y, a ++ doA s c y, ?_, h3, hbd, by rw [List.length_append]; omega, ?_, ?_⟩
          · refine Blk.grown ha2 h4 (fun e => ?_)
            have := ho.form.2 _ e
            omega
          · rw [Int.natCast_succ, ← hst, hrn]
          · refine Below.grown (Below.grown hb hg hszb (fun j e => by injection e; omega)) h4 (by omega) (fun j e => ?_)
            have := ho.form.2 _ e
            omega
        have KEY := Lib.hid key
        have DD := Lib.hid D
        clear ha ho hc hal hrn hb hri hcc D hst hsp hbd hy hE key hdl
        go_wp2_with (first
          | (go_at_call 44; refine DD.out.mono ?_; rintro e W2 ⟨v, rfl, ho2, ha2, hg⟩; obtain ⟨A1, c1, v', W', rfl, hrun, hj⟩ := KEY.out W2 v ho2 ha2 hg; have RUN := Lib.hid hrun; have HJ2 := Lib.hid hj; clear ho2 ha2 hg hrun hj KEY DD)
          | (at_builtin; refine wpList_appR 22 22 rfl (.tmp 48) (.tmp 49) rfl _ _ rfl rfl _ _ RUN.out ?_))
        go_roundw
        case rel => exact ⟨k + 1, by omega, by go_num, HJ2.out⟩
        case measure => simp [intOf]; omega
      · have hsp := (hsp hE).symm.trans hrn
        obtain ⟨x, hx⟩ : ∃ x, doE s c y = x := ⟨_, rfl⟩
        obtain ⟨r1, r2, r3⟩ := do_refused (mc := mc) (mt := mt) rfl hE
        rw [r1, r2, r3, hx] at D
        rw [hx] at hsp hE
        have hx2 : (x != 0) = true := by simpa using hE
        have key : ∀ W v, OwnI W wr.heap.size v [] → RAuB W w.heap.size s c mc mt → wr.grownBy W (some w.heap.size) →
            (W.cell? ⟨w.heap.size, 2, none⟩ = some (.int .i64 s) ∧ W.cell? ⟨w.heap.size, 3, none⟩ = some (.int .i64 c)) ∧ OwnI W w.heap.size (.slice A0 a.length c0) a ∧ Below w.heap.size w W := by
          intro W v ho2 ha2 hg
          have hszb := hb.size
          have hfa : (Value.slice A0 a.length c0).ownBlock = none ∨ (Value.slice A0 a.length c0).ownBlock ≠ some w.heap.size := by
            rcases h : (Value.slice A0 a.length c0).ownBlock with _ | j
            · exact .inl rfl
            · have := ho.form.2 j h
              exact .inr (fun e => by injection e; omega)
          exact ⟨⟨ha2.cell 2, ha2.cell 3⟩, (ho.grown hg hfa).wide (by omega), Below.grown hb hg hszb (fun j e => by injection e; omega)⟩
        have KEY := Lib.hid key
        have DD := Lib.hid D
        have SP := Lib.hid hsp
        clear ha ho hc hal hrn hb hri hcc D hst hsp hbd hy hE key hdl hx r1 r2 r3
        go_wp2_with (go_at_call 44; refine DD.out.mono ?_; rintro e W2 ⟨v, rfl, ho2, ha2, hg⟩; obtain ⟨⟨q0, q1⟩, ho3, hb3⟩ := KEY.out W2 v ho2 ha2 hg; have HO := Lib.hid ho3; have HB := Lib.hid hb3; clear ho2 ha2 hg ho3 hb3 KEY DD)
        go_quiet (fail)
        go_wp2
        refine bodyPost_ret (v := .tuple #[.int .i64 s, .int .i64 c, .slice A0 a.length c0, .int .i64 x, .int .i64 k]) (by simp [results, Tryd.results31, go_sem]) rfl ⟨_, by rw [← SP.out], by rw [← SP.out]; exact HO.out.drewN _, below_drewN HB.out _⟩
    · obtain rfl : k = n := by omega
      have k0 : wr.cell? ⟨w.heap.size, 2, none⟩ = some (.int .i64 s) := ha.cell 2
      have k1 : wr.cell? ⟨w.heap.size, 3, none⟩ = some (.int .i64 c) := ha.cell 3
      rw [List.drop_of_length_le (by have := HL.out; omega)] at hrn
      have SP : Hid (R = ⟨s, c, a, 0, 0⟩) := hrn.symm
      have HO := Lib.hid (ho.wide (show w.heap.size ≤ w.heap.size + 1 by omega))
      have HB := Lib.hid hb
      clear ha ho hc hal hrn hb
      go_wp2
      go_quiet (fail)
      go_wp2
      refine bodyPost_ret (v := .tuple #[.int .i64 s, .int .i64 c, .slice A0 a.length c0, .int .i64 0, .int .i64 0]) (by simp [results, Tryd.results31, go_sem]) rfl ⟨_, by rw [SP.out], by rw [SP.out]; exact HO.out.drewN _, below_drewN HB.out _⟩
theorem rrun_no (mc mt : Int) (A : Option Addr) (n cap : Nat) (w : World) (h : ¬ ((1 ≤ mc ∧ mc ≤ 255) ∧ (1 ≤ mt ∧ mt ≤ 255))) :
    Calls Tryd.prog 31 #[.int .i64 mc, .int .i64 mt, .slice A n cap] w fun r w' => r = .returned (.tuple #[.int .i64 0, .int .i64 0, .slice none 0 0, .int .i64 1, .int .i64 0]) ∧ w = w' := by
  have H := Lib.hid (rnew_no mc mt w h)
  clear h
  go_enter Tryd.func31, Tryd.ntmps31
  go_wp2_with (go_at_call 27; refine H.out.mono ?_; rintro e w1 ⟨rfl, rfl⟩)
  refine bodyPost_ret (v := .tuple #[.int .i64 0, .int .i64 0, .slice none 0 0, .int .i64 1, .int .i64 0]) (by simp [results, Tryd.results31, go_sem]) rfl ⟨rfl, rfl⟩
theorem rarun_any (mc mt : Int) (A : Option Addr) (n cap B : Nat) (l : List Int) (w : World) (hr : RdI w B A n l) (hB : B ≤ w.heap.size) (hm : n ≤ 5000000000000) :
    Calls Tryd.prog 31 #[.int .i64 mc, .int .i64 mt, .slice A n cap] w fun r w' => ∃ v, r = .returned (.tuple #[.int .i64 (rnR mc mt l).s, .int .i64 (rnR mc mt l).c, v, .int .i64 (rnR mc mt l).e, .int .i64 (rnR mc mt l).i]) ∧
      OwnI w' w.heap.size v (rnR mc mt l).l ∧ Below w.heap.size w w' := by
  by_cases h : (1 ≤ mc ∧ mc ≤ 255) ∧ (1 ≤ mt ∧ mt ≤ 255)
  · have e : rnR mc mt l = rnA mc mt l 0 0 [] 0 := by unfold rnR okN; rw [decide_eq_true h]; rfl
    rw [e]
    exact rrun_yes mc mt A n cap B l w hr hB hm h.1 h.2
  · have e : rnR mc mt l = ⟨0, 0, [], 1, 0⟩ := by unfold rnR okN; rw [decide_eq_false h]; rfl
    rw [e]
    refine (rrun_no mc mt A n cap w h).mono ?_
    rintro r w' ⟨rfl, rfl⟩
    exact ⟨_, rfl, OwnI.nil _ _, Below.refl _ _⟩
end Go.Proofs.YtpkmddagcfjadaaDoor
