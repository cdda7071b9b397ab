/-
  auto.Run: events one behind the other.
-/
import Derived.Test.YtpkmddagcfjadaaDoorAuMeth
namespace Go.Proofs.YtpkmddagcfjadaaDoor
open Go.RowKit
set_option maxRecDepth 100000
set_option maxHeartbeats 2000000
set_option linter.unusedSimpArgs false
set_option linter.unusedVariables false

/-- an append of whole numbers, wherever they lie -/
theorem appI_rd {w : World} {base B : Nat} {v : Value} {l k : List Int} {A : Option Addr} {n c : Nat} (h : OwnI w base v l) (hr : RdI w B A n k) (hz : A = none → c = 0) (hm : (l.length + n) * 8 ≤ 140737488355328) (hb : base ≤ w.heap.size) :
    ∃ v' w', (Builtin.append_ #[22, 22] 22 #[v, .slice A n c]).run Tryd.prog w = .ok v' w' ∧ OwnI w' base v' (l ++ k) ∧ w.grownBy w' v.ownBlock ∧ (v'.ownBlock = v.ownBlock ∨ v'.ownBlock = some w.heap.size) := by
  cases A with
  | none =>
    have hn : n = 0 := by
      rcases Nat.eq_zero_or_pos n with e | e
      · exact e
      · obtain ⟨b, off, e2, _⟩ := hr.2 e
        cases e2
    subst hn
    rw [hz rfl]
    obtain ⟨i, hi, _, h1, _⟩ := info_parts infoI
    refine ⟨v, w, run_append_owned_none w base 22 22 3 i 1 Tryd.underlying22 hi v _ _ h, ?_, World.grownBy.refl _ _, .inl rfl⟩
    rw [hr.of_zero, List.append_nil]
    exact h
  | some p =>
    rcases Nat.eq_zero_or_pos n with e | e
    · subst e
      have hk := hr.of_zero
      subst hk
      obtain ⟨i, hi, hz, h1, h2⟩ := info_parts infoI
      obtain ⟨v', w', hrun, h3, h4, _, h5⟩ := run_append_own_at (P := Tryd.prog) w base 22 22 3 i _ 1 8 Tryd.underlying22 hi hz h1 h2 rfl (by decide) v _ _ h p 0 c []
        rfl (fun j u hj => by simp at hj) (by simp) (by unfold maxLen; omega) (by omega) hb
      refine ⟨v', w', hrun, ?_, h4, h5⟩
      rw [List.append_nil] at h3 ⊢
      exact h3
    · obtain ⟨b, off, e2, hbl, hc⟩ := hr.2 e
      injection e2 with e2
      subst e2
      exact appI_any h b off n c k hr.1 hc hm hb

/-- what Run answers: state, counter, actions, error, place -/
structure RunR where
  s : Int
  c : Int
  l : List Int
  e : Int
  i : Int
def rnA (mc mt : Int) : List Int → Int → Int → List Int → Int → RunR
  | [], s, c, l, _ => ⟨s, c, l, 0, 0⟩
  | e :: r, s, c, l, i => if doE s c e = 0 then rnA mc mt r (doS s c e) (doC s c mc mt e) (l ++ doA s c e) (i + 1) else ⟨s, c, l, doE s c e, i⟩
def okN (mc mt : Int) : Bool := decide ((1 ≤ mc ∧ mc ≤ 255) ∧ (1 ≤ mt ∧ mt ≤ 255))
def rnR (mc mt : Int) (l : List Int) : RunR := if okN mc mt then rnA mc mt l 0 0 [] 0 else ⟨0, 0, [], 1, 0⟩
theorem rnA_step {mc mt : Int} {l : List Int} {k : Nat} {s c : Int} {a : List Int} (hk : k < l.length) (h : doE s c (numAt l k) = 0) :
    rnA mc mt (l.drop k) s c a k = rnA mc mt (l.drop (k + 1)) (doS s c (numAt l k)) (doC s c mc mt (numAt l k)) (a ++ doA s c (numAt l k)) ((k : Int) + 1) := by
  rw [List.drop_eq_getElem_cons hk, ← numAt_eq hk]
  exact if_pos h
theorem rnA_stop {mc mt : Int} {l : List Int} {k : Nat} {s c : Int} {a : List Int} (hk : k < l.length) (h : doE s c (numAt l k) ≠ 0) :
    rnA mc mt (l.drop k) s c a k = ⟨s, c, a, doE s c (numAt l k), k⟩ := by
  rw [List.drop_eq_getElem_cons hk, ← numAt_eq hk]
  exact if_neg h

def RunJ (w W : World) (g n : Nat) (mc mt : Int) (l : List Int) (R : RunR) (k : Nat) (v : Value) : Prop :=
  ∃ (s c : Int) (a : List Int), AuB W g s c mc mt ∧ OwnI W (g + 1) v a ∧ (0 ≤ c ∧ c ≤ 255) ∧ a.length ≤ 3 * k ∧ rnA mc mt (l.drop k) s c a k = R ∧ Below w.heap.size w W
theorem run_yes (mc mt : Int) (A : Option Addr) (n cap B : Nat) (l : List Int) (w : World) (hr : RdI w B A n l) (hB : B ≤ w.heap.size) (hm : n ≤ 5000000000000) (h1 : 1 ≤ mc ∧ mc ≤ 255) (h2 : 1 ≤ mt ∧ mt ≤ 255) (hT : TabA w) :
    Calls Tryd.prog 30 #[.int .i64 mc, .int .i64 mt, .slice A n cap] w fun r w' => ∃ v, r = .returned (.tuple #[.int .i64 (rnA mc mt l 0 0 [] 0).s, .int .i64 (rnA mc mt l 0 0 [] 0).c, v, .int .i64 (rnA mc mt l 0 0 [] 0).e, .int .i64 (rnA mc mt l 0 0 [] 0).i]) ∧
      OwnI w' w.heap.size v (rnA mc mt l 0 0 [] 0).l ∧ Below w.heap.size w w' := by
  obtain ⟨R, hR⟩ : ∃ R, rnA mc mt l 0 0 [] 0 = R := ⟨_, rfl⟩
  rw [hR]
  have HR := Lib.hid hR
  have HL : Hid (l.length = n) := hr.1
  have HI := Lib.hid hr
  have HT := Lib.hid hT
  have NW := Lib.hid (new_yes mc mt w h1 h2)
  have hgt := hT.lt
  have b1 : Hid (0 ≤ mc ∧ mc ≤ 255) := ⟨by omega, h1.2⟩
  have b2 : Hid (0 ≤ mt ∧ mt ≤ 255) := ⟨by omega, h2.2⟩
  clear hR hr hT h1 h2
  go_enter Tryd.func30, Tryd.ntmps30
  go_wp2_with (go_at_call 26; refine NW.out.mono ?_; rintro e w1 ⟨rfl, ha, hb⟩; have HA := Lib.hid ha; have HB := Lib.hid hb; clear ha hb)
  have HJ : Hid (RunJ w w1 w.heap.size n mc mt l R 0 (.slice none 0 0)) := ⟨0, 0, [], HA.out, OwnI.nil _ _, by omega, by simp, by rw [List.drop_zero]; exact HR.out, HB.out⟩
  clear NW HA HB
  go_loopw [24, 12] (fun i v wr => ∃ k : Nat, k ≤ n ∧ i = .int .i64 k ∧ RunJ w wr w.heap.size n mc mt l R k v) (fun i _ _ => n - (intOf i).toNat)
  case atStart => exact ⟨0, Nat.zero_le _, rfl, HJ.out⟩
  case round =>
    rename_i wr
    obtain ⟨k, hk, rfl, s, c, a, ha, ho, hc, hal, hrn, hb⟩ := hrel
    obtain ⟨A0, c0, rfl, hc0, hz0⟩ := ho.slice
    by_cases hlt : k < n
    · have hri := HI.out.below hb hB
      obtain ⟨b, off, rfl, hb2, hcc⟩ := hri.2 (by omega)
      have hcell := hcc k hlt
      have D := do_any w.heap.size s c mc mt (numAt l k) wr ha (HT.out.keptB hb hgt) b1.out b2.out hc
      have hst := rnA_step (mc := mc) (mt := mt) (s := s) (c := c) (a := a) (show k < l.length by have := HL.out; omega)
      have hsp := rnA_stop (mc := mc) (mt := mt) (s := s) (c := c) (a := a) (show k < l.length by have := HL.out; omega)
      have hbd := doC_bounds (s := s) (e := numAt l k) b1.out b2.out hc
      have hdl := doA_length s c (numAt l k)
      obtain ⟨y, hy⟩ : ∃ y, numAt l k = y := ⟨_, rfl⟩
      rw [hy] at hcell D hst hsp hbd hdl
      by_cases hE : doE s c y = 0
      · rw [hE] at D
        have hst := hst hE
        have key : ∀ W v, OwnI W wr.heap.size v (doA s c y) → AuB W w.heap.size (doS s c y) (doC s c mc mt y) mc mt → wr.grownBy W (some w.heap.size) →
            ∃ A1 c1 v' W', v = .slice A1 (doA s c y).length c1 ∧ (Builtin.append_ #[22, 22] 22 #[.slice A0 a.length c0, .slice A1 (doA s c y).length c1]).run Tryd.prog W = .ok v' W' ∧
              RunJ w W' w.heap.size n mc mt l R (k + 1) v' := by
          intro W v ho2 ha2 hg
          obtain ⟨A1, c1, rfl, _, hz1⟩ := ho2.slice
          have hsz := hg.size
          have hszb := hb.size
          have hlt2 := ha.lt
          have hfa : (Value.slice A0 a.length c0).ownBlock = none ∨ (Value.slice A0 a.length c0).ownBlock ≠ some w.heap.size := by
            rcases h : (Value.slice A0 a.length c0).ownBlock with _ | j
            · exact .inl rfl
            · have := ho.form.2 j h
              exact .inr (fun e => by injection e; omega)
          obtain ⟨v', W', hrun, h3, h4, h5⟩ := appI_rd (ho.grown hg hfa) ho2.rd.1 hz1 (by omega) (by omega)
          refine ⟨A1, c1, v', W', rfl, hrun, doS s c y, doC s c mc mt y, a ++ doA s c y, ?_, h3, hbd, by rw [List.length_append]; omega, ?_, ?_⟩
          · refine Blk.grown ha2 h4 (fun e => ?_)
            have := ho.form.2 _ e
            omega
          · rw [Int.natCast_succ, ← hst, hrn]
          · refine Below.grown (Below.grown hb hg hszb (fun j e => by injection e; omega)) h4 (by omega) (fun j e => ?_)
            have := ho.form.2 _ e
            omega
        have KEY := Lib.hid key
        have DD := Lib.hid D
        clear ha ho hc hal hrn hb hri hcc D hst hsp hbd hy hE key hdl
        go_wp2_with (first
          | (go_at_call 33; refine DD.out.mono ?_; rintro e W2 ⟨v, rfl, ho2, ha2, hg⟩; obtain ⟨A1, c1, v', W', rfl, hrun, hj⟩ := KEY.out W2 v ho2 ha2 hg; have RUN := Lib.hid hrun; have HJ2 := Lib.hid hj; clear ho2 ha2 hg hrun hj KEY DD)
          | (at_builtin; refine wpList_appR 22 22 rfl (.tmp 48) (.tmp 49) rfl _ _ rfl rfl _ _ RUN.out ?_))
        go_roundw
        case rel => exact ⟨k + 1, by omega, by go_num, HJ2.out⟩
        case measure => simp [intOf]; omega
      · have hsp := (hsp hE).symm.trans hrn
        obtain ⟨x, hx⟩ : ∃ x, doE s c y = x := ⟨_, rfl⟩
        obtain ⟨r1, r2, r3⟩ := do_refused (mc := mc) (mt := mt) rfl hE
        rw [r1, r2, r3, hx] at D
        rw [hx] at hsp hE
        have hx2 : (x != 0) = true := by simpa using hE
        have key : ∀ W v, OwnI W wr.heap.size v [] → AuB W w.heap.size s c mc mt → wr.grownBy W (some w.heap.size) →
            (W.cell? ⟨w.heap.size, 0, none⟩ = some (.int .i64 s) ∧ W.cell? ⟨w.heap.size, 1, none⟩ = some (.int .i64 c)) ∧ OwnI W w.heap.size (.slice A0 a.length c0) a ∧ Below w.heap.size w W := by
          intro W v ho2 ha2 hg
          have hszb := hb.size
          have hfa : (Value.slice A0 a.length c0).ownBlock = none ∨ (Value.slice A0 a.length c0).ownBlock ≠ some w.heap.size := by
            rcases h : (Value.slice A0 a.length c0).ownBlock with _ | j
            · exact .inl rfl
            · have := ho.form.2 j h
              exact .inr (fun e => by injection e; omega)
          exact ⟨⟨ha2.cell 0, ha2.cell 1⟩, (ho.grown hg hfa).wide (by omega), Below.grown hb hg hszb (fun j e => by injection e; omega)⟩
        have KEY := Lib.hid key
        have DD := Lib.hid D
        have SP := Lib.hid hsp
        clear ha ho hc hal hrn hb hri hcc D hst hsp hbd hy hE key hdl hx r1 r2 r3
        go_wp2_with (go_at_call 33; refine DD.out.mono ?_; rintro e W2 ⟨v, rfl, ho2, ha2, hg⟩; obtain ⟨⟨q0, q1⟩, ho3, hb3⟩ := KEY.out W2 v ho2 ha2 hg; have HO := Lib.hid ho3; have HB := Lib.hid hb3; clear ho2 ha2 hg ho3 hb3 KEY DD)
        go_quiet (fail)
        go_wp2
        refine bodyPost_ret (v := .tuple #[.int .i64 s, .int .i64 c, .slice A0 a.length c0, .int .i64 x, .int .i64 k]) (by simp [results, Tryd.results30, go_sem]) rfl ⟨_, by rw [← SP.out], by rw [← SP.out]; exact HO.out.drewN _, below_drewN HB.out _⟩
    · obtain rfl : k = n := by omega
      have k0 : wr.cell? ⟨w.heap.size, 0, none⟩ = some (.int .i64 s) := ha.cell 0
      have k1 : wr.cell? ⟨w.heap.size, 1, none⟩ = some (.int .i64 c) := ha.cell 1
      rw [List.drop_of_length_le (by have := HL.out; omega)] at hrn
      have SP : Hid (R = ⟨s, c, a, 0, 0⟩) := hrn.symm
      have HO := Lib.hid (ho.wide (show w.heap.size ≤ w.heap.size + 1 by omega))
      have HB := Lib.hid hb
      clear ha ho hc hal hrn hb
      go_wp2
      go_quiet (fail)
      go_wp2
      refine bodyPost_ret (v := .tuple #[.int .i64 s, .int .i64 c, .slice A0 a.length c0, .int .i64 0, .int .i64 0]) (by simp [results, Tryd.results30, go_sem]) rfl ⟨_, by rw [SP.out], by rw [SP.out]; exact HO.out.drewN _, below_drewN HB.out _⟩
theorem run_no (mc mt : Int) (A : Option Addr) (n cap : Nat) (w : World) (h : ¬ ((1 ≤ mc ∧ mc ≤ 255) ∧ (1 ≤ mt ∧ mt ≤ 255))) :
    Calls Tryd.prog 30 #[.int .i64 mc, .int .i64 mt, .slice A n cap] w fun r w' => r = .returned (.tuple #[.int .i64 0, .int .i64 0, .slice none 0 0, .int .i64 1, .int .i64 0]) ∧ w = w' := by
  have H := Lib.hid (new_no mc mt w h)
  clear h
  go_enter Tryd.func30, Tryd.ntmps30
  go_wp2_with (go_at_call 26; refine H.out.mono ?_; rintro e w1 ⟨rfl, rfl⟩)
  refine bodyPost_ret (v := .tuple #[.int .i64 0, .int .i64 0, .slice none 0 0, .int .i64 1, .int .i64 0]) (by simp [results, Tryd.results30, go_sem]) rfl ⟨rfl, rfl⟩
theorem arun_any (mc mt : Int) (A : Option Addr) (n cap B : Nat) (l : List Int) (w : World) (hr : RdI w B A n l) (hB : B ≤ w.heap.size) (hm : n ≤ 5000000000000) (hT : TabA w) :
    Calls Tryd.prog 30 #[.int .i64 mc, .int .i64 mt, .slice A n cap] w fun r w' => ∃ v, r = .returned (.tuple #[.int .i64 (rnR mc mt l).s, .int .i64 (rnR mc mt l).c, v, .int .i64 (rnR mc mt l).e, .int .i64 (rnR mc mt l).i]) ∧
      OwnI w' w.heap.size v (rnR mc mt l).l ∧ Below w.heap.size w w' := by
  by_cases h : (1 ≤ mc ∧ mc ≤ 255) ∧ (1 ≤ mt ∧ mt ≤ 255)
  · have e : rnR mc mt l = rnA mc mt l 0 0 [] 0 := by unfold rnR okN; rw [decide_eq_true h]; rfl
    rw [e]
    exact run_yes mc mt A n cap B l w hr hB hm h.1 h.2 hT
  · have e : rnR mc mt l = ⟨0, 0, [], 1, 0⟩ := by unfold rnR okN; rw [decide_eq_false h]; rfl
    rw [e]
    refine (run_no mc mt A n cap w h).mono ?_
    rintro r w' ⟨rfl, rfl⟩
    exact ⟨_, rfl, OwnI.nil _ _, Below.refl _ _⟩
end Go.Proofs.YtpkmddagcfjadaaDoor
