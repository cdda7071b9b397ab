/-
  The reference's Next.
-/
import Derived.Test.YtdjifjlkpimiaaaPoRef
import Derived.Deep.RegionLaw
import Derived.Deep.DeepCutAuto
namespace Go.Proofs.Ytdjifjlkpimiaaa
open Go.RowKit
set_option maxRecDepth 100000
set_option maxHeartbeats 8000000
set_option linter.unusedSimpArgs false
set_option linter.unusedVariables false

/-- times of the call's own -/
def OwnJ (w : World) (base : Nat) (v : Value) (l : List Int) : Prop := w.ownsRow base 2 1 v l.length (l.map fun z => .int .i64 z)
theorem infoJ : (Try.prog.info? 2).map (fun i => (i.zero, i.size, i.bytes)) = some (some (.int .i64 0), 1, 8) := by kernel_rfl
theorem OwnJ.new (w : World) : OwnJ (w.alloc (.cells #[] 2)) w.heap.size (.slice (some ⟨w.heap.size, 0, none⟩) 0 0) [] :=
  ⟨by simp, .inr ⟨w.heap.size, 0, _, rfl, Nat.le_refl _, heap_alloc_new w _, Nat.zero_le _, by unfold maxLen; omega, by simp, by simp⟩⟩
theorem OwnJ.shape {w : World} {base : Nat} {v : Value} {l : List Int} (h : OwnJ w base v l) : ∃ A n c, v = .slice A n c ∧ n = l.length ∧ ∀ j, j < l.length → ∃ q, A = some ⟨q, 0, none⟩ ∧ w.cell? ⟨q, j, none⟩ = some (.int .i64 (numAt l j)) := by
  rcases h.2 with ⟨e, h0⟩ | ⟨g, cap, cur, rfl, hb, hg, hc, hm, _⟩
  · exact ⟨none, 0, 0, e, h0.symm, fun j hj => by omega⟩
  · refine ⟨_, _, _, rfl, rfl, fun j hj => ⟨g, rfl, ?_⟩⟩
    have h0 := World.ownsRow.cells h (g := g) rfl j (.int .i64 (numAt l j)) (by rw [List.getElem?_map, numAt_some hj]; rfl)
    rwa [addr_add] at h0
theorem appJ_one {W : World} {base : Nat} {v : Value} {l : List Int} (h : OwnJ W base v l) (z : Int) (hm : l.length ≤ 10) (hb : base ≤ W.heap.size) :
    ∃ v' w', (Builtin.append_ #[46, 46] 46 #[v, .slice (some ⟨W.heap.size, 0, none⟩) 1 1]).run Try.prog (W.alloc (.cells #[.int .i64 z] 2)).drew = .ok v' w' ∧ OwnJ w' base v' (l ++ [z]) ∧ Below base W w' := by
  obtain ⟨i, hi, hz, h1, h2⟩ := info_parts infoJ
  have hal : OwnJ (W.alloc (.cells #[.int .i64 z] 2)).drew base v l := World.ownsRow.alloc h _
  have hnew : Blk (W.alloc (.cells #[.int .i64 z] 2)).drew W.heap.size 2 [.int .i64 z] := blk_new W 2 [.int .i64 z]
  obtain ⟨v', w', hrun, h3, h4, _, h5⟩ := run_append_own_at (P := Try.prog) (W.alloc (.cells #[.int .i64 z] 2)).drew base 46 46 2 i _ 1 8 Try.underlying46 hi hz h1 h2 rfl (by decide) v _ _ hal ⟨W.heap.size, 0, none⟩ 1 1 [.int .i64 z]
    rfl (fun j u hj => by rw [addr_add]; exact (hnew.cell j).trans hj) (by intro u hu; simp at hu; subst hu; rfl) (by unfold maxLen; omega) (by omega) (by simp; omega)
  refine ⟨v', w', hrun, ?_, ((Below.refl base W).alloc hb _).drew.grown h4 (by simp; omega) (fun k e => ?_)⟩
  · unfold OwnJ
    rw [List.length_append, List.map_append]
    simpa using h3
  · rcases h.2 with ⟨rfl, _⟩ | ⟨q, cap, cur, rfl, hq, _⟩
    · cases e
    · simp [Value.ownBlock] at e
      omega
theorem step_appJ {w : World} {ops : Array Oper} {o : Oper} {a : Act} {K : Act → World → Prop} {Q : Exit → Act → World → Prop} {E : Prop} (hgd : o.guard = none) (s x : Operand)
    (ho : o.op = .call { callee := .builtin .append, args := #[s, x], argTypes := #[46, 46] }) (v u : Value) (hs : a.eval s = v) (hx : a.eval x = u)
    (v' : Value) (w2 : World) (hrun : (Builtin.append_ #[46, 46] o.type #[v, u]).run Try.prog w = .ok v' w2)
    (h : K (a.put o.dst v') w2) : if Region.wanted o (yielded ops a.tmps) = true then Oper.wp Try.prog o a w K Q else E := by
  have hw : Region.wanted o (yielded ops a.tmps) = true := by simp [Region.wanted, hgd]
  rw [if_pos hw]
  unfold Oper.wp execOp
  simp only [ho, resolve, invoke, builtin, Sem.run_bind, Sem.run_pure, Result.andThen_ok, List.map_toArray, List.map_cons, List.map_nil, hs, hx, hrun]
  exact h
/-- the least, as the reference seeks it -/
def rl (l : List Int) : Int := l.foldl (fun a t => if a < 0 ∨ t < a then t else a) (-1)
theorem rl_step {l : List Int} {k : Nat} (h : k < l.length) : rl (l.take (k + 1)) = if rl (l.take k) < 0 ∨ numAt l k < rl (l.take k) then numAt l k else rl (l.take k) := by
  unfold rl
  rw [List.take_succ_eq_append_getElem h, List.foldl_append, numAt_eq h]
  rfl
/-- what the reference's seeking comes to -/
theorem rl_fin (l : List (Int × Nat)) (hl : l.length ≤ 2) (h0 : ∀ p ∈ l, 0 ≤ p.1) : (rl (l.map Prod.fst) < 0 → nxV l = 0 ∧ nxE l = 5) ∧ (0 ≤ rl (l.map Prod.fst) → nxE l = 0 ∧ nxV l = if 1099511627776 < rl (l.map Prod.fst) then 1099511627776 else rl (l.map Prod.fst)) := by
  match l, hl with
  | [], _ => exact ⟨fun _ => ⟨rfl, rfl⟩, fun h => by simp [rl] at h⟩
  | [p], _ =>
    have := h0 p (by simp)
    have e : rl [p.1] = p.1 := by simp [rl]
    rw [show List.map Prod.fst [p] = [p.1] from rfl, e]
    refine ⟨fun h => by omega, fun h => ⟨rfl, ?_⟩⟩
    show least 1099511627776 p.1 = _
    unfold least
    split <;> split <;> omega
  | [p, q], _ =>
    have h1 := h0 p (by simp)
    have h2 := h0 q (by simp)
    have e : rl [p.1, q.1] = if q.1 < p.1 then q.1 else p.1 := by
      show (if (if (-1 : Int) < 0 ∨ p.1 < -1 then p.1 else -1) < 0 ∨ q.1 < (if (-1 : Int) < 0 ∨ p.1 < -1 then p.1 else -1) then q.1 else (if (-1 : Int) < 0 ∨ p.1 < -1 then p.1 else -1)) = _
      rw [if_pos (.inl (by omega) : (-1 : Int) < 0 ∨ p.1 < -1)]
      split <;> split <;> omega
    rw [show List.map Prod.fst [p, q] = [p.1, q.1] from rfl, e]
    refine ⟨fun h => ?_, fun h => ⟨rfl, ?_⟩⟩
    · exfalso
      split at h <;> omega
    · show least (least 1099511627776 p.1) q.1 = _
      unfold least
      repeat' split
      all_goals omega
theorem rnext_any (g : Nat) (cs : List Value) (x : PoS) (w : World) (hx : RpB w g cs x) (ho : PoOk x) :
    Calls Try.prog 36 #[.pointer (some ⟨g, 0, none⟩)] w fun e w' => e = .returned (.tuple #[.int .i64 (nxV (poDl x)), .int .i64 (nxE (poDl x))]) ∧ Below w.heap.size w w' := by
  have hse := ho.se
  have hil := ho.idl
  have hho := ho.ho
  have hra := ho.ran
  have hus := ho.us
  have hen := ho.en
  have hn := ho.now
  have hfin := rl_fin (poDl x) (dl_len x) (fun p hp => by
    unfold poDl at hp
    repeat' split at hp
    all_goals simp at hp
    all_goals first | (rcases hp with rfl | rfl <;> simp only <;> omega) | (subst hp; simp only; omega))
  obtain ⟨W0, hW0⟩ : ∃ W0, w.alloc (.cells #[] 2) = W0 := ⟨_, rfl⟩
  have B0 : Below w.heap.size w W0 := by rw [← hW0]; exact (Below.refl _ _).alloc (Nat.le_refl _) _
  have O0 : OwnJ W0 w.heap.size (.slice (some ⟨w.heap.size, 0, none⟩) 0 0) [] := by rw [← hW0]; exact OwnJ.new w
  have hv := hx.below B0
  have lg := hv.lt
  have d25 : W0.cell? ⟨g, 25, none⟩ = some (.int .i64 x.idl) := (hv.lo 25 (by omega)).trans hv.cf.2.1
  have d26 : W0.cell? ⟨g, 26, none⟩ = some (.int .i64 x.se) := (hv.lo 26 (by omega)).trans hv.cf.2.2.1
  have d27 : W0.cell? ⟨g, 27, none⟩ = some (.int .i64 x.ho) := (hv.lo 27 (by omega)).trans hv.cf.2.2.2.1
  have d33 : W0.cell? ⟨g, 33, none⟩ = some (.int .i64 x.st) := hv.hi 0
  have d38 : W0.cell? ⟨g, 38, none⟩ = some (.int .i64 x.ran) := hv.hi 5
  have d39 : W0.cell? ⟨g, 39, none⟩ = some (.int .i64 x.us) := hv.hi 6
  have d40 : W0.cell? ⟨g, 40, none⟩ = some (.int .i64 x.en) := hv.hi 7
  have hgw : g < w.heap.size := hx.lt
  have p1 : IntKind.i64.wrap (x.ran + x.se) = x.ran + x.se := IntWalk.i64_in _ (by omega)
  have p2 : IntKind.i64.wrap (x.us + x.idl) = x.us + x.idl := IntWalk.i64_in _ (by omega)
  have p3 : IntKind.i64.wrap (x.en + x.ho) = x.en + x.ho := IntWalk.i64_in _ (by omega)
  have HW := Lib.hid hW0
  have BW := Lib.hid B0
  have hdl : (poDl x).map Prod.fst = if x.st = 3 then (if x.se = 0 then [] else [x.ran + x.se]) ++ (if x.idl = 0 then [] else [x.us + x.idl]) else if x.st = 1 then [x.en + x.ho] else [] := by
    unfold poDl
    repeat' split
    all_goals simp
  obtain ⟨V, hV⟩ : ∃ V, nxV (poDl x) = V := ⟨_, rfl⟩
  obtain ⟨E, hE⟩ : ∃ E, nxE (poDl x) = E := ⟨_, rfl⟩
  rw [hV, hE] at hfin ⊢
  have FIN := Lib.hid hfin
  have DL := Lib.hid hdl
  clear hx ho hv hfin hdl hV hE hW0 B0
  generalize (poDl x).map Prod.fst = ts at FIN DL
  generalize x.st = st at *
  generalize x.now = nw at *
  generalize x.ran = ra at *
  generalize x.us = us at *
  generalize x.en = en at *
  generalize x.se = se at *
  generalize x.idl = il at *
  generalize x.ho = hf at *
  by_cases h3 : st = 3
  · subst h3
    by_cases k1 : se = 0
    · have t1 : decide (0 < se) = false := decide_eq_false (by omega)
      by_cases k2 : il = 0
      · have t2 : decide (0 < il) = false := decide_eq_false (by omega)
        have hts : ts = [] := DL.out.trans (by simp [k1, k2])
        have hts2 : ts.length ≤ 2 := by rw [hts]; simp
        have OO0 := Lib.hid O0
        obtain ⟨rfl, rfl⟩ := FIN.out.1 (by rw [hts]; simp [rl])
        clear hts2 FIN DL OO0
        clear hts hse hil hho hra hus hen hn
        go_enter Try.func36, Try.ntmps36
        go_upto_region 3 with (fail)
        rw [HW.out]
        go_wp2
        go_loop [4, 81] (fun a i => a = .int .i64 (-1) ∧ i = .int .i64 0) (fun _ _ => 0)
        case atStart => exact ⟨rfl, rfl⟩
        case round =>
          obtain ⟨rfl, rfl⟩ := hrel
          go_wp2
          go_ret2
          exact ⟨rfl, BW.out⟩
      · have t2 : decide (0 < il) = true := decide_eq_true (by omega)
        have hts : ts = [us + il] := DL.out.trans (by simp [k1, k2])
        have hts2 : ts.length ≤ 2 := by rw [hts]; simp
        have OO0 := Lib.hid O0
        obtain ⟨v1, w1, r1, o1, l1⟩ := appJ_one OO0.out (us + il) (by simp) BW.out.size
        have R1 := Lib.hid r1
        have OO1 := Lib.hid o1
        have BB1 : Hid (Below w.heap.size w w1) := BW.out.trans l1
        have e1_25 := (l1.cell (p := ⟨g, 25, none⟩) hgw).trans d25
        have e1_26 := (l1.cell (p := ⟨g, 26, none⟩) hgw).trans d26
        have e1_27 := (l1.cell (p := ⟨g, 27, none⟩) hgw).trans d27
        have e1_33 := (l1.cell (p := ⟨g, 33, none⟩) hgw).trans d33
        have e1_38 := (l1.cell (p := ⟨g, 38, none⟩) hgw).trans d38
        have e1_39 := (l1.cell (p := ⟨g, 39, none⟩) hgw).trans d39
        have e1_40 := (l1.cell (p := ⟨g, 40, none⟩) hgw).trans d40
        clear r1 o1 l1
        have OF : Hid (OwnJ w1 w.heap.size v1 ts) := by show OwnJ _ _ _ _; rw [hts]; exact OO1.out
        obtain ⟨A, n, c, hshape, hnl, hcl⟩ := OF.out.shape
        have HSH := Lib.hid hshape
        have HL2 := Lib.hid hts2
        have HNL := Lib.hid hnl
        have HCL := Lib.hid hcl
        clear hnl hcl hts2 hshape
        clear hts hse hil hho hra hus hen hn
        go_enter Try.func36, Try.ntmps36
        go_upto_region 3 with (fail)
        rw [HW.out]
        go_upto_region 6 with (fail)
        go_cut [5] (fun v W => v = v1 ∧ w1 = W)
        case first =>
          go_region_law (refine step_appJ rfl (.tmp 48) (.tmp 59) rfl _ _ rfl rfl _ _ R1.out ?_)
          all_goals (go_wp2_with (fail); go_meet; exact ⟨rfl, rfl⟩)
        obtain ⟨rfl, rfl⟩ := hcut
        have hshape := HSH.out
        clear HSH
        subst hshape
        go_wp2
        have HFN := FIN.out
        have hnn := HNL.out
        have hn2 : n ≤ 2 := by have := HL2.out; omega
        clear HFN
        go_loop [4, 81] (fun a i => ∃ (k : Nat) (lv : Int), k ≤ n ∧ a = .int .i64 lv ∧ i = .int .i64 k ∧ Hid (rl (ts.take k) = lv)) (fun _ i => n - (intOf i).toNat)
        case atStart => exact ⟨0, -1, Nat.zero_le _, rfl, rfl, rfl⟩
        case round =>
          obtain ⟨k, lv, hk, rfl, rfl, HJ⟩ := hrel
          by_cases hlt : k < n
          · obtain ⟨q, rfl, z0⟩ := HCL.out k (by omega)
            have hst := rl_step (l := ts) (k := k) (by omega)
            rw [HJ.out] at hst
            generalize numAt ts k = tv at z0 hst
            clear HJ hnn
            by_cases a0 : lv < 0
            · rw [if_pos (.inl a0)] at hst
              have HS := Lib.hid hst
              clear hst
              go_wp2
              go_round
              case rel => exact ⟨k + 1, tv, by omega, rfl, by go_num, HS⟩
              case measure => simp [intOf]; omega
            · by_cases a1 : tv < lv
              · rw [if_pos (.inr a1)] at hst
                have HS := Lib.hid hst
                clear hst
                go_wp2
                go_round
                case rel => exact ⟨k + 1, tv, by omega, rfl, by go_num, HS⟩
                case measure => simp [intOf]; omega
              · rw [if_neg (fun h => h.elim a0 a1)] at hst
                have HS := Lib.hid hst
                clear hst
                go_wp2
                go_round
                case rel => exact ⟨k + 1, lv, by omega, rfl, by go_num, HS⟩
                case measure => simp [intOf]; omega
          · obtain rfl : k = n := by omega
            have e := HJ.out
            rw [hnn, List.take_length] at e
            obtain ⟨f1, f2⟩ := FIN.out
            rw [e] at f1 f2
            clear HJ hnn FIN DL
            by_cases a0 : lv < 0
            · obtain ⟨rfl, rfl⟩ := f1 a0
              clear f1 f2 e
              go_wp2
              go_ret2
              exact ⟨rfl, BB1.out⟩
            · obtain ⟨rfl, hV⟩ := f2 (by omega)
              by_cases a1 : 1099511627776 < lv
              · rw [if_pos a1] at hV
                subst hV
                clear f1 f2 e
                go_wp2
                go_ret2
                exact ⟨rfl, BB1.out⟩
              · rw [if_neg a1] at hV
                subst hV
                clear f1 f2 e
                go_wp2
                go_ret2
                exact ⟨rfl, BB1.out⟩
    · have t1 : decide (0 < se) = true := decide_eq_true (by omega)
      by_cases k2 : il = 0
      · have t2 : decide (0 < il) = false := decide_eq_false (by omega)
        have hts : ts = [ra + se] := DL.out.trans (by simp [k1, k2])
        have hts2 : ts.length ≤ 2 := by rw [hts]; simp
        have OO0 := Lib.hid O0
        obtain ⟨v1, w1, r1, o1, l1⟩ := appJ_one OO0.out (ra + se) (by simp) BW.out.size
        have R1 := Lib.hid r1
        have OO1 := Lib.hid o1
        have BB1 : Hid (Below w.heap.size w w1) := BW.out.trans l1
        have e1_25 := (l1.cell (p := ⟨g, 25, none⟩) hgw).trans d25
        have e1_26 := (l1.cell (p := ⟨g, 26, none⟩) hgw).trans d26
        have e1_27 := (l1.cell (p := ⟨g, 27, none⟩) hgw).trans d27
        have e1_33 := (l1.cell (p := ⟨g, 33, none⟩) hgw).trans d33
        have e1_38 := (l1.cell (p := ⟨g, 38, none⟩) hgw).trans d38
        have e1_39 := (l1.cell (p := ⟨g, 39, none⟩) hgw).trans d39
        have e1_40 := (l1.cell (p := ⟨g, 40, none⟩) hgw).trans d40
        clear r1 o1 l1
        have OF : Hid (OwnJ w1 w.heap.size v1 ts) := by show OwnJ _ _ _ _; rw [hts]; exact OO1.out
        obtain ⟨A, n, c, hshape, hnl, hcl⟩ := OF.out.shape
        have HSH := Lib.hid hshape
        have HL2 := Lib.hid hts2
        have HNL := Lib.hid hnl
        have HCL := Lib.hid hcl
        clear hnl hcl hts2 hshape
        clear hts hse hil hho hra hus hen hn
        go_enter Try.func36, Try.ntmps36
        go_upto_region 3 with (fail)
        rw [HW.out]
        go_upto_region 4 with (fail)
        go_cut [5] (fun v W => v = v1 ∧ w1 = W)
        case first =>
          go_region_law (refine step_appJ rfl (.tmp 22) (.tmp 33) rfl _ _ rfl rfl _ _ R1.out ?_)
          all_goals (go_wp2_with (fail); go_meet; exact ⟨rfl, rfl⟩)
        obtain ⟨rfl, rfl⟩ := hcut
        have hshape := HSH.out
        clear HSH
        subst hshape
        go_wp2
        have HFN := FIN.out
        have hnn := HNL.out
        have hn2 : n ≤ 2 := by have := HL2.out; omega
        clear HFN
        go_loop [4, 81] (fun a i => ∃ (k : Nat) (lv : Int), k ≤ n ∧ a = .int .i64 lv ∧ i = .int .i64 k ∧ Hid (rl (ts.take k) = lv)) (fun _ i => n - (intOf i).toNat)
        case atStart => exact ⟨0, -1, Nat.zero_le _, rfl, rfl, rfl⟩
        case round =>
          obtain ⟨k, lv, hk, rfl, rfl, HJ⟩ := hrel
          by_cases hlt : k < n
          · obtain ⟨q, rfl, z0⟩ := HCL.out k (by omega)
            have hst := rl_step (l := ts) (k := k) (by omega)
            rw [HJ.out] at hst
            generalize numAt ts k = tv at z0 hst
            clear HJ hnn
            by_cases a0 : lv < 0
            · rw [if_pos (.inl a0)] at hst
              have HS := Lib.hid hst
              clear hst
              go_wp2
              go_round
              case rel => exact ⟨k + 1, tv, by omega, rfl, by go_num, HS⟩
              case measure => simp [intOf]; omega
            · by_cases a1 : tv < lv
              · rw [if_pos (.inr a1)] at hst
                have HS := Lib.hid hst
                clear hst
                go_wp2
                go_round
                case rel => exact ⟨k + 1, tv, by omega, rfl, by go_num, HS⟩
                case measure => simp [intOf]; omega
              · rw [if_neg (fun h => h.elim a0 a1)] at hst
                have HS := Lib.hid hst
                clear hst
                go_wp2
                go_round
                case rel => exact ⟨k + 1, lv, by omega, rfl, by go_num, HS⟩
                case measure => simp [intOf]; omega
          · obtain rfl : k = n := by omega
            have e := HJ.out
            rw [hnn, List.take_length] at e
            obtain ⟨f1, f2⟩ := FIN.out
            rw [e] at f1 f2
            clear HJ hnn FIN DL
            by_cases a0 : lv < 0
            · obtain ⟨rfl, rfl⟩ := f1 a0
              clear f1 f2 e
              go_wp2
              go_ret2
              exact ⟨rfl, BB1.out⟩
            · obtain ⟨rfl, hV⟩ := f2 (by omega)
              by_cases a1 : 1099511627776 < lv
              · rw [if_pos a1] at hV
                subst hV
                clear f1 f2 e
                go_wp2
                go_ret2
                exact ⟨rfl, BB1.out⟩
              · rw [if_neg a1] at hV
                subst hV
                clear f1 f2 e
                go_wp2
                go_ret2
                exact ⟨rfl, BB1.out⟩
      · have t2 : decide (0 < il) = true := decide_eq_true (by omega)
        have hts : ts = [ra + se, us + il] := DL.out.trans (by simp [k1, k2])
        have hts2 : ts.length ≤ 2 := by rw [hts]; simp
        have OO0 := Lib.hid O0
        obtain ⟨v1, w1, r1, o1, l1⟩ := appJ_one OO0.out (ra + se) (by simp) BW.out.size
        have R1 := Lib.hid r1
        have OO1 := Lib.hid o1
        have BB1 : Hid (Below w.heap.size w w1) := BW.out.trans l1
        have e1_25 := (l1.cell (p := ⟨g, 25, none⟩) hgw).trans d25
        have e1_26 := (l1.cell (p := ⟨g, 26, none⟩) hgw).trans d26
        have e1_27 := (l1.cell (p := ⟨g, 27, none⟩) hgw).trans d27
        have e1_33 := (l1.cell (p := ⟨g, 33, none⟩) hgw).trans d33
        have e1_38 := (l1.cell (p := ⟨g, 38, none⟩) hgw).trans d38
        have e1_39 := (l1.cell (p := ⟨g, 39, none⟩) hgw).trans d39
        have e1_40 := (l1.cell (p := ⟨g, 40, none⟩) hgw).trans d40
        clear r1 o1 l1
        obtain ⟨v2, w2, r2, o2, l2⟩ := appJ_one OO1.out (us + il) (by simp) BB1.out.size
        have R2 := Lib.hid r2
        have OO2 := Lib.hid o2
        have BB2 : Hid (Below w.heap.size w w2) := BB1.out.trans l2
        have e2_25 := (l2.cell (p := ⟨g, 25, none⟩) hgw).trans e1_25
        have e2_26 := (l2.cell (p := ⟨g, 26, none⟩) hgw).trans e1_26
        have e2_27 := (l2.cell (p := ⟨g, 27, none⟩) hgw).trans e1_27
        have e2_33 := (l2.cell (p := ⟨g, 33, none⟩) hgw).trans e1_33
        have e2_38 := (l2.cell (p := ⟨g, 38, none⟩) hgw).trans e1_38
        have e2_39 := (l2.cell (p := ⟨g, 39, none⟩) hgw).trans e1_39
        have e2_40 := (l2.cell (p := ⟨g, 40, none⟩) hgw).trans e1_40
        clear r2 o2 l2
        have OF : Hid (OwnJ w2 w.heap.size v2 ts) := by show OwnJ _ _ _ _; rw [hts]; exact OO2.out
        obtain ⟨A, n, c, hshape, hnl, hcl⟩ := OF.out.shape
        have HSH := Lib.hid hshape
        have HL2 := Lib.hid hts2
        have HNL := Lib.hid hnl
        have HCL := Lib.hid hcl
        clear hnl hcl hts2 hshape
        clear hts hse hil hho hra hus hen hn
        go_enter Try.func36, Try.ntmps36
        go_upto_region 3 with (fail)
        rw [HW.out]
        go_upto_region 4 with (fail)
        go_cut [5] (fun v W => v = v1 ∧ w1 = W)
        case first =>
          go_region_law (refine step_appJ rfl (.tmp 22) (.tmp 33) rfl _ _ rfl rfl _ _ R1.out ?_)
          all_goals (go_wp2_with (fail); go_meet; exact ⟨rfl, rfl⟩)
        obtain ⟨rfl, rfl⟩ := hcut
        go_upto_region 6 with (fail)
        go_cut [5] (fun v W => v = v2 ∧ w2 = W)
        case first =>
          go_region_law (refine step_appJ rfl (.tmp 48) (.tmp 59) rfl _ _ rfl rfl _ _ R2.out ?_)
          all_goals (go_wp2_with (fail); go_meet; exact ⟨rfl, rfl⟩)
        obtain ⟨rfl, rfl⟩ := hcut
        have hshape := HSH.out
        clear HSH
        subst hshape
        go_wp2
        have HFN := FIN.out
        have hnn := HNL.out
        have hn2 : n ≤ 2 := by have := HL2.out; omega
        clear HFN
        go_loop [4, 81] (fun a i => ∃ (k : Nat) (lv : Int), k ≤ n ∧ a = .int .i64 lv ∧ i = .int .i64 k ∧ Hid (rl (ts.take k) = lv)) (fun _ i => n - (intOf i).toNat)
        case atStart => exact ⟨0, -1, Nat.zero_le _, rfl, rfl, rfl⟩
        case round =>
          obtain ⟨k, lv, hk, rfl, rfl, HJ⟩ := hrel
          by_cases hlt : k < n
          · obtain ⟨q, rfl, z0⟩ := HCL.out k (by omega)
            have hst := rl_step (l := ts) (k := k) (by omega)
            rw [HJ.out] at hst
            generalize numAt ts k = tv at z0 hst
            clear HJ hnn
            by_cases a0 : lv < 0
            · rw [if_pos (.inl a0)] at hst
              have HS := Lib.hid hst
              clear hst
              go_wp2
              go_round
              case rel => exact ⟨k + 1, tv, by omega, rfl, by go_num, HS⟩
              case measure => simp [intOf]; omega
            · by_cases a1 : tv < lv
              · rw [if_pos (.inr a1)] at hst
                have HS := Lib.hid hst
                clear hst
                go_wp2
                go_round
                case rel => exact ⟨k + 1, tv, by omega, rfl, by go_num, HS⟩
                case measure => simp [intOf]; omega
              · rw [if_neg (fun h => h.elim a0 a1)] at hst
                have HS := Lib.hid hst
                clear hst
                go_wp2
                go_round
                case rel => exact ⟨k + 1, lv, by omega, rfl, by go_num, HS⟩
                case measure => simp [intOf]; omega
          · obtain rfl : k = n := by omega
            have e := HJ.out
            rw [hnn, List.take_length] at e
            obtain ⟨f1, f2⟩ := FIN.out
            rw [e] at f1 f2
            clear HJ hnn FIN DL
            by_cases a0 : lv < 0
            · obtain ⟨rfl, rfl⟩ := f1 a0
              clear f1 f2 e
              go_wp2
              go_ret2
              exact ⟨rfl, BB2.out⟩
            · obtain ⟨rfl, hV⟩ := f2 (by omega)
              by_cases a1 : 1099511627776 < lv
              · rw [if_pos a1] at hV
                subst hV
                clear f1 f2 e
                go_wp2
                go_ret2
                exact ⟨rfl, BB2.out⟩
              · rw [if_neg a1] at hV
                subst hV
                clear f1 f2 e
                go_wp2
                go_ret2
                exact ⟨rfl, BB2.out⟩
  · have t3 : (st == 3) = false := by simpa using h3
    by_cases h1 : st = 1
    · subst h1
      have hts : ts = [en + hf] := DL.out.trans (by simp [h3])
      have hts2 : ts.length ≤ 2 := by rw [hts]; simp
      have OO0 := Lib.hid O0
      obtain ⟨v1, w1, r1, o1, l1⟩ := appJ_one OO0.out (en + hf) (by simp) BW.out.size
      have R1 := Lib.hid r1
      have OO1 := Lib.hid o1
      have BB1 : Hid (Below w.heap.size w w1) := BW.out.trans l1
      have e1_25 := (l1.cell (p := ⟨g, 25, none⟩) hgw).trans d25
      have e1_26 := (l1.cell (p := ⟨g, 26, none⟩) hgw).trans d26
      have e1_27 := (l1.cell (p := ⟨g, 27, none⟩) hgw).trans d27
      have e1_33 := (l1.cell (p := ⟨g, 33, none⟩) hgw).trans d33
      have e1_38 := (l1.cell (p := ⟨g, 38, none⟩) hgw).trans d38
      have e1_39 := (l1.cell (p := ⟨g, 39, none⟩) hgw).trans d39
      have e1_40 := (l1.cell (p := ⟨g, 40, none⟩) hgw).trans d40
      clear r1 o1 l1
      have OF : Hid (OwnJ w1 w.heap.size v1 ts) := by show OwnJ _ _ _ _; rw [hts]; exact OO1.out
      obtain ⟨A, n, c, hshape, hnl, hcl⟩ := OF.out.shape
      have HSH := Lib.hid hshape
      have HL2 := Lib.hid hts2
      have HNL := Lib.hid hnl
      have HCL := Lib.hid hcl
      clear hnl hcl hts2 hshape
      clear hts hse hil hho hra hus hen hn
      go_enter Try.func36, Try.ntmps36
      go_upto_region 3 with (fail)
      rw [HW.out]
      go_upto_region 8 with (fail)
      go_cut [5] (fun v W => v = v1 ∧ w1 = W)
      case first =>
        go_region_law (refine step_appJ rfl (.tmp 66) (.tmp 77) rfl _ _ rfl rfl _ _ R1.out ?_)
        all_goals (go_wp2_with (fail); go_meet; exact ⟨rfl, rfl⟩)
      obtain ⟨rfl, rfl⟩ := hcut
      have hshape := HSH.out
      clear HSH
      subst hshape
      go_wp2
      have HFN := FIN.out
      have hnn := HNL.out
      have hn2 : n ≤ 2 := by have := HL2.out; omega
      clear HFN
      go_loop [4, 81] (fun a i => ∃ (k : Nat) (lv : Int), k ≤ n ∧ a = .int .i64 lv ∧ i = .int .i64 k ∧ Hid (rl (ts.take k) = lv)) (fun _ i => n - (intOf i).toNat)
      case atStart => exact ⟨0, -1, Nat.zero_le _, rfl, rfl, rfl⟩
      case round =>
        obtain ⟨k, lv, hk, rfl, rfl, HJ⟩ := hrel
        by_cases hlt : k < n
        · obtain ⟨q, rfl, z0⟩ := HCL.out k (by omega)
          have hst := rl_step (l := ts) (k := k) (by omega)
          rw [HJ.out] at hst
          generalize numAt ts k = tv at z0 hst
          clear HJ hnn
          by_cases a0 : lv < 0
          · rw [if_pos (.inl a0)] at hst
            have HS := Lib.hid hst
            clear hst
            go_wp2
            go_round
            case rel => exact ⟨k + 1, tv, by omega, rfl, by go_num, HS⟩
            case measure => simp [intOf]; omega
          · by_cases a1 : tv < lv
            · rw [if_pos (.inr a1)] at hst
              have HS := Lib.hid hst
              clear hst
              go_wp2
              go_round
              case rel => exact ⟨k + 1, tv, by omega, rfl, by go_num, HS⟩
              case measure => simp [intOf]; omega
            · rw [if_neg (fun h => h.elim a0 a1)] at hst
              have HS := Lib.hid hst
              clear hst
              go_wp2
              go_round
              case rel => exact ⟨k + 1, lv, by omega, rfl, by go_num, HS⟩
              case measure => simp [intOf]; omega
        · obtain rfl : k = n := by omega
          have e := HJ.out
          rw [hnn, List.take_length] at e
          obtain ⟨f1, f2⟩ := FIN.out
          rw [e] at f1 f2
          clear HJ hnn FIN DL
          by_cases a0 : lv < 0
          · obtain ⟨rfl, rfl⟩ := f1 a0
            clear f1 f2 e
            go_wp2
            go_ret2
            exact ⟨rfl, BB1.out⟩
          · obtain ⟨rfl, hV⟩ := f2 (by omega)
            by_cases a1 : 1099511627776 < lv
            · rw [if_pos a1] at hV
              subst hV
              clear f1 f2 e
              go_wp2
              go_ret2
              exact ⟨rfl, BB1.out⟩
            · rw [if_neg a1] at hV
              subst hV
              clear f1 f2 e
              go_wp2
              go_ret2
              exact ⟨rfl, BB1.out⟩
    · have t1 : (st == 1) = false := by simpa using h1
      have hts : ts = [] := DL.out.trans (by simp [h3, h1])
      have hts2 : ts.length ≤ 2 := by rw [hts]; simp
      have OO0 := Lib.hid O0
      obtain ⟨rfl, rfl⟩ := FIN.out.1 (by rw [hts]; simp [rl])
      clear hts2 FIN DL OO0
      clear hts hse hil hho hra hus hen hn
      go_enter Try.func36, Try.ntmps36
      go_upto_region 3 with (fail)
      rw [HW.out]
      go_wp2
      go_loop [4, 81] (fun a i => a = .int .i64 (-1) ∧ i = .int .i64 0) (fun _ _ => 0)
      case atStart => exact ⟨rfl, rfl⟩
      case round =>
        obtain ⟨rfl, rfl⟩ := hrel
        go_wp2
        go_ret2
        exact ⟨rfl, BW.out⟩
end Go.Proofs.Ytdjifjlkpimiaaa
