/-
  The reference's Begin and LinkDown.
-/
import Derived.Test.YtdjifjlkpimiaaaPoRef
namespace Go.Proofs.Ytdjifjlkpimiaaa
open Go.RowKit
set_option maxRecDepth 100000
set_option maxHeartbeats 4000000
set_option linter.unusedSimpArgs false
set_option linter.unusedVariables false

/-- what Begin leaves at a time that may be -/
def RbR (w : World) (g : Nat) (cs : List Value) (y : PoS) (l : List Int) (e : Ending) (w' : World) : Prop := ∃ v, e = .returned (.tuple #[v, .int .i64 0]) ∧ OwnI w' w.heap.size v l ∧ RpB w' g cs y ∧ w.grownBy w' (some g)
theorem rbegin_bad (g : Nat) (cs : List Value) (x : PoS) (t : Int) (w : World) (hx : RpB w g cs x) (ho : PoOk x) (hb : poBad t x = true) :
    Calls Try.prog 29 #[.pointer (some ⟨g, 0, none⟩), .int .i64 t] w fun e w' => e = .returned (.tuple #[.slice none 0 0, .int .i64 1]) ∧ w = w' := by
  have c37 : w.cell? ⟨g, 37, none⟩ = some (.int .i64 x.now) := hx.hi 4
  have hb2 := of_decide_eq_true hb
  have hn := ho.now
  clear hx ho hb
  generalize x.now = n at *
  by_cases h1 : t < 0
  · have t1 : decide (t < 0) = true := decide_eq_true h1
    clear hb2
    go_enter Try.func29, Try.ntmps29
    go_wp2
    go_ret2
    exact ⟨rfl, rfl⟩
  · have t1 : decide (t < 0) = false := decide_eq_false h1
    by_cases h2 : 1099511627776 < t
    · have t2 : decide (1099511627776 < t) = true := decide_eq_true h2
      clear hb2
      go_enter Try.func29, Try.ntmps29
      go_wp2
      go_ret2
      exact ⟨rfl, rfl⟩
    · have t2 : decide (1099511627776 < t) = false := decide_eq_false h2
      have h3 : t < n := by omega
      have t3 : decide (t < n) = true := decide_eq_true h3
      clear hb2
      go_enter Try.func29, Try.ntmps29
      go_wp2
      go_ret2
      exact ⟨rfl, rfl⟩
theorem rbegin_any (g : Nat) (cs : List Value) (x : PoS) (t : Int) (w : World) (hx : RpB w g cs x) (ho : PoOk x) (hb : poBad t x = false) :
    Calls Try.prog 29 #[.pointer (some ⟨g, 0, none⟩), .int .i64 t] w (RbR w g cs (poSet (poAt x t)) (poSetL (poAt x t))) := by
  have hb2 := of_decide_eq_false hb
  have hn := ho.now
  have hse := ho.se
  have hil := ho.idl
  have hho := ho.ho
  have hra := ho.ran
  have hus := ho.us
  have hen := ho.en
  have t1 : decide (t < 0) = false := decide_eq_false (by omega)
  have t2 : decide (1099511627776 < t) = false := decide_eq_false (by omega)
  have t3 : decide (t < x.now) = false := decide_eq_false (by omega)
  have c37 : w.cell? ⟨g, 37, none⟩ = some (.int .i64 x.now) := hx.hi 4
  have f37 : w.frozen? ⟨g, 37, none⟩ = false := hx.frozen 37
  have hv : RpB (w.setCell ⟨g, 37, none⟩ (.int .i64 t)) g cs (poAt x t) := RpB.set_ (y := poAt x t) hx 4 (.int .i64 t) rfl ⟨rfl, rfl, rfl, rfl, rfl, rfl⟩
  have hvg : w.grownBy (w.setCell ⟨g, 37, none⟩ (.int .i64 t)) (some g) := gset' _ _ _ _
  obtain ⟨W1, hW1⟩ : ∃ W1, w.setCell ⟨g, 37, none⟩ (.int .i64 t) = W1 := ⟨_, rfl⟩
  rw [hW1] at hv hvg
  have HW := Lib.hid hW1
  have d25 : W1.cell? ⟨g, 25, none⟩ = some (.int .i64 x.idl) := (hv.lo 25 (by omega)).trans hv.cf.2.1
  have d26 : W1.cell? ⟨g, 26, none⟩ = some (.int .i64 x.se) := (hv.lo 26 (by omega)).trans hv.cf.2.2.1
  have d27 : W1.cell? ⟨g, 27, none⟩ = some (.int .i64 x.ho) := (hv.lo 27 (by omega)).trans hv.cf.2.2.2.1
  have d33 : W1.cell? ⟨g, 33, none⟩ = some (.int .i64 x.st) := hv.hi 0
  have d38 : W1.cell? ⟨g, 38, none⟩ = some (.int .i64 x.ran) := hv.hi 5
  have d39 : W1.cell? ⟨g, 39, none⟩ = some (.int .i64 x.us) := hv.hi 6
  have d40 : W1.cell? ⟨g, 40, none⟩ = some (.int .i64 x.en) := hv.hi 7
  have w1 : IntKind.i64.wrap (t - x.ran) = t - x.ran := IntWalk.i64_in _ (by omega)
  have w2 : IntKind.i64.wrap (t - x.us) = t - x.us := IntWalk.i64_in _ (by omega)
  have w3 : IntKind.i64.wrap (t - x.en) = t - x.en := IntWalk.i64_in _ (by omega)
  have HG : Hid (∀ y q, Calls Try.prog 46 #[.pointer (some ⟨g, 0, none⟩), .string y] (W1.drewN q) (RpR w g cs (poHang (poAt x t) y) [2])) := fun y q => (rhang_any g cs (poAt x t) y _ (hv.drewN q)).mono fun e w2 h2 => h2.from (gdrewN hvg q)
  have HH : Hid (∀ q, Calls Try.prog 47 #[.pointer (some ⟨g, 0, none⟩)] (W1.drewN q) (RpR w g cs (poRel (poAt x t)) (poRelL (poAt x t)))) := fun q => (rheld_any g cs (poAt x t) _ (hv.drewN q)).mono fun e w2 h2 => h2.from (gdrewN hvg q)
  have HN : Hid (∀ q, RbR w g cs (poAt x t) [] (.returned (.tuple #[.slice none 0 0, .int .i64 0])) (W1.drewN q)) := fun q => ⟨_, rfl, OwnI.nil _ _, hv.drewN q, gdrewN hvg q⟩
  have HN3 : Hid (∀ a b c, RbR w g cs (poAt x t) [] (.returned (.tuple #[.slice none 0 0, .int .i64 0])) (((W1.drewN a).drewN b).drewN c)) := fun a b c => ⟨_, rfl, OwnI.nil _ _, ((hv.drewN a).drewN b).drewN c, gdrewN (gdrewN (gdrewN hvg a) b) c⟩
  have dd : poDue (poAt x t) = if x.st = 3 then (if x.se ≠ 0 ∧ x.ran + x.se ≤ t then 1 else if x.idl ≠ 0 ∧ x.us + x.idl ≤ t then 2 else 0) else if x.st = 1 ∧ x.en + x.ho ≤ t then 3 else 0 := rfl
  clear hx ho hb hv hvg hW1
  obtain ⟨X, hX⟩ : ∃ X, poAt x t = X := ⟨_, rfl⟩
  rw [hX] at HG HH HN HN3 dd ⊢
  clear hX
  generalize x.st = st at *
  generalize x.now = nw at *
  generalize x.ran = ra at *
  generalize x.us = us at *
  generalize x.en = en at *
  generalize x.se = se at *
  generalize x.idl = il at *
  generalize x.ho = hf at *
  by_cases h3 : st = 3
  · have dd := dd.trans (if_pos h3)
    subst h3
    by_cases a : se ≠ 0 ∧ ra + se ≤ t
    · have e := due_one (dd.trans (if_pos a))
      rw [e.1, e.2]
      have p1 : decide (0 < se) = true := decide_eq_true (by omega)
      have p2 : decide (se ≤ t - ra) = true := decide_eq_true (by omega)
      clear e a
      clear hn hse hil hho hra hus hen hb2 dd HH HN
      go_enter Try.func29, Try.ntmps29
      go_upto_region 4 with (fail)
      rw [HW.out]
      go_quiet (fail)
      go_wp2_with (go_at_call 46; refine (HG.out _ _).mono ?_; rintro e w4 ⟨v, rfl, h3⟩; have H3 := Lib.hid h3; clear h3)
      go_ret2
      exact ⟨v, rfl, H3.out⟩
    · have dd := dd.trans (if_neg a)
      have pa : decide (0 < se) = false ∨ (decide (0 < se) = true ∧ decide (se ≤ t - ra) = false) := by
        by_cases z : se = 0
        · exact .inl (decide_eq_false (by omega))
        · exact .inr ⟨decide_eq_true (by omega), decide_eq_false (by omega)⟩
      by_cases b : il ≠ 0 ∧ us + il ≤ t
      · have e := due_two (dd.trans (if_pos b))
        rw [e.1, e.2]
        have p3 : decide (0 < il) = true := decide_eq_true (by omega)
        have p4 : decide (il ≤ t - us) = true := decide_eq_true (by omega)
        clear e a b HH HN
        clear hn hse hil hho hra hus hen hb2 dd 
        rcases pa with p1 | ⟨p1, p2⟩
        all_goals
          go_enter Try.func29, Try.ntmps29
          go_upto_region 4 with (fail)
          rw [HW.out]
          go_quiet (fail)
          go_upto_region 6 with (fail)
          go_quiet (fail)
          go_wp2_with (go_at_call 46; refine (HG.out _ _).mono ?_; rintro e w4 ⟨v, rfl, h3⟩; have H3 := Lib.hid h3; clear h3)
          go_ret2
          exact ⟨v, rfl, H3.out⟩
      · have e := due_zero (dd.trans (if_neg b))
        rw [e.1, e.2]
        have pb : decide (0 < il) = false ∨ (decide (0 < il) = true ∧ decide (il ≤ t - us) = false) := by
          by_cases z : il = 0
          · exact .inl (decide_eq_false (by omega))
          · exact .inr ⟨decide_eq_true (by omega), decide_eq_false (by omega)⟩
        clear e a b HH HG
        clear hn hse hil hho hra hus hen hb2 dd 
        rcases pa with p1 | ⟨p1, p2⟩ <;> rcases pb with p3 | ⟨p3, p4⟩
        all_goals
          go_enter Try.func29, Try.ntmps29
          go_upto_region 4 with (fail)
          rw [HW.out]
          go_quiet (fail)
          go_upto_region 6 with (fail)
          go_quiet (fail)
          go_upto_region 8 with (fail)
          go_quiet (fail)
          go_wp2
          go_ret2
          exact HN.out _
  · have dd := dd.trans (if_neg h3)
    have t33 : (st == 3) = false := by simpa using h3
    by_cases h1 : st = 1
    · subst h1
      by_cases c : en + hf ≤ t
      · have e := due_three (dd.trans (if_pos ⟨rfl, c⟩))
        rw [e.1, e.2]
        have p1 : decide (hf ≤ t - en) = true := decide_eq_true (by omega)
        clear e c h3 HG HN t33
        clear hn hse hil hho hra hus hen hb2 dd 
        go_enter Try.func29, Try.ntmps29
        go_upto_region 4 with (fail)
        rw [HW.out]
        go_quiet (fail)
        go_upto_region 6 with (fail)
        go_quiet (fail)
        go_upto_region 8 with (fail)
        go_quiet (fail)
        go_wp2_with (go_at_call 47; refine (HH.out _).mono ?_; rintro e w4 ⟨v, rfl, h3⟩; have H3 := Lib.hid h3; clear h3)
        go_ret2
        exact ⟨v, rfl, H3.out⟩
      · have e := due_zero (dd.trans (if_neg (fun h => c h.2)))
        rw [e.1, e.2]
        have p1 : decide (hf ≤ t - en) = false := decide_eq_false (by omega)
        clear e c h3 HG HH t33
        clear hn hse hil hho hra hus hen hb2 dd 
        go_enter Try.func29, Try.ntmps29
        go_upto_region 4 with (fail)
        rw [HW.out]
        go_quiet (fail)
        go_upto_region 6 with (fail)
        go_quiet (fail)
        go_upto_region 8 with (fail)
        go_quiet (fail)
        go_wp2
        go_ret2
        exact HN.out _
    · have e := due_zero (dd.trans (if_neg (fun h => h1 h.1)))
      rw [e.1, e.2]
      have t11 : (st == 1) = false := by simpa using h1
      clear e h1 h3 HG HH
      clear hn hse hil hho hra hus hen hb2 dd 
      go_enter Try.func29, Try.ntmps29
      go_upto_region 4 with (fail)
      rw [HW.out]
      go_quiet (fail)
      go_upto_region 6 with (fail)
      go_quiet (fail)
      go_upto_region 8 with (fail)
      go_quiet (fail)
      go_wp2
      go_ret2
      exact HN3.out _ _ _
/-- the end of a link that goes over into the hold-off -/
theorem held_ref (y : PoS) (hh : 0 ≤ y.ho) : (poSet (poHeld y) = if y.ho = 0 then poRel (poHeld y) else poHeld y) ∧ (poSetL (poHeld y) = if y.ho = 0 then poRelL (poHeld y) else []) := by
  have d : poDue (poHeld y) = if y.now + y.ho ≤ y.now then 3 else 0 := by simp [poDue, poHeld]
  by_cases hc : y.ho = 0
  · rw [if_pos hc, if_pos hc]
    exact due_three (d.trans (if_pos (by omega)))
  · rw [if_neg hc, if_neg hc]
    exact due_zero (d.trans (if_neg (by omega)))
theorem rlinkdown_no (g : Nat) (cs : List Value) (x : PoS) (w : World) (hx : RpB w g cs x) (h : x.st ≠ 2 ∧ x.st ≠ 3 ∧ x.st ≠ 4) :
    Calls Try.prog 35 #[.pointer (some ⟨g, 0, none⟩)] w (RpR w g cs (poDo 5 x) (poDoL 5 x)) := by
  have c33 : w.cell? ⟨g, 33, none⟩ = some (.int .i64 x.st) := hx.hi 0
  have e1 : poDo 5 x = x := by simp [poDo, h]
  have e2 : poDoL 5 x = [] := by simp [poDoL, h]
  rw [e1, e2]
  have HF : Hid (RpR w g cs x [] (.returned (.slice none 0 0)) w) := rpr_none hx (World.grownBy.refl _ _)
  obtain ⟨h2, h3, h4⟩ := h
  have t2 : (x.st == 2) = false := by simpa using h2
  have t3 : (x.st == 3) = false := by simpa using h3
  have t4 : (x.st == 4) = false := by simpa using h4
  clear hx h2 h3 h4 e1 e2
  go_enter Try.func35, Try.ntmps35
  go_wp2
  go_ret
  exact HF.out
theorem rlinkdown_34 (g : Nat) (cs : List Value) (x : PoS) (w : World) (hx : RpB w g cs x) (ho : PoOk x) (h : x.st = 3 ∨ x.st = 4) :
    Calls Try.prog 35 #[.pointer (some ⟨g, 0, none⟩)] w (RpR w g cs (poDo 5 x) (poDoL 5 x)) := by
  have c33 : w.cell? ⟨g, 33, none⟩ = some (.int .i64 x.st) := hx.hi 0
  have c34 : w.cell? ⟨g, 34, none⟩ = some (.bool x.wa) := hx.hi 1
  have c36 : w.cell? ⟨g, 36, none⟩ = some (.string x.wy) := hx.hi 3
  have c37 : w.cell? ⟨g, 37, none⟩ = some (.int .i64 x.now) := hx.hi 4
  have c40 : w.cell? ⟨g, 40, none⟩ = some (.int .i64 x.en) := hx.hi 7
  have c28 : w.cell? ⟨g, 28, none⟩ = some (.bool x.per) := (hx.lo 28 (by omega)).trans hx.cf.2.2.2.2.1
  have c27 : w.cell? ⟨g, 27, none⟩ = some (.int .i64 x.ho) := (hx.lo 27 (by omega)).trans hx.cf.2.2.2.1
  have f33 : w.frozen? ⟨g, 33, none⟩ = false := hx.frozen 33
  have f34 : w.frozen? ⟨g, 34, none⟩ = false := hx.frozen 34
  have f36 : w.frozen? ⟨g, 36, none⟩ = false := hx.frozen 36
  have f40 : w.frozen? ⟨g, 40, none⟩ = false := hx.frozen 40
  have hho := ho.ho
  rcases h with h | h
  · have e1 : poDo 5 x = poLose x := by simp [poDo, h]
    have e2 : poDoL 5 x = poLoseL x := by simp [poDoL, h]
    have er := held_ref (poLose0 x) hho.1
    unfold poLose at e1
    unfold poLoseL at e2
    rw [e1, e2, er.1, er.2]
    rw [h] at c33
    have hv : RpB ((((w.setCell ⟨g, 36, none⟩ (.string wyLost)).setCell ⟨g, 34, none⟩ (.bool x.per)).setCell ⟨g, 33, none⟩ (.int .i64 1)).setCell ⟨g, 40, none⟩ (.int .i64 x.now)) g cs (poHeld (poLose0 x)) := RpB.set_ (y := poHeld (poLose0 x)) (RpB.set_ (y := { poLose0 x with st := 1 }) (RpB.set_ (y := poLose0 x) (RpB.set_ (y := { x with wy := wyLost }) (hx) 3 (.string wyLost) rfl ⟨rfl, rfl, rfl, rfl, rfl, rfl⟩) 1 (.bool x.per) rfl ⟨rfl, rfl, rfl, rfl, rfl, rfl⟩) 0 (.int .i64 1) rfl ⟨rfl, rfl, rfl, rfl, rfl, rfl⟩) 7 (.int .i64 x.now) rfl ⟨rfl, rfl, rfl, rfl, rfl, rfl⟩
    have hvg : w.grownBy ((((w.setCell ⟨g, 36, none⟩ (.string wyLost)).setCell ⟨g, 34, none⟩ (.bool x.per)).setCell ⟨g, 33, none⟩ (.int .i64 1)).setCell ⟨g, 40, none⟩ (.int .i64 x.now)) (some g) := gtrans' (gtrans' (gtrans' (gset' _ _ _ _) (gset' _ _ _ _)) (gset' _ _ _ _)) (gset' _ _ _ _)
    have HH : Hid (Calls Try.prog 47 #[.pointer (some ⟨g, 0, none⟩)] ((((w.setCell ⟨g, 36, none⟩ (.string wyLost)).setCell ⟨g, 34, none⟩ (.bool x.per)).setCell ⟨g, 33, none⟩ (.int .i64 1)).setCell ⟨g, 40, none⟩ (.int .i64 x.now)) (RpR w g cs (poRel (poHeld (poLose0 x))) (poRelL (poHeld (poLose0 x))))) := (rheld_any g cs _ _ hv).mono fun e w2 h2 => h2.from hvg
    have HN : Hid (RpR w g cs (poHeld (poLose0 x)) [] (.returned (.slice none 0 0)) ((((w.setCell ⟨g, 36, none⟩ (.string wyLost)).setCell ⟨g, 34, none⟩ (.bool x.per)).setCell ⟨g, 33, none⟩ (.int .i64 1)).setCell ⟨g, 40, none⟩ (.int .i64 x.now))) := rpr_none hv hvg
    have hz : (poLose0 x).ho = x.ho := rfl
    rw [hz]
    clear hx ho h e1 e2 er hv hvg hz hho
    by_cases h0 : x.ho = 0
    · rw [if_pos h0, if_pos h0]
      have t0 : (x.ho == 0) = true := by simpa using h0
      clear h0
      go_enter Try.func35, Try.ntmps35
      go_wp2_with (go_at_call 47; refine HH.out.mono ?_; rintro e w4 ⟨v, rfl, h3⟩; have H3 := Lib.hid h3; clear h3)
      go_ret
      exact ⟨v, rfl, H3.out⟩
    · rw [if_neg h0, if_neg h0]
      have t0 : (x.ho == 0) = false := by simpa using h0
      clear h0
      go_enter Try.func35, Try.ntmps35
      go_wp2
      go_ret
      exact HN.out
  · have e1 : poDo 5 x = poEnd x := by simp [poDo, h]
    have e2 : poDoL 5 x = poEndL x := by simp [poDoL, h]
    have er := held_ref (poEnd0 x) hho.1
    unfold poEnd at e1
    unfold poEndL at e2
    rw [e1, e2, er.1, er.2]
    rw [h] at c33
    obtain ⟨wa', hwa⟩ : ∃ q, (x.wa || (x.per && !isDown x.wy)) = q := ⟨_, rfl⟩
    have hv : RpB (((w.setCell ⟨g, 34, none⟩ (.bool wa')).setCell ⟨g, 33, none⟩ (.int .i64 1)).setCell ⟨g, 40, none⟩ (.int .i64 x.now)) g cs (poHeld (poEnd0 x)) := by rw [← hwa]; exact RpB.set_ (y := poHeld (poEnd0 x)) (RpB.set_ (y := { poEnd0 x with st := 1 }) (RpB.set_ (y := poEnd0 x) (hx) 1 (.bool (x.wa || (x.per && !isDown x.wy))) rfl ⟨rfl, rfl, rfl, rfl, rfl, rfl⟩) 0 (.int .i64 1) rfl ⟨rfl, rfl, rfl, rfl, rfl, rfl⟩) 7 (.int .i64 x.now) rfl ⟨rfl, rfl, rfl, rfl, rfl, rfl⟩
    have hvg : w.grownBy (((w.setCell ⟨g, 34, none⟩ (.bool wa')).setCell ⟨g, 33, none⟩ (.int .i64 1)).setCell ⟨g, 40, none⟩ (.int .i64 x.now)) (some g) := gtrans' (gtrans' (gset' _ _ _ _) (gset' _ _ _ _)) (gset' _ _ _ _)
    have HH : Hid (Calls Try.prog 47 #[.pointer (some ⟨g, 0, none⟩)] (((w.setCell ⟨g, 34, none⟩ (.bool wa')).setCell ⟨g, 33, none⟩ (.int .i64 1)).setCell ⟨g, 40, none⟩ (.int .i64 x.now)) (RpR w g cs (poRel (poHeld (poEnd0 x))) (poRelL (poHeld (poEnd0 x))))) := (rheld_any g cs _ _ hv).mono fun e w2 h2 => h2.from hvg
    have HN : Hid (RpR w g cs (poHeld (poEnd0 x)) [] (.returned (.slice none 0 0)) (((w.setCell ⟨g, 34, none⟩ (.bool wa')).setCell ⟨g, 33, none⟩ (.int .i64 1)).setCell ⟨g, 40, none⟩ (.int .i64 x.now))) := rpr_none hv hvg
    have hz : (poEnd0 x).ho = x.ho := rfl
    rw [hz]
    have hq : (x.wa = true ∧ wa' = true) ∨ (x.wa = false ∧ x.per = false ∧ wa' = false) ∨ (x.wa = false ∧ x.per = true ∧ (x.wy.toList == [100, 111, 119, 110]) = true ∧ wa' = false) ∨ (x.wa = false ∧ x.per = true ∧ (x.wy.toList == [100, 111, 119, 110]) = false ∧ wa' = true) := by
      rw [← hwa]
      unfold isDown
      cases x.wa <;> cases x.per <;> cases (x.wy.toList == [100, 111, 119, 110]) <;> simp
    clear hx ho h e1 e2 er hv hvg hz hho hwa
    by_cases h0 : x.ho = 0
    · rw [if_pos h0, if_pos h0]
      have t0 : (x.ho == 0) = true := by simpa using h0
      clear h0
      rcases hq with ⟨a1, rfl⟩ | ⟨a1, a2, rfl⟩ | ⟨a1, a2, a3, rfl⟩ | ⟨a1, a2, a3, rfl⟩
      all_goals
        first | rw [a1] at c34 | skip
        first | rw [a2] at c28 | skip
        clear a1
        try clear a2
        go_enter Try.func35, Try.ntmps35
        go_wp2_with (go_at_call 47; refine HH.out.mono ?_; rintro e w4 ⟨v, rfl, h3⟩; have H3 := Lib.hid h3; clear h3)
        go_ret
        exact ⟨v, rfl, H3.out⟩
    · rw [if_neg h0, if_neg h0]
      have t0 : (x.ho == 0) = false := by simpa using h0
      clear h0
      rcases hq with ⟨a1, rfl⟩ | ⟨a1, a2, rfl⟩ | ⟨a1, a2, a3, rfl⟩ | ⟨a1, a2, a3, rfl⟩
      all_goals
        first | rw [a1] at c34 | skip
        first | rw [a2] at c28 | skip
        clear a1
        try clear a2
        go_enter Try.func35, Try.ntmps35
        go_wp2
        go_ret
        exact HN.out
theorem rlinkdown_2a (g : Nat) (cs : List Value) (x : PoS) (w : World) (hx : RpB w g cs x) (ho : PoOk x) (h : x.st = 2) (hcap : x.fa < 2147483647) :
    Calls Try.prog 35 #[.pointer (some ⟨g, 0, none⟩)] w (RpR w g cs (poDo 5 x) (poDoL 5 x)) := by
  have c33 : w.cell? ⟨g, 33, none⟩ = some (.int .i64 x.st) := hx.hi 0
  have c34 : w.cell? ⟨g, 34, none⟩ = some (.bool x.wa) := hx.hi 1
  have c35 : w.cell? ⟨g, 35, none⟩ = some (.int .i64 x.fa) := hx.hi 2
  have c36 : w.cell? ⟨g, 36, none⟩ = some (.string x.wy) := hx.hi 3
  have c37 : w.cell? ⟨g, 37, none⟩ = some (.int .i64 x.now) := hx.hi 4
  have c40 : w.cell? ⟨g, 40, none⟩ = some (.int .i64 x.en) := hx.hi 7
  have c30 : w.cell? ⟨g, 30, none⟩ = some (.int .i64 x.mf) := (hx.lo 30 (by omega)).trans hx.cf.2.2.2.2.2.2
  have c27 : w.cell? ⟨g, 27, none⟩ = some (.int .i64 x.ho) := (hx.lo 27 (by omega)).trans hx.cf.2.2.2.1
  have f33 : w.frozen? ⟨g, 33, none⟩ = false := hx.frozen 33
  have f34 : w.frozen? ⟨g, 34, none⟩ = false := hx.frozen 34
  have f35 : w.frozen? ⟨g, 35, none⟩ = false := hx.frozen 35
  have f36 : w.frozen? ⟨g, 36, none⟩ = false := hx.frozen 36
  have f40 : w.frozen? ⟨g, 40, none⟩ = false := hx.frozen 40
  have hho := ho.ho
  have hfa := ho.fa
  have e1 : poDo 5 x = poMiss x := by simp [poDo, h]
  have e2 : poDoL 5 x = poMissL x := by simp [poDoL, h]
  have er := held_ref (poFail x) hho.1
  unfold poMiss at e1
  unfold poMissL at e2
  rw [e1, e2, er.1, er.2]
  rw [h] at c33
  have hgx : (poFail x).fa = x.fa + 1 := by
    show (if x.fa + 1 < 2147483647 then x.fa + 1 else 2147483647) = _
    split <;> omega
  have hz : (poFail x).ho = x.ho := rfl
  have hnw : (poFail x).now = x.now := rfl
  have hgv : poGive x = decide ((poFail x).mf ≠ 0 ∧ (poFail x).mf ≤ (poFail x).fa) := rfl
  have hm := (poFail_ok ho).mf
  obtain ⟨z, hzf⟩ : ∃ z, (poFail x).fa = z := ⟨_, rfl⟩
  have hv : RpB ((w.setCell ⟨g, 35, none⟩ (.int .i64 z)).setCell ⟨g, 36, none⟩ (.string wyFailed)) g cs (poFail x) := by
    rw [← hzf]
    exact RpB.set_ (y := poFail x) (RpB.set_ (y := { x with fa := (poFail x).fa }) (hx) 2 (.int .i64 (poFail x).fa) rfl ⟨rfl, rfl, rfl, rfl, rfl, rfl⟩) 3 (.string wyFailed) rfl ⟨rfl, rfl, rfl, rfl, rfl, rfl⟩
  have hvg : w.grownBy ((w.setCell ⟨g, 35, none⟩ (.int .i64 z)).setCell ⟨g, 36, none⟩ (.string wyFailed)) (some g) := gtrans' (gset' _ _ _ _) (gset' _ _ _ _)
  rw [hgv]
  clear e1 e2 er hgv
  obtain ⟨W1, hW1⟩ : ∃ W1, ((w.setCell ⟨g, 35, none⟩ (.int .i64 z)).setCell ⟨g, 36, none⟩ (.string wyFailed)) = W1 := ⟨_, rfl⟩
  rw [hW1] at hv hvg
  rw [hzf] at hgx ⊢
  generalize poFail x = y at *
  have d30 : W1.cell? ⟨g, 30, none⟩ = some (.int .i64 y.mf) := (hv.lo 30 (by omega)).trans hv.cf.2.2.2.2.2.2
  have d35 : W1.cell? ⟨g, 35, none⟩ = some (.int .i64 z) := by rw [← hzf]; exact hv.hi 2
  have d27 : W1.cell? ⟨g, 27, none⟩ = some (.int .i64 x.ho) := by rw [← hz]; exact (hv.lo 27 (by omega)).trans hv.cf.2.2.2.1
  have d33 : W1.cell? ⟨g, 33, none⟩ = some (.int .i64 y.st) := hv.hi 0
  have d34 : W1.cell? ⟨g, 34, none⟩ = some (.bool y.wa) := hv.hi 1
  have d37 : W1.cell? ⟨g, 37, none⟩ = some (.int .i64 x.now) := by rw [← hnw]; exact hv.hi 4
  have d40 : W1.cell? ⟨g, 40, none⟩ = some (.int .i64 y.en) := hv.hi 7
  have q33 : W1.frozen? ⟨g, 33, none⟩ = false := hv.frozen 33
  have q34 : W1.frozen? ⟨g, 34, none⟩ = false := hv.frozen 34
  have q40 : W1.frozen? ⟨g, 40, none⟩ = false := hv.frozen 40
  have HV : Hid (∀ q, RpB (W1.drewN q) g cs y) := fun q => hv.drewN q
  have HVG : Hid (∀ q, w.grownBy (W1.drewN q) (some g)) := fun q => gdrewN hvg q
  have HW := Lib.hid hW1
  have HNW := Lib.hid hnw
  rw [hz]
  have HGX := Lib.hid hgx
  have zb : 0 ≤ z ∧ z ≤ 2147483647 := by omega
  obtain ⟨zb0, zb1⟩ := zb
  clear hx ho h hv hvg hW1 hnw hz hzf hho
  generalize y.mf = m at *
  generalize x.fa = fa at *
  have tf : decide (fa < 2147483647) = true := decide_eq_true hcap
  clear hcap hgx
  have HH : Hid (∀ q, Calls Try.prog 47 #[.pointer (some ⟨g, 0, none⟩)] (((W1.drewN q).setCell ⟨g, 33, none⟩ (.int .i64 1)).setCell ⟨g, 40, none⟩ (.int .i64 x.now)) (RpR w g cs (poRel (poHeld y)) (poRelL (poHeld y)))) := by
    show ∀ q, _
    intro q
    rw [← HNW.out]
    exact (rheld_any g cs _ _ (RpB.set_ (y := poHeld y) (RpB.set_ (y := { y with st := 1 }) (HV.out q) 0 (.int .i64 1) rfl ⟨rfl, rfl, rfl, rfl, rfl, rfl⟩) 7 (.int .i64 y.now) rfl ⟨rfl, rfl, rfl, rfl, rfl, rfl⟩)).mono fun e w2 h2 => h2.from (gtrans' (gtrans' (HVG.out q) (gset' _ _ _ _)) (gset' _ _ _ _))
  have HK : Hid (∀ q, RpR w g cs (poHeld y) [] (.returned (.slice none 0 0)) (((W1.drewN q).setCell ⟨g, 33, none⟩ (.int .i64 1)).setCell ⟨g, 40, none⟩ (.int .i64 x.now))) := by
    show ∀ q, _
    intro q
    rw [← HNW.out]
    exact rpr_none (RpB.set_ (y := poHeld y) (RpB.set_ (y := { y with st := 1 }) (HV.out q) 0 (.int .i64 1) rfl ⟨rfl, rfl, rfl, rfl, rfl, rfl⟩) 7 (.int .i64 y.now) rfl ⟨rfl, rfl, rfl, rfl, rfl, rfl⟩) (gtrans' (gtrans' (HVG.out q) (gset' _ _ _ _)) (gset' _ _ _ _))
  by_cases hgive : m ≠ 0 ∧ m ≤ z
  · rw [decide_eq_true hgive]
    simp only [if_true]
    have p1 : decide (0 < m) = true := decide_eq_true (by omega)
    have p2 : decide (m ≤ z) = true := decide_eq_true (by omega)
    have HN : Hid (∀ q, RpR w g cs (poOver y) [] (.returned (.slice none 0 0)) ((((W1.drewN q).setCell ⟨g, 33, none⟩ (.int .i64 5)).setCell ⟨g, 34, none⟩ (.bool false)).setCell ⟨g, 40, none⟩ (.int .i64 x.now))) := by
      show ∀ q, _
      intro q
      rw [← HNW.out]
      exact rpr_none (RpB.set_ (y := poOver y) (RpB.set_ (y := { y with st := 5, wa := false }) (RpB.set_ (y := { y with st := 5 }) (HV.out q) 0 (.int .i64 5) rfl ⟨rfl, rfl, rfl, rfl, rfl, rfl⟩) 1 (.bool false) rfl ⟨rfl, rfl, rfl, rfl, rfl, rfl⟩) 7 (.int .i64 y.now) rfl ⟨rfl, rfl, rfl, rfl, rfl, rfl⟩) (gtrans' (gtrans' (gtrans' (HVG.out q) (gset' _ _ _ _)) (gset' _ _ _ _)) (gset' _ _ _ _))
    clear hgive hm HH HK
    try rw [HGX.out] at HW
    go_enter Try.func35, Try.ntmps35
    go_upto_region 7 with (fail)
    rw [HW.out]
    go_quiet (fail)
    go_wp2
    go_ret
    exact HN.out _
  · rw [decide_eq_false hgive]
    simp only [Bool.false_eq_true, if_false]
    have hp : decide (0 < m) = false ∨ (decide (0 < m) = true ∧ decide (m ≤ z) = false) := by
      by_cases c : m = 0
      · exact .inl (decide_eq_false (by omega))
      · exact .inr ⟨decide_eq_true (by omega), decide_eq_false (by omega)⟩
    clear hgive hm
    try rw [HGX.out] at HW
    by_cases h0 : x.ho = 0
    · rw [if_pos h0, if_pos h0]
      have t0 : (x.ho == 0) = true := by simpa using h0
      clear h0 HK
      rcases hp with p1 | ⟨p1, p2⟩
      all_goals
        go_enter Try.func35, Try.ntmps35
        go_upto_region 7 with (fail)
        rw [HW.out]
        go_quiet (fail)
        go_wp2_with (go_at_call 47; refine (HH.out _).mono ?_; rintro e w4 ⟨v, rfl, h3⟩; have H3 := Lib.hid h3; clear h3)
        go_ret
        exact ⟨v, rfl, H3.out⟩
    · rw [if_neg h0, if_neg h0]
      have t0 : (x.ho == 0) = false := by simpa using h0
      clear h0 HH
      rcases hp with p1 | ⟨p1, p2⟩
      all_goals
        go_enter Try.func35, Try.ntmps35
        go_upto_region 7 with (fail)
        rw [HW.out]
        go_quiet (fail)
        go_wp2
        go_ret
        exact HK.out _
theorem rlinkdown_2b (g : Nat) (cs : List Value) (x : PoS) (w : World) (hx : RpB w g cs x) (ho : PoOk x) (h : x.st = 2) (hcap : ¬ x.fa < 2147483647) :
    Calls Try.prog 35 #[.pointer (some ⟨g, 0, none⟩)] w (RpR w g cs (poDo 5 x) (poDoL 5 x)) := by
  have c33 : w.cell? ⟨g, 33, none⟩ = some (.int .i64 x.st) := hx.hi 0
  have c34 : w.cell? ⟨g, 34, none⟩ = some (.bool x.wa) := hx.hi 1
  have c35 : w.cell? ⟨g, 35, none⟩ = some (.int .i64 x.fa) := hx.hi 2
  have c36 : w.cell? ⟨g, 36, none⟩ = some (.string x.wy) := hx.hi 3
  have c37 : w.cell? ⟨g, 37, none⟩ = some (.int .i64 x.now) := hx.hi 4
  have c40 : w.cell? ⟨g, 40, none⟩ = some (.int .i64 x.en) := hx.hi 7
  have c30 : w.cell? ⟨g, 30, none⟩ = some (.int .i64 x.mf) := (hx.lo 30 (by omega)).trans hx.cf.2.2.2.2.2.2
  have c27 : w.cell? ⟨g, 27, none⟩ = some (.int .i64 x.ho) := (hx.lo 27 (by omega)).trans hx.cf.2.2.2.1
  have f33 : w.frozen? ⟨g, 33, none⟩ = false := hx.frozen 33
  have f34 : w.frozen? ⟨g, 34, none⟩ = false := hx.frozen 34
  have f35 : w.frozen? ⟨g, 35, none⟩ = false := hx.frozen 35
  have f36 : w.frozen? ⟨g, 36, none⟩ = false := hx.frozen 36
  have f40 : w.frozen? ⟨g, 40, none⟩ = false := hx.frozen 40
  have hho := ho.ho
  have hfa := ho.fa
  have e1 : poDo 5 x = poMiss x := by simp [poDo, h]
  have e2 : poDoL 5 x = poMissL x := by simp [poDoL, h]
  have er := held_ref (poFail x) hho.1
  unfold poMiss at e1
  unfold poMissL at e2
  rw [e1, e2, er.1, er.2]
  rw [h] at c33
  have hgx : (poFail x).fa = x.fa := by
    show (if x.fa + 1 < 2147483647 then x.fa + 1 else 2147483647) = _
    split <;> omega
  have hz : (poFail x).ho = x.ho := rfl
  have hnw : (poFail x).now = x.now := rfl
  have hgv : poGive x = decide ((poFail x).mf ≠ 0 ∧ (poFail x).mf ≤ (poFail x).fa) := rfl
  have hm := (poFail_ok ho).mf
  obtain ⟨z, hzf⟩ : ∃ z, (poFail x).fa = z := ⟨_, rfl⟩
  have hv : RpB (w.setCell ⟨g, 36, none⟩ (.string wyFailed)) g cs (poFail x) := by
    exact RpB.set_ (y := poFail x) hx 3 (.string wyFailed) (by rw [show (poFail x).fa = x.fa from hgx]; rfl) ⟨rfl, rfl, rfl, rfl, rfl, rfl⟩
  have hvg : w.grownBy (w.setCell ⟨g, 36, none⟩ (.string wyFailed)) (some g) := gset' _ _ _ _
  rw [hgv]
  clear e1 e2 er hgv
  obtain ⟨W1, hW1⟩ : ∃ W1, (w.setCell ⟨g, 36, none⟩ (.string wyFailed)) = W1 := ⟨_, rfl⟩
  rw [hW1] at hv hvg
  rw [hzf] at hgx ⊢
  generalize poFail x = y at *
  have d30 : W1.cell? ⟨g, 30, none⟩ = some (.int .i64 y.mf) := (hv.lo 30 (by omega)).trans hv.cf.2.2.2.2.2.2
  have d35 : W1.cell? ⟨g, 35, none⟩ = some (.int .i64 z) := by rw [← hzf]; exact hv.hi 2
  have d27 : W1.cell? ⟨g, 27, none⟩ = some (.int .i64 x.ho) := by rw [← hz]; exact (hv.lo 27 (by omega)).trans hv.cf.2.2.2.1
  have d33 : W1.cell? ⟨g, 33, none⟩ = some (.int .i64 y.st) := hv.hi 0
  have d34 : W1.cell? ⟨g, 34, none⟩ = some (.bool y.wa) := hv.hi 1
  have d37 : W1.cell? ⟨g, 37, none⟩ = some (.int .i64 x.now) := by rw [← hnw]; exact hv.hi 4
  have d40 : W1.cell? ⟨g, 40, none⟩ = some (.int .i64 y.en) := hv.hi 7
  have q33 : W1.frozen? ⟨g, 33, none⟩ = false := hv.frozen 33
  have q34 : W1.frozen? ⟨g, 34, none⟩ = false := hv.frozen 34
  have q40 : W1.frozen? ⟨g, 40, none⟩ = false := hv.frozen 40
  have HV : Hid (∀ q, RpB (W1.drewN q) g cs y) := fun q => hv.drewN q
  have HVG : Hid (∀ q, w.grownBy (W1.drewN q) (some g)) := fun q => gdrewN hvg q
  have HW := Lib.hid hW1
  have HNW := Lib.hid hnw
  rw [hz]
  have HGX := Lib.hid hgx
  have zb : 0 ≤ z ∧ z ≤ 2147483647 := by omega
  obtain ⟨zb0, zb1⟩ := zb
  clear hx ho h hv hvg hW1 hnw hz hzf hho
  generalize y.mf = m at *
  generalize x.fa = fa at *
  have tf : decide (fa < 2147483647) = false := decide_eq_false hcap
  clear hcap hgx
  have HH : Hid (∀ q, Calls Try.prog 47 #[.pointer (some ⟨g, 0, none⟩)] (((W1.drewN q).setCell ⟨g, 33, none⟩ (.int .i64 1)).setCell ⟨g, 40, none⟩ (.int .i64 x.now)) (RpR w g cs (poRel (poHeld y)) (poRelL (poHeld y)))) := by
    show ∀ q, _
    intro q
    rw [← HNW.out]
    exact (rheld_any g cs _ _ (RpB.set_ (y := poHeld y) (RpB.set_ (y := { y with st := 1 }) (HV.out q) 0 (.int .i64 1) rfl ⟨rfl, rfl, rfl, rfl, rfl, rfl⟩) 7 (.int .i64 y.now) rfl ⟨rfl, rfl, rfl, rfl, rfl, rfl⟩)).mono fun e w2 h2 => h2.from (gtrans' (gtrans' (HVG.out q) (gset' _ _ _ _)) (gset' _ _ _ _))
  have HK : Hid (∀ q, RpR w g cs (poHeld y) [] (.returned (.slice none 0 0)) (((W1.drewN q).setCell ⟨g, 33, none⟩ (.int .i64 1)).setCell ⟨g, 40, none⟩ (.int .i64 x.now))) := by
    show ∀ q, _
    intro q
    rw [← HNW.out]
    exact rpr_none (RpB.set_ (y := poHeld y) (RpB.set_ (y := { y with st := 1 }) (HV.out q) 0 (.int .i64 1) rfl ⟨rfl, rfl, rfl, rfl, rfl, rfl⟩) 7 (.int .i64 y.now) rfl ⟨rfl, rfl, rfl, rfl, rfl, rfl⟩) (gtrans' (gtrans' (HVG.out q) (gset' _ _ _ _)) (gset' _ _ _ _))
  by_cases hgive : m ≠ 0 ∧ m ≤ z
  · rw [decide_eq_true hgive]
    simp only [if_true]
    have p1 : decide (0 < m) = true := decide_eq_true (by omega)
    have p2 : decide (m ≤ z) = true := decide_eq_true (by omega)
    have HN : Hid (∀ q, RpR w g cs (poOver y) [] (.returned (.slice none 0 0)) ((((W1.drewN q).setCell ⟨g, 33, none⟩ (.int .i64 5)).setCell ⟨g, 34, none⟩ (.bool false)).setCell ⟨g, 40, none⟩ (.int .i64 x.now))) := by
      show ∀ q, _
      intro q
      rw [← HNW.out]
      exact rpr_none (RpB.set_ (y := poOver y) (RpB.set_ (y := { y with st := 5, wa := false }) (RpB.set_ (y := { y with st := 5 }) (HV.out q) 0 (.int .i64 5) rfl ⟨rfl, rfl, rfl, rfl, rfl, rfl⟩) 1 (.bool false) rfl ⟨rfl, rfl, rfl, rfl, rfl, rfl⟩) 7 (.int .i64 y.now) rfl ⟨rfl, rfl, rfl, rfl, rfl, rfl⟩) (gtrans' (gtrans' (gtrans' (HVG.out q) (gset' _ _ _ _)) (gset' _ _ _ _)) (gset' _ _ _ _))
    clear hgive hm HH HK
    try rw [HGX.out] at HW
    go_enter Try.func35, Try.ntmps35
    go_upto_region 7 with (fail)
    rw [HW.out]
    go_quiet (fail)
    go_wp2
    go_ret
    exact HN.out _
  · rw [decide_eq_false hgive]
    simp only [Bool.false_eq_true, if_false]
    have hp : decide (0 < m) = false ∨ (decide (0 < m) = true ∧ decide (m ≤ z) = false) := by
      by_cases c : m = 0
      · exact .inl (decide_eq_false (by omega))
      · exact .inr ⟨decide_eq_true (by omega), decide_eq_false (by omega)⟩
    clear hgive hm
    try rw [HGX.out] at HW
    by_cases h0 : x.ho = 0
    · rw [if_pos h0, if_pos h0]
      have t0 : (x.ho == 0) = true := by simpa using h0
      clear h0 HK
      rcases hp with p1 | ⟨p1, p2⟩
      all_goals
        go_enter Try.func35, Try.ntmps35
        go_upto_region 7 with (fail)
        rw [HW.out]
        go_quiet (fail)
        go_wp2_with (go_at_call 47; refine (HH.out _).mono ?_; rintro e w4 ⟨v, rfl, h3⟩; have H3 := Lib.hid h3; clear h3)
        go_ret
        exact ⟨v, rfl, H3.out⟩
    · rw [if_neg h0, if_neg h0]
      have t0 : (x.ho == 0) = false := by simpa using h0
      clear h0 HH
      rcases hp with p1 | ⟨p1, p2⟩
      all_goals
        go_enter Try.func35, Try.ntmps35
        go_upto_region 7 with (fail)
        rw [HW.out]
        go_quiet (fail)
        go_wp2
        go_ret
        exact HK.out _
theorem rlinkdown_any (g : Nat) (cs : List Value) (x : PoS) (w : World) (hx : RpB w g cs x) (ho : PoOk x) :
    Calls Try.prog 35 #[.pointer (some ⟨g, 0, none⟩)] w (RpR w g cs (poDo 5 x) (poDoL 5 x)) := by
  by_cases h2 : x.st = 2
  · by_cases hc : x.fa < 2147483647
    · exact rlinkdown_2a g cs x w hx ho h2 hc
    · exact rlinkdown_2b g cs x w hx ho h2 hc
  · by_cases h34 : x.st = 3 ∨ x.st = 4
    · exact rlinkdown_34 g cs x w hx ho h34
    · exact rlinkdown_no g cs x w hx ⟨h2, fun h => h34 (.inl h), fun h => h34 (.inr h)⟩
end Go.Proofs.Ytdjifjlkpimiaaa
