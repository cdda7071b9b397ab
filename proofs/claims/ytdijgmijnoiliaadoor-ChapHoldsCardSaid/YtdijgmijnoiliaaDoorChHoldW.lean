/-
  chap.Holds.
  tetherref13.Holds.
  The law ChapHolds: the walk (written by gen_chholdw.py).
-/
import Derived.Test.YtdijgmijnoiliaaDoorChTop
import Derived.Test.YtdijgmijnoiliaaDoorChAnsW
import Derived.Test.YtdijgmijnoiliaaDoorSameB
import Derived.Test.YtdijgmijnoiliaaDoorChKnown
namespace Go.Proofs.YtdijgmijnoiliaaDoor
open Go.RowKit Go.Shelf
set_option maxRecDepth 100000
set_option maxHeartbeats 1000000
set_option linter.unusedSimpArgs false
set_option linter.unusedVariables false

theorem cholds_any (cc ci : Int) (A : Option Addr) (n c B : Nat) (l : List UInt8) (rc ri : Int) (E : Option Addr) (m me : Nat) (rl : List UInt8) (name : ByteArray) (S : Option Addr) (sn sc BS : Nat) (ss : List Sec) (w : World) (hq : Rd w B A n l) (hr : Rd w B E m rl) (hB : B ≤ w.heap.size) (hn : n ≤ 140737488355328) (hm : m ≤ 140737488355328) (hnm : name.size ≤ maxLen) (hs : SecRd w BS S sn ss) (hBS : BS ≤ w.heap.size) (hK : TabK w) (hS : TabS w) :
    Calls Tryd.prog 21 #[.agg #[.int .i64 cc, .int .i64 ci, .slice A n c], .agg #[.int .i64 rc, .int .i64 ri, .slice E m me], .string name, .slice S sn sc] w (PvR w (hoS cc ci l rc ri rl name ss) (hoE cc ci l rc ri rl name ss)) := by
  obtain ⟨V, hV, bV, h0, h1⟩ : ∃ V, (w.alloc (.cells #[.int .i64 cc, .int .i64 ci, .slice A n c] 24)).alloc (.cells #[.int .i64 rc, .int .i64 ri, .slice E m me] 24) = V ∧ Below w.heap.size w V ∧ Blk V w.heap.size 24 [.int .i64 cc, .int .i64 ci, .slice A n c] ∧ Blk V (w.heap.size + 1) 24 [.int .i64 rc, .int .i64 ri, .slice E m me] := by
    refine ⟨_, rfl, ((Below.refl _ _).alloc (Nat.le_refl _) _).alloc (by simp) _, (Below.heap_alloc _ _ _ (by simp)).trans (heap_alloc_new w _), ?_⟩
    have h := heap_alloc_new (w.alloc (.cells #[.int .i64 cc, .int .i64 ci, .slice A n c] 24)) (.cells #[.int .i64 rc, .int .i64 ri, .slice E m me] 24)
    rw [World.size_alloc] at h
    exact h
  obtain ⟨kc, hkc⟩ : ∃ kc, kindV cc ci (.slice A n c) = kc := ⟨_, rfl⟩
  obtain ⟨kr, hkr⟩ : ∃ kr, kindV rc ri (.slice E m me) = kr := ⟨_, rfl⟩
  obtain ⟨er, her⟩ : ∃ er, hoE cc ci l rc ri rl name ss = er := ⟨_, rfl⟩
  obtain ⟨so, hso⟩ : ∃ so, hoS cc ci l rc ri rl name ss = so := ⟨_, rfl⟩
  have x0 := h0.cell 0
  have x1 := h0.cell 1
  have x2 := h0.cell 2
  have y0 := h1.cell 0
  have y1 := h1.cell 1
  have y2 := h1.cell 2
  have KC : Hid (∀ W, Hid (Below V.heap.size V W) → Calls Tryd.prog 35 #[.agg #[.int .i64 cc, .int .i64 ci, .slice A n c]] W fun e w' => e = .returned kc ∧ Below V.heap.size V w' ∧ Blk w' w.heap.size 24 [.int .i64 cc, .int .i64 ci, .slice A n c] ∧ Blk w' (w.heap.size + 1) 24 [.int .i64 rc, .int .i64 ri, .slice E m me] ∧ ∀ b t cs, Blk W b t cs → Blk w' b t cs) := by
    show ∀ W, _ → Calls _ _ _ _ _
    intro W hW
    refine (kindOf_any cc ci A n c W).mono ?_
    rintro e w' ⟨rfl, hw⟩
    have b1 : Below W.heap.size W w' := by rw [hw]; exact (Below.refl _ _).alloc (Nat.le_refl _) _
    have b2 := step_to hW.out b1
    exact ⟨by rw [hkc], b2, past_same h0 b2, past_same h1 b2, fun b t cs h => past_same h b1⟩
  have KR : Hid (∀ W, Hid (Below V.heap.size V W) → Calls Tryd.prog 35 #[.agg #[.int .i64 rc, .int .i64 ri, .slice E m me]] W fun e w' => e = .returned kr ∧ Below V.heap.size V w' ∧ Blk w' w.heap.size 24 [.int .i64 cc, .int .i64 ci, .slice A n c] ∧ Blk w' (w.heap.size + 1) 24 [.int .i64 rc, .int .i64 ri, .slice E m me] ∧ ∀ b t cs, Blk W b t cs → Blk w' b t cs) := by
    show ∀ W, _ → Calls _ _ _ _ _
    intro W hW
    refine (kindOf_any rc ri E m me W).mono ?_
    rintro e w' ⟨rfl, hw⟩
    have b1 : Below W.heap.size W w' := by rw [hw]; exact (Below.refl _ _).alloc (Nat.le_refl _) _
    have b2 := step_to hW.out b1
    exact ⟨by rw [hkr], b2, past_same h0 b2, past_same h1 b2, fun b t cs h => past_same h b1⟩
  have AM : Hid (∀ W, Hid (Below V.heap.size V W) → Calls Tryd.prog 38 #[.slice S sn sc] W fun e w' => ∃ b, e = .returned (.func (.func 48) #[] #[.pointer (some ⟨b, 0, none⟩)]) ∧ Below V.heap.size V w' ∧ Blk w' w.heap.size 24 [.int .i64 cc, .int .i64 ci, .slice A n c] ∧ Blk w' (w.heap.size + 1) 24 [.int .i64 rc, .int .i64 ri, .slice E m me] ∧ Blk w' b 37 [.slice S sn sc]) := by
    show ∀ W, _ → Calls _ _ _ _ _
    intro W hW
    refine (among_any S sn sc W).mono ?_
    rintro e w' ⟨rfl, hw⟩
    have b1 : Below W.heap.size W w' := by rw [hw]; exact (Below.refl _ _).alloc (Nat.le_refl _) _
    have n1 : Blk w' W.heap.size 37 [.slice S sn sc] := by rw [hw]; exact heap_alloc_new W _
    have b2 := step_to hW.out b1
    exact ⟨_, rfl, b2, past_same h0 b2, past_same h1 b2, n1⟩
  have HO : Hid (∀ W, Hid (Below V.heap.size V W) → ∀ b, Blk W b 37 [.slice S sn sc] → Calls Tryd.prog 40 #[kc, kr, .string name, .func (.func 48) #[] #[.pointer (some ⟨b, 0, none⟩)]] W fun e w' => e = .returned (.tuple #[.string so, .int .i64 er]) ∧ Below w.heap.size w w' ∧ Blk w' w.heap.size 24 [.int .i64 cc, .int .i64 ci, .slice A n c] ∧ Blk w' (w.heap.size + 1) 24 [.int .i64 rc, .int .i64 ri, .slice E m me]) := by
    show ∀ W, _ → ∀ b, _ → Calls _ _ _ _ _
    intro W hW b hb
    have BW := step_to bV hW.out
    have H := holds_any rc ri E m me rl cc ci A n c B l name _ ss W (hq.below (BW.mono hB)) (hr.below (BW.mono hB)) (Nat.le_trans hB BW.size) hn hm hnm (finds_cl hb (hs.below BW hBS) (Nat.le_trans hBS BW.size)) (hK.kept BW) (hS.kept BW)
    rw [hkc, hkr, her, hso] at H
    refine H.mono ?_
    rintro e w' ⟨rfl, b1⟩
    have b2 := step_to hW.out b1
    exact ⟨rfl, step_to BW b1, past_same h0 b2, past_same h1 b2⟩
  rw [her, hso]
  have HA := Lib.hid (Below.refl V.heap.size V)
  have HA1 : Hid (Below V.heap.size V V.drew) := below_drewS (Below.refl V.heap.size V) 1
  have HV := Lib.hid hV
  clear hV bV h0 h1 hkc hkr her hso hq hr hB hn hm hnm hs hBS hK hS
  go_enter Tryd.func21, Tryd.ntmps21
  go_upto_region 1 with (rw [HV.out])
  go_region_held3 (fun w' => w'.cell? ⟨w.heap.size, 0, none⟩ = some (.int .i64 cc) ∧ w'.cell? ⟨w.heap.size, 1, none⟩ = some (.int .i64 ci) ∧ w'.cell? ⟨w.heap.size, 2, none⟩ = some (.slice A n c) ∧ w'.cell? ⟨w.heap.size + 1, 0, none⟩ = some (.int .i64 rc) ∧ w'.cell? ⟨w.heap.size + 1, 1, none⟩ = some (.int .i64 ri) ∧ w'.cell? ⟨w.heap.size + 1, 2, none⟩ = some (.slice E m me)) (go_keep) (first
    | (go_at_call 35; ((with_reducible first | refine (KC.out _ (by assumption)).mono ?_ | refine (KR.out _ (by assumption)).mono ?_); rintro e w1 ⟨rfl, hb1, k0, k1, kp⟩; have HB := Lib.hid hb1; (try have QB := Lib.hid (kp _ _ _ QB.out)); have q0 := k0.cell 0; have q1 := k0.cell 1; have q2 := k0.cell 2; have s0 := k1.cell 0; have s1 := k1.cell 1; have s2 := k1.cell 2; clear hb1 k0 k1 kp))
    | (go_at_call 38; ((with_reducible refine (AM.out _ (by assumption)).mono ?_); rintro e w1 ⟨b, rfl, hb1, k0, k1, kb⟩; have HB := Lib.hid hb1; have QB := Lib.hid kb; have q0 := k0.cell 0; have q1 := k0.cell 1; have q2 := k0.cell 2; have s0 := k1.cell 0; have s1 := k1.cell 1; have s2 := k1.cell 2; clear hb1 k0 k1 kb))
    | (go_at_call 40; ((with_reducible refine (HO.out _ (by assumption) _ QB.out).mono ?_); rintro e w1 ⟨rfl, hb1, k0, k1⟩; have F := Lib.hid hb1; have q0 := k0.cell 0; have q1 := k0.cell 1; have q2 := k0.cell 2; have s0 := k1.cell 0; have s1 := k1.cell 1; have s2 := k1.cell 2; clear hb1 k0 k1)))
  all_goals
    go_wp2
    exact bodyPost_ret (v := .tuple #[.string so, .int .i64 er]) (by simp [results, Tryd.results21, go_sem]) rfl ⟨rfl, F.out⟩
end Go.Proofs.YtdijgmijnoiliaaDoor
namespace Go.Proofs.YtdijgmijnoiliaaDoor
open Go.RowKit Go.Shelf
set_option maxRecDepth 100000
set_option maxHeartbeats 1000000
set_option linter.unusedSimpArgs false
set_option linter.unusedVariables false

theorem rholds_any (cc ci : Int) (A : Option Addr) (n c B : Nat) (l : List UInt8) (rc ri : Int) (E : Option Addr) (m me : Nat) (rl : List UInt8) (name : ByteArray) (S : Option Addr) (sn sc BS : Nat) (ss : List Sec) (w : World) (hq : Rd w B A n l) (hr : Rd w B E m rl) (hB : B ≤ w.heap.size) (hc : n ≤ c) (hme : m ≤ me) (hnil : A = none → c = 0) (hmil : E = none → me = 0) (hn : n ≤ 140737488355328) (hm : m ≤ 140737488355328) (hs : SecRd w BS S sn ss) (hBS : BS ≤ w.heap.size) :
    Calls Tryd.prog 22 #[.agg #[.int .i64 cc, .int .i64 ci, .slice A n c], .agg #[.int .i64 rc, .int .i64 ri, .slice E m me], .string name, .slice S sn sc] w (PvR w (hoS cc ci l rc ri rl name ss) (hoE cc ci l rc ri rl name ss)) := by
  obtain ⟨V, hV, bV, h0, h1⟩ : ∃ V, (w.alloc (.cells #[.int .i64 cc, .int .i64 ci, .slice A n c] 24)).alloc (.cells #[.int .i64 rc, .int .i64 ri, .slice E m me] 24) = V ∧ Below w.heap.size w V ∧ Blk V w.heap.size 24 [.int .i64 cc, .int .i64 ci, .slice A n c] ∧ Blk V (w.heap.size + 1) 24 [.int .i64 rc, .int .i64 ri, .slice E m me] := by
    refine ⟨_, rfl, ((Below.refl _ _).alloc (Nat.le_refl _) _).alloc (by simp) _, (Below.heap_alloc _ _ _ (by simp)).trans (heap_alloc_new w _), ?_⟩
    have h := heap_alloc_new (w.alloc (.cells #[.int .i64 cc, .int .i64 ci, .slice A n c] 24)) (.cells #[.int .i64 rc, .int .i64 ri, .slice E m me] 24)
    rw [World.size_alloc] at h
    exact h
  have x0 := h0.cell 0
  have x1 := h0.cell 1
  have x2 := h0.cell 2
  have y0 := h1.cell 0
  have y1 := h1.cell 1
  have y2 := h1.cell 2
  have HV := Lib.hid hV
  by_cases hcc : cc = 1
  case neg =>
    have e1 : hoE cc ci l rc ri rl name ss = 90 := if_neg (fun h => hcc h.1)
    have e2 : hoS cc ci l rc ri rl name ss = ⟨#[]⟩ := if_neg (fun h => hcc h.1)
    rw [e1, e2]
    have c1 : (cc != 1) = true := by simpa using hcc
    have FN := Lib.hid bV
    clear hV bV h0 h1 hq hr hB hs hBS e1 e2 hcc
    go_enter Tryd.func22, Tryd.ntmps22
    go_wp2_with (rw [HV.out])
    exact bodyPost_ret (v := .tuple #[.string ⟨#[]⟩, .int .i64 90]) (by simp [results, Tryd.results22, go_sem]) rfl ⟨rfl, FN.out⟩
  subst hcc
  by_cases hrc : rc = 2
  case neg =>
    have e1 : hoE 1 ci l rc ri rl name ss = 90 := if_neg (fun h => hrc h.2)
    have e2 : hoS 1 ci l rc ri rl name ss = ⟨#[]⟩ := if_neg (fun h => hrc h.2)
    rw [e1, e2]
    have c1 : (rc != 2) = true := by simpa using hrc
    have FN := Lib.hid bV
    clear hV bV h0 h1 hq hr hB hs hBS e1 e2 hrc
    go_enter Tryd.func22, Tryd.ntmps22
    go_wp2_with (rw [HV.out])
    exact bodyPost_ret (v := .tuple #[.string ⟨#[]⟩, .int .i64 90]) (by simp [results, Tryd.results22, go_sem]) rfl ⟨rfl, FN.out⟩
  subst hrc
  have e1 : hoE 1 ci l 2 ri rl name ss = pvE ci l ri rl name ss := if_pos ⟨rfl, rfl⟩
  have e2 : hoS 1 ci l 2 ri rl name ss = pvS ci l ri rl name ss := if_pos ⟨rfl, rfl⟩
  rw [e1, e2]
  clear e1 e2
  have hRE : rrE 1 ci l = rvE ci l := if_neg (by omega)
  have hRE2 : rrE 2 ri rl = rvE ri rl := if_neg (by omega)
  have RD := rread_any 1 ci A n c B l V (hq.below (bV.mono hB)) (Nat.le_trans hB bV.size) hc hnil hn
  unfold RRR at RD
  rw [hRE] at RD
  have NO : ∀ W er, Below w.heap.size w W → pvE ci l ri rl name ss = er → er ≠ 0 → PvR w (pvS ci l ri rl name ss) (pvE ci l ri rl name ss) (.returned (.tuple #[.string ⟨#[]⟩, .int .i64 er])) W := fun W er hb he h0 => by
    rw [show pvS ci l ri rl name ss = ⟨#[]⟩ from if_neg (by rw [he]; exact h0), he]
    exact ⟨rfl, hb⟩
  by_cases hre : rvE ci l = 0
  case neg =>
    have he : pvE ci l ri rl name ss = rvE ci l := if_pos hre
    have C : Hid (Calls Tryd.prog 17 #[.agg #[.int .i64 1, .int .i64 ci, .slice A n c]] V fun e w1 => ∃ D k d s0, ∃ er : Int, e = .returned (.tuple #[.slice D k d, .string s0, .int .i64 er]) ∧ (er != 0) = true ∧ PvR w (pvS ci l ri rl name ss) (pvE ci l ri rl name ss) (.returned (.tuple #[.string ⟨#[]⟩, .int .i64 er])) w1) := by
      refine RD.mono ?_
      rintro e w1 ⟨b1, D, k, d, rfl, -⟩
      exact ⟨D, k, d, _, _, rfl, by simpa using hre, NO w1 _ (step_to bV b1) he hre⟩
    clear NO RD hV bV h0 h1 hq hr hB hs hBS hre he hRE hRE2
    go_enter Tryd.func22, Tryd.ntmps22
    go_wp2_with (first
      | (rw [HV.out])
      | (go_at_call 17; ((with_reducible refine C.out.mono ?_); rintro e w1 ⟨D, k, d, s0, er, rfl, e1, f1⟩; have F1 := Lib.hid f1; clear f1)))
    exact bodyPost_ret (v := .tuple #[.string ⟨#[]⟩, .int .i64 er]) (by simp [results, Tryd.results22, go_sem]) rfl F1.out
  obtain ⟨i0, i1⟩ := rvE_id hre
  -- the first is read
  have RB : Calls Tryd.prog 17 #[.agg #[.int .i64 1, .int .i64 ci, .slice A n c]] V fun e w1 => ∃ D k d s0, e = .returned (.tuple #[.slice D k d, .string s0, .int .i64 0]) ∧ Below V.heap.size V w1 ∧ Own w1 V.heap.size (.slice D k d) (rvV l) ∧
      Calls Tryd.prog 17 #[.agg #[.int .i64 2, .int .i64 ri, .slice E m me]] w1 fun e w2 => ∃ G j g, e = .returned (.tuple #[.slice G j g, .string (if rvE ri rl = 0 then rvS rl else ⟨#[]⟩), .int .i64 (rvE ri rl)]) ∧ Below w1.heap.size w1 w2 ∧ Own w2 w1.heap.size (.slice G j g) (if rvE ri rl = 0 then rvV rl else []) := by
    refine RD.mono ?_
    rintro e w1 ⟨b1, D, k, d, rfl, o1⟩
    rw [if_pos hre] at o1
    have B1 := step_to bV b1
    have R2 := rread_any 2 ri E m me B rl w1 (hr.below (B1.mono hB)) (Nat.le_trans hB B1.size) hme hmil hm
    unfold RRR at R2
    rw [hRE2] at R2
    refine ⟨D, k, d, _, by rw [hre], b1, o1, R2.mono ?_⟩
    rintro e w2 ⟨b2, G, j, g, rfl, o2⟩
    exact ⟨G, j, g, rfl, b2, o2⟩
  by_cases hrr : rvE ri rl = 0
  case neg =>
    have he : pvE ci l ri rl name ss = rvE ri rl := by unfold pvE; rw [if_neg (by rw [hre]; simp), if_pos hrr]
    have C : Hid (Calls Tryd.prog 17 #[.agg #[.int .i64 1, .int .i64 ci, .slice A n c]] V fun e w1 => ∃ D k d s0, e = .returned (.tuple #[.slice D k d, .string s0, .int .i64 0]) ∧ Blk w1 (w.heap.size + 1) 24 [.int .i64 2, .int .i64 ri, .slice E m me] ∧
        Calls Tryd.prog 17 #[.agg #[.int .i64 2, .int .i64 ri, .slice E m me]] w1 fun e w2 => ∃ G j g s1, ∃ er : Int, e = .returned (.tuple #[.slice G j g, .string s1, .int .i64 er]) ∧ (er != 0) = true ∧ PvR w (pvS ci l ri rl name ss) (pvE ci l ri rl name ss) (.returned (.tuple #[.string ⟨#[]⟩, .int .i64 er])) w2) := by
      refine RB.mono ?_
      rintro e w1 ⟨D, k, d, s0, rfl, b1, o1, h2⟩
      refine ⟨D, k, d, s0, rfl, past_same h1 b1, h2.mono ?_⟩
      rintro e w2 ⟨G, j, g, rfl, b2, -⟩
      exact ⟨G, j, g, _, _, rfl, by simpa using hrr, NO w2 _ (step_to (step_to bV b1) b2) he hrr⟩
    clear NO RD RB hV bV h0 h1 hq hr hB hs hBS hre hrr he hRE hRE2
    go_enter Tryd.func22, Tryd.ntmps22
    go_wp2_with (first
      | (rw [HV.out])
      | (go_at_call 17; ((with_reducible refine C.out.mono ?_); rintro e w1 ⟨D, k, d, s0, rfl, k1, n1⟩; have u0 := k1.cell 0; have u1 := k1.cell 1; have u2 := k1.cell 2; have C1 := Lib.hid n1; clear k1 n1 C))
      | (go_at_call 17; ((with_reducible refine C1.out.mono ?_); rintro e w2 ⟨G, j, g, s1, er, rfl, e1, f1⟩; have F1 := Lib.hid f1; clear f1)))
    exact bodyPost_ret (v := .tuple #[.string ⟨#[]⟩, .int .i64 er]) (by simp [results, Tryd.results22, go_sem]) rfl F1.out
  obtain ⟨cl, hcl⟩ : ∃ cl, rvS rl = cl := ⟨_, rfl⟩
  by_cases hid : ci = ri
  case neg =>
    have he : pvE ci l ri rl name ss = 201 := by unfold pvE; rw [if_neg (by rw [hre]; simp), if_neg (by rw [hrr]; simp), if_pos hid]
    have e1 : (ci != ri) = true := by simpa using hid
    have C : Hid (Calls Tryd.prog 17 #[.agg #[.int .i64 1, .int .i64 ci, .slice A n c]] V fun e w1 => ∃ D k d s0, e = .returned (.tuple #[.slice D k d, .string s0, .int .i64 0]) ∧ Blk w1 (w.heap.size + 1) 24 [.int .i64 2, .int .i64 ri, .slice E m me] ∧
        Calls Tryd.prog 17 #[.agg #[.int .i64 2, .int .i64 ri, .slice E m me]] w1 fun e w2 => ∃ G j g s1, e = .returned (.tuple #[.slice G j g, .string s1, .int .i64 0]) ∧ Blk w2 w.heap.size 24 [.int .i64 1, .int .i64 ci, .slice A n c] ∧ Blk w2 (w.heap.size + 1) 24 [.int .i64 2, .int .i64 ri, .slice E m me] ∧ PvR w (pvS ci l ri rl name ss) (pvE ci l ri rl name ss) (.returned (.tuple #[.string ⟨#[]⟩, .int .i64 201])) w2) := by
      refine RB.mono ?_
      rintro e w1 ⟨D, k, d, s0, rfl, b1, o1, h2⟩
      refine ⟨D, k, d, s0, rfl, past_same h1 b1, h2.mono ?_⟩
      rintro e w2 ⟨G, j, g, rfl, b2, -⟩
      exact ⟨G, j, g, _, by rw [hrr], past_same (past_same h0 b1) b2, past_same (past_same h1 b1) b2, NO w2 _ (step_to (step_to bV b1) b2) he (by decide)⟩
    clear NO RD RB hV bV h0 h1 hq hr hB hs hBS hre hrr he hRE hRE2 hcl hid
    go_enter Tryd.func22, Tryd.ntmps22
    go_wp2_with (first
      | (rw [HV.out])
      | (go_at_call 17; ((with_reducible refine C.out.mono ?_); rintro e w1 ⟨D, k, d, s0, rfl, k1, n1⟩; have u0 := k1.cell 0; have u1 := k1.cell 1; have u2 := k1.cell 2; have C1 := Lib.hid n1; clear k1 n1 C))
      | (go_at_call 17; ((with_reducible refine C1.out.mono ?_); rintro e w2 ⟨G, j, g, s1, rfl, k0, k1, f1⟩; have v0 := k0.cell 0; have v1 := k0.cell 1; have v2 := k0.cell 2; have z0 := k1.cell 0; have z1 := k1.cell 1; have z2 := k1.cell 2; have F1 := Lib.hid f1; clear f1 k0 k1)))
    exact bodyPost_ret (v := .tuple #[.string ⟨#[]⟩, .int .i64 201]) (by simp [results, Tryd.results22, go_sem]) rfl F1.out
  subst hid
  have hnq : ¬ ci ≠ ci := fun h => h rfl
  obtain ⟨wd, hwd⟩ : ∃ wd, wdS ss (bst ss cl name) = wd := ⟨_, rfl⟩
  have WC : Calls Tryd.prog 17 #[.agg #[.int .i64 1, .int .i64 ci, .slice A n c]] V fun e w1 => ∃ D k d s0, e = .returned (.tuple #[.slice D k d, .string s0, .int .i64 0]) ∧ Blk w1 (w.heap.size + 1) 24 [.int .i64 2, .int .i64 ci, .slice E m me] ∧
      Calls Tryd.prog 17 #[.agg #[.int .i64 2, .int .i64 ci, .slice E m me]] w1 fun e w2 => ∃ G j g, e = .returned (.tuple #[.slice G j g, .string cl, .int .i64 0]) ∧ Blk w2 w.heap.size 24 [.int .i64 1, .int .i64 ci, .slice A n c] ∧ Blk w2 (w.heap.size + 1) 24 [.int .i64 2, .int .i64 ci, .slice E m me] ∧
      Calls Tryd.prog 23 #[.slice S sn sc, .string cl, .string name] w2 fun e w3 => ∃ s1 s2 F1 m1 k1 b, e = .returned (.tuple #[.agg #[.string s1, .string s2, .string wd, .slice F1 m1 k1], .bool b]) ∧ (b = false → wdB ss (bst ss cl name) = false) ∧
        ∃ V2, w3.alloc (.cells #[.string s1, .string s2, .string wd, .slice F1 m1 k1] 44) = V2 ∧ Blk V2 w3.heap.size 44 [.string s1, .string s2, .string wd, .slice F1 m1 k1] ∧ Blk V2 w.heap.size 24 [.int .i64 1, .int .i64 ci, .slice A n c] ∧ Below w.heap.size w V2 ∧ Own V2 V.heap.size (.slice D k d) (rvV l) ∧ ∃ b0, Own V2 b0 (.slice G j g) (rvV rl) := by
    refine RB.mono ?_
    rintro e w1 ⟨D, k, d, s0, rfl, b1, o1, h2⟩
    refine ⟨D, k, d, s0, rfl, past_same h1 b1, h2.mono ?_⟩
    rintro e w2 ⟨G, j, g, rfl, b2, o2⟩
    rw [if_pos hrr] at o2
    have B2 := step_to (step_to bV b1) b2
    refine ⟨G, j, g, by rw [if_pos hrr, hcl, hrr], past_same (past_same h0 b1) b2, past_same (past_same h1 b1) b2, (rfind_any S sn sc BS ss cl name w2 (hs.below B2 hBS) (Nat.le_trans hBS B2.size)).mono ?_⟩
    intro e w3 hh
    obtain ⟨s1, s2, F1, m1, k1, b, rfl, b3, hbf⟩ := rfindR_box hh
    have b4 := (Below.refl w3.heap.size w3).alloc (Nat.le_refl _) (.cells #[.string s1, .string s2, .string wd, .slice F1 m1 k1] 44)
    have n4 := heap_alloc_new w3 (.cells #[.string s1, .string s2, .string wd, .slice F1 m1 k1] 44)
    have b34 := step_to b3 b4
    exact ⟨s1, s2, F1, m1, k1, b, by rw [hwd], hbf, _, rfl, n4, past_same (past_same (past_same h0 b1) b2) b34, step_to B2 b34, (o1.later b2).later b34, _, o2.later b34⟩
  cases hwb : wdB ss (bst ss cl name)
  case false =>
    have he : pvE ci l ci rl name ss = 5 := by unfold pvE; rw [if_neg (by rw [hre]; simp), if_neg (by rw [hrr]; simp), if_neg hnq, hcl, if_pos hwb]
    have hwe : wd.toList.isEmpty = true := by
      unfold wdB at hwb
      rw [hwd] at hwb
      exact str_nil (by have := of_decide_eq_false hwb; omega)
    have C : Hid (Calls Tryd.prog 17 #[.agg #[.int .i64 1, .int .i64 ci, .slice A n c]] V fun e w1 => ∃ D k d s0, e = .returned (.tuple #[.slice D k d, .string s0, .int .i64 0]) ∧ Blk w1 (w.heap.size + 1) 24 [.int .i64 2, .int .i64 ci, .slice E m me] ∧
        Calls Tryd.prog 17 #[.agg #[.int .i64 2, .int .i64 ci, .slice E m me]] w1 fun e w2 => ∃ G j g, e = .returned (.tuple #[.slice G j g, .string cl, .int .i64 0]) ∧ Blk w2 w.heap.size 24 [.int .i64 1, .int .i64 ci, .slice A n c] ∧ Blk w2 (w.heap.size + 1) 24 [.int .i64 2, .int .i64 ci, .slice E m me] ∧
        Calls Tryd.prog 23 #[.slice S sn sc, .string cl, .string name] w2 fun e w3 => ∃ s1 s2 F1 m1 k1 b, e = .returned (.tuple #[.agg #[.string s1, .string s2, .string wd, .slice F1 m1 k1], .bool b]) ∧
          ∃ V2, w3.alloc (.cells #[.string s1, .string s2, .string wd, .slice F1 m1 k1] 44) = V2 ∧ Blk V2 w3.heap.size 44 [.string s1, .string s2, .string wd, .slice F1 m1 k1] ∧ PvR w (pvS ci l ci rl name ss) (pvE ci l ci rl name ss) (.returned (.tuple #[.string ⟨#[]⟩, .int .i64 5])) V2) := by
      refine WC.mono ?_
      rintro e w1 ⟨D, k, d, s0, rfl, p1, h2⟩
      refine ⟨D, k, d, s0, rfl, p1, h2.mono ?_⟩
      rintro e w2 ⟨G, j, g, rfl, p2, p3, h3⟩
      refine ⟨G, j, g, rfl, p2, p3, h3.mono ?_⟩
      rintro e w3 ⟨s1, s2, F1, m1, k1, b, rfl, -, V2, hV2, n2, -, bW, -, -⟩
      exact ⟨s1, s2, F1, m1, k1, b, rfl, V2, hV2, n2, NO V2 _ bW he (by decide)⟩
    clear NO RD RB WC hV bV h0 h1 hq hr hB hs hBS hre hrr he hRE hRE2 hcl hnq hwd hwb i0 i1
    go_enter Tryd.func22, Tryd.ntmps22
    go_upto_region 12 with (first
      | (rw [HV.out])
      | (go_at_call 17; ((with_reducible refine C.out.mono ?_); rintro e w1 ⟨D, k, d, s0, rfl, k1, n1⟩; have u0 := k1.cell 0; have u1 := k1.cell 1; have u2 := k1.cell 2; have C1 := Lib.hid n1; clear k1 n1 C))
      | (go_at_call 17; ((with_reducible refine C1.out.mono ?_); rintro e w2 ⟨G, j, g, rfl, k0, k1, f1⟩; have v0 := k0.cell 0; have v1 := k0.cell 1; have v2 := k0.cell 2; have z0 := k1.cell 0; have z1 := k1.cell 1; have z2 := k1.cell 2; have C2 := Lib.hid f1; clear f1 k0 k1))
      | (go_at_call 23; ((with_reducible refine C2.out.mono ?_); rintro e w3 ⟨s1, s2, F2, m1, q1, b, rfl, V2, hV2, n2, f1⟩; have HV2 := Lib.hid hV2; have t0 := n2.cell 0; have t1 := n2.cell 1; have t2 := n2.cell 2; have t3 := n2.cell 3; have F1 := Lib.hid f1; clear hV2 n2 f1))
      | (rw [HV2.out]))
    rcases b with _ | _
    all_goals
      go_wp2
      exact bodyPost_ret (v := .tuple #[.string ⟨#[]⟩, .int .i64 5]) (by simp [results, Tryd.results22, go_sem]) rfl F1.out
  have hwz : wd.size ≤ 64 := by rw [← hwd]; exact wdS_size
  have hwe : wd.toList.isEmpty = false := by
    unfold wdB at hwb
    rw [hwd] at hwb
    exact str_ne (of_decide_eq_true hwb)
  obtain ⟨dg, hdg⟩ : ∃ dg, digL ci wd (rvV l) = dg := ⟨_, rfl⟩
  have hD : dg.length = 16 := by rw [← hdg]; exact digL_length _ _ _
  have he : pvE ci l ci rl name ss = if rvV rl ≠ dg then 120 else 0 := by unfold pvE; rw [if_neg (by rw [hre]; simp), if_neg (by rw [hrr]; simp), if_neg hnq, hcl, if_neg (by rw [hwb]; simp), hwd, hdg]
  have hvl : ∀ q : List UInt8, (rvV q).length ≤ 255 := fun q => by
    unfold rvV
    rw [List.length_take]
    have := rvN_lt q
    omega
  obtain ⟨bb, hbb⟩ : ∃ bb, decide (rvV rl = dg) = bb := ⟨_, rfl⟩
  obtain ⟨er, her⟩ : ∃ er : Int, pvE ci l ci rl name ss = er := ⟨_, rfl⟩
  obtain ⟨so, hso⟩ : ∃ so, pvS ci l ci rl name ss = so := ⟨_, rfl⟩
  have hres : (bb = false ∧ er = 120 ∧ so = ⟨#[]⟩) ∨ (bb = true ∧ er = 0 ∧ so = cl) := by
    rw [← her, ← hso, ← hbb, he]
    unfold pvS
    rw [he, hcl]
    by_cases h : rvV rl = dg
    · exact .inr ⟨by simp [h], by simp [h], by simp [h]⟩
    · exact .inl ⟨by simp [h], by simp [h], by simp [h]⟩
  have C : Hid (Calls Tryd.prog 17 #[.agg #[.int .i64 1, .int .i64 ci, .slice A n c]] V fun e w1 => ∃ D k d s0, e = .returned (.tuple #[.slice D k d, .string s0, .int .i64 0]) ∧ Blk w1 (w.heap.size + 1) 24 [.int .i64 2, .int .i64 ci, .slice E m me] ∧
      Calls Tryd.prog 17 #[.agg #[.int .i64 2, .int .i64 ci, .slice E m me]] w1 fun e w2 => ∃ G j g, e = .returned (.tuple #[.slice G j g, .string cl, .int .i64 0]) ∧ Blk w2 w.heap.size 24 [.int .i64 1, .int .i64 ci, .slice A n c] ∧ Blk w2 (w.heap.size + 1) 24 [.int .i64 2, .int .i64 ci, .slice E m me] ∧
      Calls Tryd.prog 23 #[.slice S sn sc, .string cl, .string name] w2 fun e w3 => ∃ s1 s2 F1 m1 k1, e = .returned (.tuple #[.agg #[.string s1, .string s2, .string wd, .slice F1 m1 k1], .bool true]) ∧
        ∃ V2, w3.alloc (.cells #[.string s1, .string s2, .string wd, .slice F1 m1 k1] 44) = V2 ∧ Blk V2 w3.heap.size 44 [.string s1, .string s2, .string wd, .slice F1 m1 k1] ∧ Blk V2 w.heap.size 24 [.int .i64 1, .int .i64 ci, .slice A n c] ∧
      Calls Tryd.prog 39 #[.int .i64 ci, .string wd, .slice D k d] V2 fun e w4 => ∃ D2 k2 d2, e = .returned (.slice D2 k2 d2) ∧
      Calls Tryd.prog 15 #[.slice G j g, .slice D2 k2 d2] w4 fun e w5 => e = .returned (.bool bb) ∧ PvR w so er (.returned (.tuple #[.string so, .int .i64 er])) w5) := by
    refine WC.mono ?_
    rintro e w1 ⟨D, k, d, s0, rfl, p1, h2⟩
    refine ⟨D, k, d, s0, rfl, p1, h2.mono ?_⟩
    rintro e w2 ⟨G, j, g, rfl, p2, p3, h3⟩
    refine ⟨G, j, g, rfl, p2, p3, h3.mono ?_⟩
    rintro e w3 ⟨s1, s2, F1, m1, k1, b, rfl, hbf, V2, hV2, n2, p4, bW, o1, b0, o2⟩
    have hbt : b = true := by
      cases b
      · rw [hwb] at hbf; exact absurd (hbf rfl) (by simp)
      · rfl
    subst hbt
    refine ⟨s1, s2, F1, m1, k1, rfl, V2, hV2, n2, p4, ?_⟩
    have rd := own_rd o1
    have hk : k ≤ 255 := by rw [← rd.1.1]; exact hvl l
    refine (right_dig ci wd D k d V2.heap.size (rvV l) V2 i0 i1 rd.1 (Nat.le_refl _) rd.2.2 (by omega) (by omega)).mono ?_
    rw [hdg]
    rintro e w4 ⟨D2, k2, d2, rfl, o3, b3⟩
    refine ⟨D2, k2, d2, rfl, ?_⟩
    have rg := own_rd (o2.later b3)
    have rd2 := own_rd o3
    have hj : j ≤ 255 := by rw [← rg.1.1]; exact hvl rl
    have hk2 : k2 = 16 := by rw [← rd2.1.1]; exact hD
    refine (same_any G D2 j k2 g d2 (rvV rl) dg w4 w4.heap.size rg.1 rd2.1 (by unfold maxLen; omega) (by unfold maxLen; omega)).mono ?_
    rintro e w5 ⟨rfl, q, rfl⟩
    exact ⟨by rw [hbb], rfl, below_drewN (step_to bW b3) q⟩
  rw [hso, her]
  clear NO RD RB WC hV bV h0 h1 hq hr hB hs hBS hre hrr he hRE hRE2 hcl hnq hwd hwb i0 i1 hwz hdg hD hvl hbb her hso
  rcases hres with ⟨rfl, rfl, rfl⟩ | ⟨rfl, rfl, rfl⟩
  all_goals
    go_enter Tryd.func22, Tryd.ntmps22
    go_wp2_with (first
      | (rw [HV.out])
      | (go_at_call 17; ((with_reducible refine C.out.mono ?_); rintro e w1 ⟨D, k, d, s0, rfl, k1, n1⟩; have u0 := k1.cell 0; have u1 := k1.cell 1; have u2 := k1.cell 2; have C1 := Lib.hid n1; clear k1 n1 C))
      | (go_at_call 17; ((with_reducible refine C1.out.mono ?_); rintro e w2 ⟨G, j, g, rfl, k0, k1, f1⟩; have v0 := k0.cell 0; have v1 := k0.cell 1; have v2 := k0.cell 2; have z0 := k1.cell 0; have z1 := k1.cell 1; have z2 := k1.cell 2; have C2 := Lib.hid f1; clear f1 k0 k1))
      | (go_at_call 23; ((with_reducible refine C2.out.mono ?_); rintro e w3 ⟨s1, s2, F2, m1, q1, rfl, V2, hV2, n2, n3, f1⟩; have HV2 := Lib.hid hV2; have t0 := n2.cell 0; have t1 := n2.cell 1; have t2 := n2.cell 2; have t3 := n2.cell 3; have p1 := n3.cell 1; have C3 := Lib.hid f1; clear hV2 n2 n3 f1))
      | (rw [HV2.out])
      | (go_at_call 39; ((with_reducible refine C3.out.mono ?_); rintro e w4 ⟨D2, k2, d2, rfl, n1⟩; have C4 := Lib.hid n1; clear n1))
      | (go_at_call 15; ((with_reducible refine C4.out.mono ?_); rintro e w5 ⟨rfl, f1⟩; have F1 := Lib.hid f1; clear f1)))
    first
      | exact bodyPost_ret (v := .tuple #[.string ⟨#[]⟩, .int .i64 120]) (by simp [results, Tryd.results22, go_sem]) rfl F1.out
      | exact bodyPost_ret (v := .tuple #[.string _, .int .i64 0]) (by simp [results, Tryd.results22, go_sem]) rfl F1.out
end Go.Proofs.YtdijgmijnoiliaaDoor
namespace Go.Proofs.YtdijgmijnoiliaaDoor
open Go.RowKit Go.Shelf
set_option maxRecDepth 100000
set_option maxHeartbeats 1000000
set_option linter.unusedSimpArgs false
set_option linter.unusedVariables false

theorem ho_zero {cc ci : Int} {l : List UInt8} {rc ri : Int} {rl : List UInt8} {name : ByteArray} {ss : List Sec} (h : hoE cc ci l rc ri rl name ss = 0) :
    cc = 1 ∧ rc = 2 ∧ rvE ci l = 0 ∧ rvE ri rl = 0 ∧ ci = ri ∧ wdB ss (bst ss (rvS rl) name) = true ∧ rvV rl = digL ci (wdS ss (bst ss (rvS rl) name)) (rvV l) ∧ hoS cc ci l rc ri rl name ss = rvS rl := by
  unfold hoE at h
  split at h
  · rename_i hc
    have hp := h
    unfold pvE at h
    split at h
    · rename_i h1; exact absurd h h1
    · rename_i h1
      split at h
      · rename_i h2; exact absurd h h2
      · rename_i h2
        split at h
        · exact absurd h (by decide)
        · rename_i h3
          split at h
          · exact absurd h (by decide)
          · rename_i h4
            split at h
            · exact absurd h (by decide)
            · rename_i h5
              refine ⟨hc.1, hc.2, Decidable.not_not.1 h1, Decidable.not_not.1 h2, Decidable.not_not.1 h3, by simpa using h4, Decidable.not_not.1 h5, ?_⟩
              unfold hoS
              rw [if_pos hc]
              unfold pvS
              rw [if_pos hp]
  · exact absurd h (by decide)
theorem chapholds_walk (cc ci : Int) (A : Option Addr) (n c : Nat) (l : List UInt8) (rc ri : Int) (E : Option Addr) (m me : Nat) (rl : List UInt8) (name : ByteArray) (S : Option Addr) (sn sc : Nat) (ss : List Sec) (w : World) (hq : Rd w w.heap.size A n l) (hr : Rd w w.heap.size E m rl) (hnil : A = none → c = 0) (hmil : E = none → me = 0) (hc : n ≤ c) (hme : m ≤ me) (hc2 : c ≤ 140737488351232) (hme2 : me ≤ 140737488351232) (hnm : name.size ≤ maxLen) (hs : SecRd w w.heap.size S sn ss) (hK : TabK w) (hS : TabS w) :
    Calls Tryd.prog 5 #[.agg #[.int .i64 cc, .int .i64 ci, .slice A n c], .agg #[.int .i64 rc, .int .i64 ri, .slice E m me], .string name, .slice S sn sc] w fun e w' => e = .returned (.bool true) ∧ Below w.heap.size w w' := by
  obtain ⟨V, hV, bV, h0, h1⟩ : ∃ V, (w.alloc (.cells #[.int .i64 cc, .int .i64 ci, .slice A n c] 24)).alloc (.cells #[.int .i64 rc, .int .i64 ri, .slice E m me] 24) = V ∧ Below w.heap.size w V ∧ Blk V w.heap.size 24 [.int .i64 cc, .int .i64 ci, .slice A n c] ∧ Blk V (w.heap.size + 1) 24 [.int .i64 rc, .int .i64 ri, .slice E m me] := by
    refine ⟨_, rfl, ((Below.refl _ _).alloc (Nat.le_refl _) _).alloc (by simp) _, (Below.heap_alloc _ _ _ (by simp)).trans (heap_alloc_new w _), ?_⟩
    have h := heap_alloc_new (w.alloc (.cells #[.int .i64 cc, .int .i64 ci, .slice A n c] 24)) (.cells #[.int .i64 rc, .int .i64 ri, .slice E m me] 24)
    rw [World.size_alloc] at h
    exact h
  obtain ⟨er, her⟩ : ∃ er, hoE cc ci l rc ri rl name ss = er := ⟨_, rfl⟩
  obtain ⟨so, hso⟩ : ∃ so, hoS cc ci l rc ri rl name ss = so := ⟨_, rfl⟩
  have x0 := h0.cell 0
  have x1 := h0.cell 1
  have x2 := h0.cell 2
  have y0 := h1.cell 0
  have y1 := h1.cell 1
  have y2 := h1.cell 2
  have HV := Lib.hid hV
  have BB : Calls Tryd.prog 21 #[.agg #[.int .i64 cc, .int .i64 ci, .slice A n c], .agg #[.int .i64 rc, .int .i64 ri, .slice E m me], .string name, .slice S sn sc] V fun e w1 => e = .returned (.tuple #[.string so, .int .i64 er]) ∧ Below V.heap.size V w1 ∧
      Calls Tryd.prog 22 #[.agg #[.int .i64 cc, .int .i64 ci, .slice A n c], .agg #[.int .i64 rc, .int .i64 ri, .slice E m me], .string name, .slice S sn sc] w1 fun e w2 => e = .returned (.tuple #[.string so, .int .i64 er]) ∧ Below V.heap.size V w2 := by
    have H1 := cholds_any cc ci A n c w.heap.size l rc ri E m me rl name S sn sc w.heap.size ss V (hq.below bV) (hr.below bV) bV.size (by omega) (by omega) hnm (hs.below bV (Nat.le_refl _)) bV.size (hK.kept bV) (hS.kept bV)
    rw [her, hso] at H1
    refine H1.mono ?_
    rintro e w1 ⟨rfl, b1⟩
    have B1 := step_to bV b1
    refine ⟨rfl, b1, ?_⟩
    have H2 := rholds_any cc ci A n c w.heap.size l rc ri E m me rl name S sn sc w.heap.size ss w1 (hq.below B1) (hr.below B1) B1.size hc hme hnil hmil (by omega) (by omega) (hs.below B1 (Nat.le_refl _)) B1.size
    rw [her, hso] at H2
    refine H2.mono ?_
    rintro e w2 ⟨rfl, b2⟩
    exact ⟨rfl, step_to b1 b2⟩
  have hbb : ∀ s : ByteArray, (s.toList == s.toList) = true := fun s => by simp
  have heq : ∀ z : Int, (z == z) = true := by simp
  by_cases h00 : er = 0
  case neg =>
    have e1 : (er != 0) = true := by simpa using h00
    have C : Hid (Calls Tryd.prog 21 #[.agg #[.int .i64 cc, .int .i64 ci, .slice A n c], .agg #[.int .i64 rc, .int .i64 ri, .slice E m me], .string name, .slice S sn sc] V fun e w1 => e = .returned (.tuple #[.string so, .int .i64 er]) ∧ Blk w1 w.heap.size 24 [.int .i64 cc, .int .i64 ci, .slice A n c] ∧ Blk w1 (w.heap.size + 1) 24 [.int .i64 rc, .int .i64 ri, .slice E m me] ∧
        Calls Tryd.prog 22 #[.agg #[.int .i64 cc, .int .i64 ci, .slice A n c], .agg #[.int .i64 rc, .int .i64 ri, .slice E m me], .string name, .slice S sn sc] w1 fun e w2 => e = .returned (.tuple #[.string so, .int .i64 er]) ∧
        Calls Tryd.prog 18 #[] w2 fun e w4 => e = .returned (.bool true) ∧ Below w.heap.size w w4) := by
      refine BB.mono ?_
      rintro e w1 ⟨rfl, b1, h2⟩
      refine ⟨rfl, past_same h0 b1, past_same h1 b1, h2.mono ?_⟩
      rintro e w2 ⟨rfl, b2⟩
      have B2 := step_to bV b2
      refine ⟨rfl, (known_any w2 (hK.kept B2) (hS.kept B2)).mono ?_⟩
      rintro e w4 ⟨rfl, b4⟩
      exact ⟨rfl, step_to B2 b4⟩
    clear BB hV bV h0 h1 hq hr hs hK hS her hso h00 hnil hmil hc hme hc2 hme2 hnm
    go_enter Tryd.func5, Tryd.ntmps5
    go_wp2_with (first
      | (rw [HV.out])
      | (go_at_call 21; ((with_reducible refine C.out.mono ?_); rintro e w1 ⟨rfl, k0, k1, n1⟩; have u0 := k0.cell 0; have u1 := k0.cell 1; have u2 := k0.cell 2; have v0 := k1.cell 0; have v1 := k1.cell 1; have v2 := k1.cell 2; have C1 := Lib.hid n1; clear k0 k1 n1))
      | (go_at_call 22; ((with_reducible refine C1.out.mono ?_); rintro e w2 ⟨rfl, n1⟩; have C2 := Lib.hid n1; clear n1))
      | (go_at_call 18; ((with_reducible refine C2.out.mono ?_); rintro e w4 ⟨rfl, b4⟩; have F := Lib.hid b4; clear b4)))
    go_ret
    exact ⟨rfl, F.out⟩
  subst h00
  obtain ⟨rfl, rfl, hre, hrr, rfl, hwb, hdv, hss⟩ := ho_zero her
  rw [hso] at hss
  obtain ⟨i0, i1⟩ := rvE_id hre
  rw [← hss] at hwb hdv
  obtain ⟨wd, hwd⟩ : ∃ wd, wdS ss (bst ss so name) = wd := ⟨_, rfl⟩
  rw [hwd] at hdv
  have hwz : wd.size ≤ 64 := by rw [← hwd]; exact wdS_size
  have hwe : wd.toList.isEmpty = false := by
    unfold wdB at hwb
    rw [hwd] at hwb
    exact str_ne (of_decide_eq_true hwb)
  obtain ⟨dg, hdg⟩ : ∃ dg, digL ci wd (rvV l) = dg := ⟨_, rfl⟩
  have hD : dg.length = 16 := by rw [← hdg]; exact digL_length _ _ _
  rw [hdg] at hdv
  have RS := fun (D : Option Addr) (k d : Nat) (W : World) h1 h2 h3 h4 h5 => rresp_dig ci wd D k d W.heap.size (rvV l) W i0 i1 h1 h2 h3 h4 h5
  rw [hdg] at RS
  have hvl : (rvV l).length ≤ 255 := by
    unfold rvV
    rw [List.length_take]
    have := rvN_lt l
    omega
  obtain ⟨d0, d1, d2, d3, d4, d5, d6, d7, d8, d9, d10, d11, d12, d13, d14, d15, rfl⟩ := list16' dg hD
  have C : Hid (Calls Tryd.prog 21 #[.agg #[.int .i64 1, .int .i64 ci, .slice A n c], .agg #[.int .i64 2, .int .i64 ci, .slice E m me], .string name, .slice S sn sc] V fun e w1 => e = .returned (.tuple #[.string so, .int .i64 0]) ∧ Blk w1 w.heap.size 24 [.int .i64 1, .int .i64 ci, .slice A n c] ∧ Blk w1 (w.heap.size + 1) 24 [.int .i64 2, .int .i64 ci, .slice E m me] ∧
      Calls Tryd.prog 22 #[.agg #[.int .i64 1, .int .i64 ci, .slice A n c], .agg #[.int .i64 2, .int .i64 ci, .slice E m me], .string name, .slice S sn sc] w1 fun e w2 => e = .returned (.tuple #[.string so, .int .i64 0]) ∧ Blk w2 w.heap.size 24 [.int .i64 1, .int .i64 ci, .slice A n c] ∧
      Calls Tryd.prog 17 #[.agg #[.int .i64 1, .int .i64 ci, .slice A n c]] w2 fun e w3 => ∃ D k d s0, e = .returned (.tuple #[.slice D k d, .string s0, .int .i64 0]) ∧ Blk w3 (w.heap.size + 1) 24 [.int .i64 2, .int .i64 ci, .slice E m me] ∧
      Calls Tryd.prog 17 #[.agg #[.int .i64 2, .int .i64 ci, .slice E m me]] w3 fun e w4 => ∃ G j g, e = .returned (.tuple #[.slice G j g, .string so, .int .i64 0]) ∧
      Calls Tryd.prog 23 #[.slice S sn sc, .string so, .string name] w4 fun e w5 => ∃ s1 s2 F1 m1 k1, e = .returned (.tuple #[.agg #[.string s1, .string s2, .string wd, .slice F1 m1 k1], .bool true]) ∧
      ∃ V2, w5.alloc (.cells #[.string s1, .string s2, .string wd, .slice F1 m1 k1] 44) = V2 ∧ Blk V2 w5.heap.size 44 [.string s1, .string s2, .string wd, .slice F1 m1 k1] ∧ Blk V2 w.heap.size 24 [.int .i64 1, .int .i64 ci, .slice A n c] ∧
      Calls Tryd.prog 24 #[.int .i64 ci, .string wd, .slice D k d] V2 fun e w6 => e = .returned (.tuple #[.agg #[.int .u8 (d0.toNat : Int), .int .u8 (d1.toNat : Int), .int .u8 (d2.toNat : Int), .int .u8 (d3.toNat : Int), .int .u8 (d4.toNat : Int), .int .u8 (d5.toNat : Int), .int .u8 (d6.toNat : Int), .int .u8 (d7.toNat : Int), .int .u8 (d8.toNat : Int), .int .u8 (d9.toNat : Int), .int .u8 (d10.toNat : Int), .int .u8 (d11.toNat : Int), .int .u8 (d12.toNat : Int), .int .u8 (d13.toNat : Int), .int .u8 (d14.toNat : Int), .int .u8 (d15.toNat : Int)], .int .i64 0]) ∧
      ∃ V3, w6.alloc (.cells #[.int .u8 (d0.toNat : Int), .int .u8 (d1.toNat : Int), .int .u8 (d2.toNat : Int), .int .u8 (d3.toNat : Int), .int .u8 (d4.toNat : Int), .int .u8 (d5.toNat : Int), .int .u8 (d6.toNat : Int), .int .u8 (d7.toNat : Int), .int .u8 (d8.toNat : Int), .int .u8 (d9.toNat : Int), .int .u8 (d10.toNat : Int), .int .u8 (d11.toNat : Int), .int .u8 (d12.toNat : Int), .int .u8 (d13.toNat : Int), .int .u8 (d14.toNat : Int), .int .u8 (d15.toNat : Int)] 47) = V3 ∧ Blk V3 w5.heap.size 44 [.string s1, .string s2, .string wd, .slice F1 m1 k1] ∧ Blk V3 w.heap.size 24 [.int .i64 1, .int .i64 ci, .slice A n c] ∧ Blk V3 (w.heap.size + 1) 24 [.int .i64 2, .int .i64 ci, .slice E m me] ∧
      Calls Tryd.prog 15 #[.slice G j g, .slice (some ⟨w6.heap.size, 0, none⟩) 16 16] V3 fun e w7 => e = .returned (.bool true) ∧
      Calls Tryd.prog 18 #[] w7 fun e w8 => e = .returned (.bool true) ∧ Below w.heap.size w w8) := by
    refine BB.mono ?_
    rintro e w1 ⟨rfl, b1, h2⟩
    refine ⟨rfl, past_same h0 b1, past_same h1 b1, h2.mono ?_⟩
    rintro e w2 ⟨rfl, b2⟩
    have B2 := step_to bV b2
    have R1 := rread_any 1 ci A n c w.heap.size l w2 (hq.below B2) B2.size hc hnil (by omega)
    unfold RRR at R1
    rw [show rrE 1 ci l = 0 from (if_neg (by omega)).trans hre] at R1
    refine ⟨rfl, past_same h0 b2, R1.mono ?_⟩
    rintro e w3 ⟨b3, D, k, d, rfl, o3⟩
    rw [if_pos rfl] at o3
    have B3 := step_to B2 b3
    have R2 := rread_any 2 ci E m me w.heap.size rl w3 (hr.below B3) B3.size hme hmil (by omega)
    unfold RRR at R2
    rw [show rrE 2 ci rl = 0 from (if_neg (by omega)).trans hrr] at R2
    refine ⟨D, k, d, _, rfl, past_same h1 (step_to b2 b3), R2.mono ?_⟩
    rintro e w4 ⟨b4, G, j, g, rfl, o4⟩
    rw [if_pos rfl] at o4
    have B4 := step_to B3 b4
    refine ⟨G, j, g, by rw [if_pos rfl, hss], (rfind_any S sn sc w.heap.size ss so name w4 (hs.below B4 (Nat.le_refl _)) B4.size).mono ?_⟩
    intro e w5 hh
    obtain ⟨s1, s2, F1, m1, k1, b, rfl, b5, hbf⟩ := rfindR_box hh
    have hbt : b = true := by
      cases b
      · rw [hwb] at hbf; exact absurd (hbf rfl) (by simp)
      · rfl
    subst hbt
    have b6 := (Below.refl w5.heap.size w5).alloc (Nat.le_refl _) (.cells #[.string s1, .string s2, .string wd, .slice F1 m1 k1] 44)
    have n6 := heap_alloc_new w5 (.cells #[.string s1, .string s2, .string wd, .slice F1 m1 k1] 44)
    obtain ⟨V2, hV2⟩ : ∃ V2, w5.alloc (.cells #[.string s1, .string s2, .string wd, .slice F1 m1 k1] 44) = V2 := ⟨_, rfl⟩
    rw [hV2] at b6 n6
    have b56 := step_to b5 b6
    have B6 := step_to B4 b56
    have b26 := step_to (step_to (step_to b2 b3) b4) b56
    refine ⟨s1, s2, F1, m1, k1, by rw [hwd], V2, hV2, n6, past_same h0 b26, ?_⟩
    have rd := own_rd ((o3.later b4).later b56)
    have hk : k ≤ 255 := by rw [← rd.1.1]; exact hvl
    refine (RS D k d V2 rd.1 (Nat.le_refl _) rd.2.2 (by omega) (by omega)).mono ?_
    rintro e w6 ⟨rfl, b7⟩
    refine ⟨rfl, ?_⟩
    obtain ⟨V3, hV3⟩ : ∃ V3, w6.alloc (.cells #[.int .u8 (d0.toNat : Int), .int .u8 (d1.toNat : Int), .int .u8 (d2.toNat : Int), .int .u8 (d3.toNat : Int), .int .u8 (d4.toNat : Int), .int .u8 (d5.toNat : Int), .int .u8 (d6.toNat : Int), .int .u8 (d7.toNat : Int), .int .u8 (d8.toNat : Int), .int .u8 (d9.toNat : Int), .int .u8 (d10.toNat : Int), .int .u8 (d11.toNat : Int), .int .u8 (d12.toNat : Int), .int .u8 (d13.toNat : Int), .int .u8 (d14.toNat : Int), .int .u8 (d15.toNat : Int)] 47) = V3 := ⟨_, rfl⟩
    have b8 : Below w6.heap.size w6 V3 := by rw [← hV3]; exact (Below.refl _ _).alloc (Nat.le_refl _) _
    have n8 : Blk V3 w6.heap.size 47 ([d0, d1, d2, d3, d4, d5, d6, d7, d8, d9, d10, d11, d12, d13, d14, d15].map cellOf) := by rw [← hV3]; exact heap_alloc_new w6 _
    have r8 : Rd V3 V3.heap.size (some ⟨w6.heap.size, 0, none⟩) 16 [d0, d1, d2, d3, d4, d5, d6, d7, d8, d9, d10, d11, d12, d13, d14, d15] := by
      refine ⟨rfl, fun _ => ⟨w6.heap.size, 0, rfl, Blk.lt n8, fun j hj => ?_⟩⟩
      rw [Nat.zero_add, n8.cell, cells_at _ j (by simpa using hj)]
    have b78 := step_to b7 b8
    have B8 := step_to B6 b78
    refine ⟨V3, hV3, past_same n6 b78, past_same (past_same h0 b26) b78, past_same (past_same h1 b26) b78, ?_⟩
    have rg := own_rd ((o4.later b56).later b78)
    rw [hdv] at rg
    have hj : j = 16 := by rw [← rg.1.1]; rfl
    subst hj
    refine (same_any G (some ⟨w6.heap.size, 0, none⟩) 16 16 g 16 [d0, d1, d2, d3, d4, d5, d6, d7, d8, d9, d10, d11, d12, d13, d14, d15] [d0, d1, d2, d3, d4, d5, d6, d7, d8, d9, d10, d11, d12, d13, d14, d15] V3 V3.heap.size rg.1 r8 (by unfold maxLen; omega) (by unfold maxLen; omega)).mono ?_
    rintro e w7 ⟨rfl, q, rfl⟩
    have B9 := below_drewN B8 q
    refine ⟨by simp, (known_any _ (hK.kept B9) (hS.kept B9)).mono ?_⟩
    rintro e w8 ⟨rfl, b9⟩
    exact ⟨rfl, step_to B9 b9⟩
  clear BB RS hV bV h0 h1 hq hr hs hK hS her hso hnil hmil hc hme hc2 hme2 hnm hre hrr hwb hdv hss hwd hwz hdg hD hvl i0 i1
  go_enter Tryd.func5, Tryd.ntmps5
  go_wp2_with (first
    | (rw [HV.out])
    | (go_at_call 21; ((with_reducible refine C.out.mono ?_); rintro e w1 ⟨rfl, k0, k1, n1⟩; have u0 := k0.cell 0; have u1 := k0.cell 1; have u2 := k0.cell 2; have v0 := k1.cell 0; have v1 := k1.cell 1; have v2 := k1.cell 2; have C1 := Lib.hid n1; clear k0 k1 n1))
    | (go_at_call 22; ((with_reducible refine C1.out.mono ?_); rintro e w2 ⟨rfl, k0, n1⟩; have s0 := k0.cell 0; have s1 := k0.cell 1; have s2 := k0.cell 2; have C2 := Lib.hid n1; clear k0 n1))
    | (go_at_call 17; ((with_reducible refine C2.out.mono ?_); rintro e w3 ⟨D, k, d, z0, rfl, k0, n1⟩; have t0 := k0.cell 0; have t1 := k0.cell 1; have t2 := k0.cell 2; have C3 := Lib.hid n1; clear k0 n1 C2))
    | (go_at_call 17; ((with_reducible refine C3.out.mono ?_); rintro e w4 ⟨G, j, g, rfl, n1⟩; have C4 := Lib.hid n1; clear n1))
    | (go_at_call 23; ((with_reducible refine C4.out.mono ?_); rintro e w5 ⟨s1, s2, F2, m1, q1, rfl, V2, hV2, n2, n3, n1⟩; have HV2 := Lib.hid hV2; have p0 := n2.cell 0; have p1 := n2.cell 1; have p2 := n2.cell 2; have p3 := n2.cell 3; have q0 := n3.cell 1; have C5 := Lib.hid n1; clear hV2 n1 n2 n3))
    | (rw [HV2.out])
    | (go_at_call 24; ((with_reducible refine C5.out.mono ?_); rintro e w6 ⟨rfl, V3, hV3, n2, n3, n4, n1⟩; have HV3 := Lib.hid hV3; have f2 := n2.cell 2; have f0 := n3.cell 1; have f1 := n4.cell 1; have C6 := Lib.hid n1; clear hV3 n1 n2 n3 n4))
    | (rw [HV3.out])
    | (go_at_call 15; ((with_reducible refine C6.out.mono ?_); rintro e w7 ⟨rfl, n1⟩; have C7 := Lib.hid n1; clear n1))
    | (go_at_call 18; ((with_reducible refine C7.out.mono ?_); rintro e w8 ⟨rfl, b8⟩; have F := Lib.hid b8; clear b8)))
  go_ret
  exact ⟨rfl, F.out⟩
end Go.Proofs.YtdijgmijnoiliaaDoor
