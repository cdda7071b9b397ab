/-
  eap's peer: nak, end, prove; State, Notice.
  eap's peer: prove.
  eap's peer: hear (written by gen_eahear.py).
  eap's peer: hear of challenges, and of strange types (written by gen_eahear.py).
  eap's peer: Take (written by gen_eapt.py).
-/
import Derived.Test.YtjimoegegigoiaaDoorEaTakeW
import Derived.BigRegion
namespace Go.Proofs.YtjimoegegigoiaaDoor
open Go.RowKit Go.Shelf
set_option maxRecDepth 100000
set_option maxHeartbeats 1000000
set_option linter.unusedSimpArgs false
set_option linter.unusedVariables false

theorem sstate_any (lo g tb : Nat) (name : ByteArray) (tries : Int) (ss : List Sec) (s : SvS) (w : World) (h : SvAt w lo g tb name tries ss s) : Calls Tryd.prog 24 #[.pointer (some ⟨g, 0, none⟩)] w fun e w' => e = .returned (.int .i64 s.st) ∧ w = w' := by
  obtain ⟨D0, k0, d0, hb, ho⟩ := h.blk
  have c3 : w.cell? ⟨g, 3, none⟩ = some (.int .i64 s.st) := hb.cell 3
  clear h hb ho
  go_enter Tryd.func24, Tryd.ntmps24
  go_wp2
  go_ret
  exact ⟨rfl, rfl⟩
theorem swho_any (lo g tb : Nat) (name : ByteArray) (tries : Int) (ss : List Sec) (s : SvS) (w : World) (h : SvAt w lo g tb name tries ss s) : Calls Tryd.prog 26 #[.pointer (some ⟨g, 0, none⟩)] w fun e w' => e = .returned (.string s.who) ∧ w = w' := by
  obtain ⟨D0, k0, d0, hb, ho⟩ := h.blk
  have c9 : w.cell? ⟨g, 9, none⟩ = some (.string s.who) := hb.cell 9
  clear h hb ho
  go_enter Tryd.func26, Tryd.ntmps26
  go_wp2
  go_ret
  exact ⟨rfl, rfl⟩
theorem pstate_any (lo g tb : Nat) (name : ByteArray) (ss : List Sec) (st : Int) (no : ByteArray) (w : World) (h : PvAt w lo g tb name ss st no) : Calls Tryd.prog 30 #[.pointer (some ⟨g, 0, none⟩)] w fun e w' => e = .returned (.int .i64 st) ∧ w = w' := by
  have c2 : w.cell? ⟨g, 2, none⟩ = some (.int .i64 st) := h.blk.cell 2
  clear h
  go_enter Tryd.func30, Tryd.ntmps30
  go_wp2
  go_ret
  exact ⟨rfl, rfl⟩
theorem pnotice_any (lo g tb : Nat) (name : ByteArray) (ss : List Sec) (st : Int) (no : ByteArray) (w : World) (h : PvAt w lo g tb name ss st no) : Calls Tryd.prog 32 #[.pointer (some ⟨g, 0, none⟩)] w fun e w' => e = .returned (.string no) ∧ w = w' := by
  have c3 : w.cell? ⟨g, 3, none⟩ = some (.string no) := h.blk.cell 3
  clear h
  go_enter Tryd.func32, Tryd.ntmps32
  go_wp2
  go_ret
  exact ⟨rfl, rfl⟩
theorem PvAt.row {W W' : World} {lo g tb : Nat} {name : ByteArray} {ss : List Sec} {st st' : Int} {no no' : ByteArray} (h : PvAt W lo g tb name ss st no) (hG : W.grownBy W' (some g)) (hb : Blk W' g 102 (pvC name tb st' no')) : PvAt W' lo g tb name ss st' no' :=
  ⟨hb, h.tab.same fun i _ hi => hG.block i (Nat.lt_trans hi h.lt) (by intro e; injection e with e; omega), h.tk.row h.blk hG, h.ts.row h.blk hG⟩
/-- a wish for another type -/
def NakR (w : World) (id : Int) (c : UInt8) (e : Ending) (w' : World) : Prop :=
  Below w.heap.size w w' ∧ ∃ D k d, e = .returned (msV 0 id 3 D k d ⟨#[]⟩) ∧ Own w' w.heap.size (.slice D k d) [c]
theorem nak_any (id : Int) (c : UInt8) (x : Int) (hx : x = (c.toNat : Int)) (w : World) : Calls Tryd.prog 81 #[.int .i64 id, .int .u8 x] w (NakR w id c) := by
  obtain ⟨V, hV⟩ : ∃ V, w.alloc (.cells #[.int .i64 0, .int .i64 0, .int .i64 0, .slice none 0 0, .string ⟨#[]⟩] 26) = V := ⟨_, rfl⟩
  have bV : Below w.heap.size w V := by rw [← hV]; exact (Below.refl _ _).alloc (Nat.le_refl _) _
  have h0 : Blk V w.heap.size 26 [.int .i64 0, .int .i64 0, .int .i64 0, .slice none 0 0, .string ⟨#[]⟩] := by rw [← hV]; exact heap_alloc_new w _
  obtain ⟨U, hU⟩ : ∃ U, V.alloc (.cells #[.int .u8 x] 5) = U := ⟨_, rfl⟩
  have bU : Below V.heap.size V U := by rw [← hU]; exact (Below.refl _ _).alloc (Nat.le_refl _) _
  have oU : Own U V.heap.size (.slice (some ⟨V.heap.size, 0, none⟩) 1 1) [c] := by rw [← hU]; exact own_one V V.heap.size c x hx (Nat.le_refl _)
  have hU0 := past_same h0 bU
  have lV := Blk.lt h0
  have hb5 := blk5 (x := .int .i64 0) (y := .int .i64 id) (z := .int .i64 3) (u := .slice (some ⟨V.heap.size, 0, none⟩) 1 1) (v := .string ⟨#[]⟩) hU0
  have gg := gset5 U w.heap.size (.int .i64 0) (.int .i64 id) (.int .i64 3) (.slice (some ⟨V.heap.size, 0, none⟩) 1 1) (.string ⟨#[]⟩)
  have FN : Hid (NakR w id c (.returned (msV 0 id 3 (some ⟨V.heap.size, 0, none⟩) 1 1 ⟨#[]⟩)) (((((U.setCell ⟨w.heap.size, 0, none⟩ (.int .i64 0)).setCell ⟨w.heap.size, 1, none⟩ (.int .i64 id)).setCell ⟨w.heap.size, 2, none⟩ (.int .i64 3)).setCell ⟨w.heap.size, 3, none⟩ (.slice (some ⟨V.heap.size, 0, none⟩) 1 1)).setCell ⟨w.heap.size, 4, none⟩ (.string ⟨#[]⟩))) :=
    ⟨below_row (step_to bV bU) gg (Nat.le_refl _), _, _, _, rfl, eown_wide (oU.grown gg (own_apart oU hU0 (by decide))) bV.size⟩
  have r0 := hU0.cell 0
  have r1 := hU0.cell 1
  have r2 := hU0.cell 2
  have r3 := hU0.cell 3
  have r4 := hU0.cell 4
  have e0 := hU0.frozen 0
  have e1 := hU0.frozen 1
  have e2 := hU0.frozen 2
  have e3 := hU0.frozen 3
  have e4 := hU0.frozen 4
  have lU := Blk.lt hU0
  have p0 := hb5.cell 0
  have p1 := hb5.cell 1
  have p2 := hb5.cell 2
  have p3 := hb5.cell 3
  have p4 := hb5.cell 4
  have HV := Lib.hid hV
  have HU := Lib.hid hU
  clear hV bV h0 hU bU oU hU0 hb5 gg hx
  go_enter Tryd.func81, Tryd.ntmps81
  go_wp2_with (first
    | (rw [HV.out])
    | (rw [HU.out]))
  exact bodyPost_ret (v := msV 0 id 3 (some ⟨V.heap.size, 0, none⟩) 1 1 ⟨#[]⟩) (by simp [results, Tryd.results81, go_sem, p0, p1, p2, p3, p4]) rfl FN.out
/-- what a peer is behind a Success or a Failure -/
def enS (st code : Int) : Int := if code = 4 then 4 else if st = 2 then 3 else st
def enE (st code : Int) : Int := if code = 4 then 0 else if st = 2 then 0 else 9
theorem pend_any (lo g tb : Nat) (name : ByteArray) (ss : List Sec) (st code : Int) (no : ByteArray) (w : World) (h : PvAt w lo g tb name ss st no) : Calls Tryd.prog 79 #[.pointer (some ⟨g, 0, none⟩), .int .i64 code] w fun e w' => e = .returned (.int .i64 (enE st code)) ∧ w.grownBy w' (some g) ∧ PvAt w' lo g tb name ss (enS st code) no := by
  have c2 : w.cell? ⟨g, 2, none⟩ = some (.int .i64 st) := h.blk.cell 2
  have f2 := h.blk.frozen 2
  have lg := h.lt
  have FN := Lib.hid (fun z : Int => And.intro (gset' w g 2 (.int .i64 z)) (h.row (st' := z) (no' := no) (gset' w g 2 (.int .i64 z)) (h.blk.set_ 2 (.int .i64 z))))
  have FS := Lib.hid h
  unfold enS enE
  clear h
  by_cases hc : code = 4
  · have e1 : (code == 4) = true := by simpa using hc
    rw [if_pos hc, if_pos hc]
    clear hc
    go_enter Tryd.func79, Tryd.ntmps79
    go_wp2
    go_ret
    exact ⟨rfl, FN.out 4⟩
  · have e1 : (code == 4) = false := by simpa using hc
    rw [if_neg hc, if_neg hc]
    clear hc
    by_cases hs : st = 2
    · have e2 : (st == 2) = true := by simpa using hs
      rw [if_pos hs, if_pos hs]
      clear hs
      go_enter Tryd.func79, Tryd.ntmps79
      go_wp2
      go_ret
      exact ⟨rfl, FN.out 3⟩
    · have e2 : (st == 2) = false := by simpa using hs
      rw [if_neg hs, if_neg hs]
      clear hs
      go_enter Tryd.func79, Tryd.ntmps79
      go_wp2
      go_ret
      exact ⟨rfl, World.grownBy.refl _ _, FS.out⟩
end Go.Proofs.YtjimoegegigoiaaDoor
namespace Go.Proofs.YtjimoegegigoiaaDoor
open Go.RowKit Go.Shelf
set_option maxRecDepth 100000
set_option maxHeartbeats 1000000
set_option linter.unusedSimpArgs false
set_option linter.unusedVariables false

/-- an answer, and what a peer is then -/
def PrvR (w : World) (lo g tb : Nat) (name : ByteArray) (ss : List Sec) (st : Int) (no : ByteArray) (I T : Int) (l : List UInt8) (t : ByteArray) (e : Ending) (w' : World) : Prop :=
  ∃ D k d, e = .returned (msV 0 I T D k d t) ∧ Rd w' w'.heap.size D k l ∧ (D = none → d = 0) ∧ (∀ b o s, D = some ⟨b, o, s⟩ → w.heap.size ≤ b) ∧ w.grownBy w' (some g) ∧ PvAt w' lo g tb name ss st no
theorem grown_off {w W W' : World} {g q : Nat} (h : w.grownBy W (some g)) (k : W.grownBy W' (some q)) (hq : w.heap.size ≤ q) : w.grownBy W' (some g) :=
  ⟨k.os.trans h.os, k.tape.trans h.tape, k.output.trans h.output, Nat.le_trans h.size k.size, fun i hi hne => (k.block i (Nat.lt_of_lt_of_le hi h.size) (by intro e; injection e with e; omega)).trans (h.block i hi hne)⟩
theorem below_only' {w W : World} {q : Option Nat} (h : w.grownBy W q) : w.grownBy W.drew q := ⟨h.os, h.tape, h.output, h.size, h.block⟩
theorem prove_any (lo g tb : Nat) (name : ByteArray) (ss : List Sec) (st : Int) (no : ByteArray) (C I T : Int) (A : Option Addr) (n c B : Nat) (val : List UInt8) (t : ByteArray) (w : World) (h : PvAt w lo g tb name ss st no) (hr : Rd w B A n val) (hB : B ≤ w.heap.size) (hnil : A = none → c = 0) (hm : n ≤ 35184372088832) (h0 : 0 ≤ I) (h1 : I ≤ 255) (hnm : name.size ≤ maxLen) (ht : t.size ≤ maxLen) :
    Calls Tryd.prog 80 #[.pointer (some ⟨g, 0, none⟩), msV C I T A n c t] w fun e w' =>
      (wdB ss (bst ss name t) = false → PrvR w lo g tb name ss st no I 3 [0] ⟨#[]⟩ e w') ∧ (wdB ss (bst ss name t) = true → PrvR w lo g tb name ss 2 no I 4 (digL I (wdS ss (bst ss name t)) val) name e w') := by
  have lg := h.lt
  obtain ⟨V, hV, bV, m0, q0⟩ := alloc_two w #[.int .i64 C, .int .i64 I, .int .i64 T, .slice A n c, .string t] #[.int .i64 0, .int .i64 0, .int .i64 0, .slice none 0 0, .string ⟨#[]⟩] 125 26
  have hm0 : Blk V w.heap.size 125 [.int .i64 C, .int .i64 I, .int .i64 T, .slice A n c, .string t] := m0
  have hq0 : Blk V (w.heap.size + 1) 26 [.int .i64 0, .int .i64 0, .int .i64 0, .slice none 0 0, .string ⟨#[]⟩] := q0
  have hg0 := past_same h.blk bV
  have i1 := hm0.cell 1
  have i3 := hm0.cell 3
  have i4 := hm0.cell 4
  have u0 : V.cell? ⟨g, 0, none⟩ = some (.string name) := hg0.cell 0
  have u1 : V.cell? ⟨g, 1, none⟩ = some (.pointer (some ⟨tb, 0, none⟩)) := hg0.cell 1
  have lV := Blk.lt hq0
  have lg1 := Blk.lt hg0
  obtain ⟨wb, hwb⟩ : ∃ wb, wdB ss (bst ss name t) = wb := ⟨_, rfl⟩
  obtain ⟨dg, hdg⟩ : ∃ dg, digL I (wdS ss (bst ss name t)) val = dg := ⟨_, rfl⟩
  rw [hwb, hdg]
  have C0 : Hid (∀ W, Below V.heap.size V W → Calls Tryd.prog 99 #[.pointer (some ⟨tb, 0, none⟩), .string name, .string t, .int .i64 I, .slice A n c] W fun e w3 => ∃ D3 k3 d3, e = .returned (.tuple #[.slice D3 k3 d3, .bool wb]) ∧ Blk w3 w.heap.size 125 [.int .i64 C, .int .i64 I, .int .i64 T, .slice A n c, .string t] ∧ Blk w3 (w.heap.size + 1) 26 [.int .i64 0, .int .i64 0, .int .i64 0, .slice none 0 0, .string ⟨#[]⟩] ∧ Blk w3 g 102 (pvC name tb st no) ∧ Below w.heap.size w w3 ∧ PvAt w3 lo g tb name ss st no ∧
      Rd w3 w3.heap.size D3 k3 (if wb then dg else []) ∧ (D3 = none → d3 = 0) ∧ (∀ b o s, D3 = some ⟨b, o, s⟩ → V.heap.size ≤ b)) := by
    intro W hW
    have BW := step_to bV hW
    have hsW := h.later BW
    have DU := due_any tb ss name t I A n c B val W (tabL_at hsW.tab (Nat.le_of_lt hsW.lt)) hnm ht h0 h1 (hr.below (BW.mono hB)) (Nat.le_trans hB BW.size) hnil hm hsW.tk hsW.ts
    rw [hwb, hdg] at DU
    refine DU.mono ?_
    rintro e w3 ⟨b3, D3, k3, d3, rfl, r3, z3, a3⟩
    have B3 := step_to BW b3
    have b03 := step_to hW b3
    exact ⟨D3, k3, d3, rfl, past_same hm0 b03, past_same hq0 b03, past_same h.blk B3, B3, h.later B3, r3, z3, fun b o s e => Nat.le_trans hW.size (a3 b o s e)⟩
  have HA := Lib.hid (Below.refl V.heap.size V)
  have HA1 : Hid (Below V.heap.size V V.drew) := below_drewS (Below.refl V.heap.size V) 1
  have zV := bV.size
  have HV := Lib.hid hV
  have H := Lib.hid h
  clear hV bV m0 hm0 q0 hq0 hg0 h hr hB hnil hm h0 h1 hnm ht hwb hdg
  cases wb
  · go_enter Tryd.func80, Tryd.ntmps80
    go_upto_region 1 with (rw [HV.out])
    go_region_held3 (fun w' => w'.cell? ⟨g, 0, none⟩ = some (.string name) ∧ w'.cell? ⟨g, 1, none⟩ = some (.pointer (some ⟨tb, 0, none⟩)) ∧ w'.cell? ⟨w.heap.size, 1, none⟩ = some (.int .i64 I) ∧ w'.cell? ⟨w.heap.size, 3, none⟩ = some (.slice A n c) ∧ w'.cell? ⟨w.heap.size, 4, none⟩ = some (.string t)) (go_keep) (first
      | (go_at_call 99; ((with_reducible first | refine (C0.out _ HA1.out).mono ?_ | refine (C0.out _ HA.out).mono ?_); rintro e w3 ⟨D3, k3, d3, rfl, k1, k2, kg, b3, h3, r3, z3, a3⟩; have j0 : w3.cell? ⟨g, 0, none⟩ = some (.string name) := kg.cell 0; have j1 : w3.cell? ⟨g, 1, none⟩ = some (.pointer (some ⟨tb, 0, none⟩)) := kg.cell 1; have s1 := k1.cell 1; have s3 := k1.cell 3; have s4 := k1.cell 4; have K2 := Lib.hid k2; have B3 := Lib.hid b3; have H3 := Lib.hid h3; clear k1 k2 kg b3 h3 r3 z3 a3)))
    all_goals
      have C1 : Hid (Calls Tryd.prog 81 #[.int .i64 I, .int .u8 0] w3 fun e w4 => ∃ D k d, e = .returned (.agg #[.int .i64 0, .int .i64 I, .int .i64 3, .slice D k d, .string ⟨#[]⟩]) ∧ Blk w4 (w.heap.size + 1) 26 [.int .i64 0, .int .i64 0, .int .i64 0, .slice none 0 0, .string ⟨#[]⟩] ∧ ∀ W', w4.grownBy W' (some (w.heap.size + 1)) → PrvR w lo g tb name ss st no I 3 [0] ⟨#[]⟩ (.returned (msV 0 I 3 D k d ⟨#[]⟩)) W') := by
        refine (nak_any I 0 0 rfl w3).mono ?_
        rintro e w4 ⟨b4, D, k, d, rfl, o4⟩
        have B4 := step_to B3.out b4
        have k4 := past_same K2.out b4
        refine ⟨D, k, d, rfl, k4, fun W' hW => ?_⟩
        have oW := o4.grown hW (own_apart o4 k4 (by decide))
        have rW := own_rd oW
        have GW : w.grownBy W' (some g) := grown_off (below_some B4) hW (by omega)
        have hb4 : Blk W' g 102 (pvC name tb st no) := blk_off (past_same H3.out.blk b4) hW (by omega)
        refine ⟨D, k, d, rfl, rW.1, rW.2.2, fun b o s e => ?_, GW, H.out.row GW hb4⟩
        have := (oW.block b (by rw [e]; rfl)).1
        have := B3.out.size
        omega
      go_wp2_with (go_at_call 81; ((with_reducible refine C1.out.mono ?_); rintro e w4 ⟨D, k, d, rfl, k4, FN⟩; have r0 := k4.cell 0; have r1 := k4.cell 1; have r2 := k4.cell 2; have r3 := k4.cell 3; have r4 := k4.cell 4; have e0 := k4.frozen 0; have e1 := k4.frozen 1; have e2 := k4.frozen 2; have e3 := k4.frozen 3; have e4 := k4.frozen 4; have lr := Blk.lt k4; have K4 := Lib.hid k4; have FNH := Lib.hid FN; clear k4 FN))
      have hb5 := blk5 (x := .int .i64 0) (y := .int .i64 I) (z := .int .i64 3) (u := .slice D k d) (v := .string ⟨#[]⟩) K4.out
      have p0 := hb5.cell 0
      have p1 := hb5.cell 1
      have p2 := hb5.cell 2
      have p3 := hb5.cell 3
      have p4 := hb5.cell 4
      exact bodyPost_ret (v := msV 0 I 3 D k d ⟨#[]⟩) (by simp [results, Tryd.results80, go_sem, p0, p1, p2, p3, p4]) rfl ⟨fun _ => FNH.out _ (gset5 _ _ _ _ _ _ _), fun e => by cases e⟩
  · go_enter Tryd.func80, Tryd.ntmps80
    go_upto_region 1 with (rw [HV.out])
    go_region_held3 (fun w' => w'.cell? ⟨g, 0, none⟩ = some (.string name) ∧ w'.cell? ⟨g, 1, none⟩ = some (.pointer (some ⟨tb, 0, none⟩)) ∧ w'.cell? ⟨w.heap.size, 1, none⟩ = some (.int .i64 I) ∧ w'.cell? ⟨w.heap.size, 3, none⟩ = some (.slice A n c) ∧ w'.cell? ⟨w.heap.size, 4, none⟩ = some (.string t)) (go_keep) (first
      | (go_at_call 99; ((with_reducible first | refine (C0.out _ HA1.out).mono ?_ | refine (C0.out _ HA.out).mono ?_); rintro e w3 ⟨D3, k3, d3, rfl, k1, k2, kg, b3, h3, r3, z3, a3⟩; have j0 : w3.cell? ⟨g, 0, none⟩ = some (.string name) := kg.cell 0; have j1 : w3.cell? ⟨g, 1, none⟩ = some (.pointer (some ⟨tb, 0, none⟩)) := kg.cell 1; have j2 : w3.cell? ⟨g, 2, none⟩ = some (.int .i64 st) := kg.cell 2; have f2 := kg.frozen 2; have lg3 := Blk.lt kg; have s1 := k1.cell 1; have s3 := k1.cell 3; have s4 := k1.cell 4; have K1 := Lib.hid k1; have K2 := Lib.hid k2; have KG := Lib.hid kg; have B3 := Lib.hid b3; have R3 := Lib.hid r3; have Z3 := Lib.hid z3; have A3 := Lib.hid a3; clear k1 k2 kg b3 h3 r3 z3 a3)))
    all_goals
      obtain ⟨X, hX⟩ : ∃ X, w3.setCell ⟨g, 2, none⟩ (.int .i64 2) = X := ⟨_, rfl⟩
      have gX : w3.grownBy X (some g) := by rw [← hX]; exact gset' _ _ _ _
      have kX : Blk X g 102 (pvC name tb 2 no) := by rw [← hX]; exact KG.out.set_ 2 _
      have mX : Blk X (w.heap.size + 1) 26 [.int .i64 0, .int .i64 0, .int .i64 0, .slice none 0 0, .string ⟨#[]⟩] := blk_off K2.out gX (by omega)
      have pX := blk_off K1.out gX (by omega)
      have GX : w.grownBy X (some g) := gtrans' (below_some B3.out) gX
      have rX : Rd X X.heap.size D3 k3 dg := by
        have r := R3.out
        simp only [if_true] at r
        exact (r.off (Nat.le_refl _) gX (fun b o s e => by have := A3.out b o s e; omega)).wide gX.size
      have FN : Hid (∀ W', X.grownBy W' (some (w.heap.size + 1)) → PrvR w lo g tb name ss 2 no I 4 dg name (.returned (msV 0 I 4 D3 k3 d3 name)) W') := by
        intro W' hW
        have GW := grown_off GX hW (by omega)
        exact ⟨D3, k3, d3, rfl, (rX.off (Nat.le_refl _) hW (fun b o s e => by have := A3.out b o s e; omega)).wide hW.size, Z3.out, fun b o s e => by have := A3.out b o s e; omega, GW, H.out.row GW (blk_off kX hW (by omega))⟩
      have y0 : X.cell? ⟨g, 0, none⟩ = some (.string name) := kX.cell 0
      have y1 := pX.cell 1
      have lgX := Blk.lt kX
      have r0 := mX.cell 0
      have r1 := mX.cell 1
      have r2 := mX.cell 2
      have r3 := mX.cell 3
      have r4 := mX.cell 4
      have e0 := mX.frozen 0
      have e1 := mX.frozen 1
      have e2 := mX.frozen 2
      have e3 := mX.frozen 3
      have e4 := mX.frozen 4
      have lr := Blk.lt mX
      have hb5 := blk5 (x := .int .i64 0) (y := .int .i64 I) (z := .int .i64 4) (u := .slice D3 k3 d3) (v := .string name) mX
      have MX := Lib.hid mX
      have HX := Lib.hid hX
      clear hX gX kX mX pX GX rX hb5
      go_wp2_with (rw [HX.out])
      go_region
      go_wp2
      have hb5 := blk5 (x := .int .i64 0) (y := .int .i64 I) (z := .int .i64 4) (u := .slice D3 k3 d3) (v := .string name) MX.out
      have p0 := hb5.cell 0
      have p1 := hb5.cell 1
      have p2 := hb5.cell 2
      have p3 := hb5.cell 3
      have p4 := hb5.cell 4
      exact bodyPost_ret (v := msV 0 I 4 D3 k3 d3 name) (by simp [results, Tryd.results80, go_sem, p0, p1, p2, p3, p4]) rfl ⟨(fun e => by cases e), fun _ => FN.out _ (below_only' (gset5 _ _ _ _ _ _ _))⟩
end Go.Proofs.YtjimoegegigoiaaDoor
namespace Go.Proofs.YtjimoegegigoiaaDoor
open Go.RowKit Go.Shelf
set_option maxRecDepth 100000
set_option maxHeartbeats 1000000
set_option linter.unusedSimpArgs false
set_option linter.unusedVariables false

/-- an answer or none, and what a peer is then -/
def PtR (w : World) (lo g tb : Nat) (name : ByteArray) (ss : List Sec) (st : Int) (no : ByteArray) (C I : Int) (l : List UInt8) (ok : Bool) (er : Int) (e : Ending) (w' : World) : Prop :=
  ∃ D k d, e = .returned (.tuple #[.agg #[.int .i64 C, .int .i64 I, .slice D k d], .bool ok, .int .i64 er]) ∧ Own w' w.heap.size (.slice D k d) l ∧ w.grownBy w' (some g) ∧ PvAt w' lo g tb name ss st no
theorem zero_verdict (W : World) : (zeroValue 119).run Tryd.prog W = .ok (.agg #[.int .i64 0, .int .i64 0, .int .i64 0, .slice none 0 0, .string ⟨#[]⟩]) W := by kernel_rfl
theorem ta_verdict (v : Value) (W : World) : (Instr.typeAssert (.iface 119 v) 87 119 true).run Tryd.prog W = .ok (.tuple #[v, .bool true]) W := by
  simp [Instr.typeAssert, run_underlying Tryd.underlying119, go_sem, Result.andThen]
theorem ta_verdict_no (t : Nat) (ht : t ≠ 119) (v : Value) (W : World) : (Instr.typeAssert (.iface t v) 87 119 true).run Tryd.prog W = .ok (.tuple #[.agg #[.int .i64 0, .int .i64 0, .int .i64 0, .slice none 0 0, .string ⟨#[]⟩], .bool false]) W := by
  simp [Instr.typeAssert, run_underlying Tryd.underlying119, go_sem, Result.andThen, ht, zero_verdict]
theorem zero_notice (W : World) : (zeroValue 123).run Tryd.prog W = .ok (.agg #[.int .i64 0, .int .i64 0, .int .i64 0, .slice none 0 0, .string ⟨#[]⟩]) W := by kernel_rfl
theorem ta_notice (v : Value) (W : World) : (Instr.typeAssert (.iface 123 v) 87 123 true).run Tryd.prog W = .ok (.tuple #[v, .bool true]) W := by
  simp [Instr.typeAssert, run_underlying Tryd.underlying123, go_sem, Result.andThen]
theorem ta_notice_no (t : Nat) (ht : t ≠ 123) (v : Value) (W : World) : (Instr.typeAssert (.iface t v) 87 123 true).run Tryd.prog W = .ok (.tuple #[.agg #[.int .i64 0, .int .i64 0, .int .i64 0, .slice none 0 0, .string ⟨#[]⟩], .bool false]) W := by
  simp [Instr.typeAssert, run_underlying Tryd.underlying123, go_sem, Result.andThen, ht, zero_notice]
theorem zero_strange (W : World) : (zeroValue 126).run Tryd.prog W = .ok (.agg #[.int .i64 0, .int .i64 0, .int .i64 0, .slice none 0 0, .string ⟨#[]⟩]) W := by kernel_rfl
theorem ta_strange (v : Value) (W : World) : (Instr.typeAssert (.iface 126 v) 87 126 true).run Tryd.prog W = .ok (.tuple #[v, .bool true]) W := by
  simp [Instr.typeAssert, run_underlying Tryd.underlying126, go_sem, Result.andThen]
theorem ta_strange_no (t : Nat) (ht : t ≠ 126) (v : Value) (W : World) : (Instr.typeAssert (.iface t v) 87 126 true).run Tryd.prog W = .ok (.tuple #[.agg #[.int .i64 0, .int .i64 0, .int .i64 0, .slice none 0 0, .string ⟨#[]⟩], .bool false]) W := by
  simp [Instr.typeAssert, run_underlying Tryd.underlying126, go_sem, Result.andThen, ht, zero_strange]
theorem blk_drew {W : World} {i t : Nat} {cs : List Value} (h : Blk W i t cs) : Blk W.drew i t cs := h
theorem wrE_pre {I T : Int} {n : Nat} {l : List UInt8} {t : ByteArray} (h0 : 0 ≤ I) (h1 : I ≤ 255) (hT : idB T = true) (hk : fkE 2 T n t = 0) (hl : (dtL 2 T l t).length ≤ 16380) : wrE 2 I T n l t = 0 := by
  have hi : idB I = true := by unfold idB; simp; omega
  unfold wrE
  rw [if_neg (by rw [hi, hT]; decide), if_neg (by decide), if_neg (by rw [hk]; simp), if_neg (by omega)]
theorem wrE_id {I : Int} {t : ByteArray} (h0 : 0 ≤ I) (h1 : I ≤ 255) (ht : t.size ≤ 64) : wrE 2 I 1 0 [] t = 0 :=
  wrE_pre h0 h1 (by decide) rfl (by
    have : t.data.toList.length = t.size := Array.length_toList
    unfold dtL
    rw [if_neg (by decide), if_pos rfl, List.length_append, this]
    simp
    omega)
theorem wrE_no {I : Int} (h0 : 0 ≤ I) (h1 : I ≤ 255) : wrE 2 I 2 0 [] ⟨#[]⟩ = 0 := wrE_pre h0 h1 (by decide) rfl (by decide)
theorem wrE_nak {I : Int} (c : UInt8) (h0 : 0 ≤ I) (h1 : I ≤ 255) : wrE 2 I 3 1 [c] ⟨#[]⟩ = 0 := wrE_pre h0 h1 (by decide) (by
    have hn : noT ⟨#[]⟩ = true := str_nil rfl
    unfold fkE
    rw [if_neg (by decide), if_neg (by decide), if_neg (by decide), if_pos rfl, if_neg (by decide), if_pos ⟨by omega, hn⟩]) (by
    unfold dtL
    rw [if_neg (by decide), if_neg (by decide), if_neg (by decide), if_pos rfl]
    simp)
theorem wrE_pf {I : Int} {l : List UInt8} {t : ByteArray} (h0 : 0 ≤ I) (h1 : I ≤ 255) (hl : l.length = 16) (ht : t.size ≤ 64) : wrE 2 I 4 16 l t = 0 := wrE_pre h0 h1 (by decide) (by
    unfold fkE
    rw [if_neg (by decide), if_neg (by decide), if_neg (by decide), if_neg (by decide), if_pos rfl]
    rfl) (by
    have : t.data.toList.length = t.size := Array.length_toList
    unfold dtL
    rw [if_neg (by decide), if_neg (by decide), if_neg (by decide), if_neg (by decide), if_pos rfl, List.length_append, List.length_append, this]
    simp
    omega)
/-- an answer is written -/
theorem tail_c {w Y : World} {lo g tb : Nat} {name : ByteArray} {ss : List Sec} {st st' : Int} {no no' : ByteArray} {I T : Int} {D : Option Addr} {k d : Nat} {l : List UInt8} {t : ByteArray} (h : PvAt w lo g tb name ss st no) (GY : w.grownBy Y (some g)) (kY : Blk Y g 102 (pvC name tb st' no')) (pY : Blk Y w.heap.size 24 [.int .i64 0, .int .i64 0, .slice none 0 0])
    (r : Rd Y Y.heap.size D k l) (hnil : D = none → d = 0) (hk : k ≤ 140737488351232) (ht : t.size ≤ 140737488351232) (he : wrE 2 I T k l t = 0) :
    Calls Tryd.prog 14 #[.agg #[.int .i64 2, .int .i64 I, .int .i64 T, .slice D k d, .string t]] Y fun e w4 => ∃ D5 k5 d5, e = .returned (.tuple #[.agg #[.int .i64 2, .int .i64 I, .slice D5 k5 d5], .int .i64 0]) ∧ ∃ Z, w4.alloc (.cells #[.int .i64 2, .int .i64 I, .slice D5 k5 d5] 24) = Z ∧ Blk Z w4.heap.size 24 [.int .i64 2, .int .i64 I, .slice D5 k5 d5] ∧ Blk Z w.heap.size 24 [.int .i64 0, .int .i64 0, .slice none 0 0] ∧
      ∀ W', Z.grownBy W' (some w.heap.size) → PtR w lo g tb name ss st' no' 2 I (dtL 2 T l t) true 0 (.returned (.tuple #[.agg #[.int .i64 2, .int .i64 I, .slice D5 k5 d5], .bool true, .int .i64 0])) W' := by
  have M := write_any 2 I T D k d Y.heap.size l t Y r (Nat.le_refl _) hnil hk ht
  rw [he] at M
  refine M.mono ?_
  rintro e w4 ⟨b4, D5, k5, d5, rfl, o5⟩
  simp only [if_true] at o5 ⊢
  obtain ⟨Z, hZ⟩ : ∃ Z, w4.alloc (.cells #[.int .i64 2, .int .i64 I, .slice D5 k5 d5] 24) = Z := ⟨_, rfl⟩
  have bZ : Below w4.heap.size w4 Z := by rw [← hZ]; exact (Below.refl _ _).alloc (Nat.le_refl _) _
  have nZ : Blk Z w4.heap.size 24 [.int .i64 2, .int .i64 I, .slice D5 k5 d5] := by rw [← hZ]; exact heap_alloc_new w4 _
  have b4Z := step_to b4 bZ
  have pZ := past_same pY b4Z
  refine ⟨D5, k5, d5, rfl, Z, hZ, nZ, pZ, fun W' hW => ?_⟩
  have lg := h.lt
  have GZ : w.grownBy Z (some g) := gtrans' GY (below_some b4Z)
  have GW := grown_new GZ hW
  have oZ := o5.later bZ
  have lY := GY.size
  exact ⟨D5, k5, d5, rfl, eown_wide (oZ.grown hW (own_apart oZ pZ (by decide))) (by omega), GW, h.row GW (blk_off (past_same kY b4Z) hW (by omega))⟩
theorem hear_verdict (lo g tb : Nat) (name : ByteArray) (ss : List Sec) (st : Int) (no : ByteArray) (C I T : Int) (A : Option Addr) (n c : Nat) (t : ByteArray) (w : World) (h : PvAt w lo g tb name ss st no) :
    Calls Tryd.prog 54 #[.pointer (some ⟨g, 0, none⟩), .iface 119 (msV C I T A n c t)] w (PtR w lo g tb name ss (enS st C) no 0 0 [] false (enE st C)) := by
  have lg := h.lt
  obtain ⟨V, hV, bV, m0, q0⟩ := alloc_two w #[.int .i64 0, .int .i64 0, .slice none 0 0] #[.int .i64 0, .int .i64 0, .int .i64 0, .slice none 0 0, .string ⟨#[]⟩] 24 26
  have hp0 : Blk V w.heap.size 24 [.int .i64 0, .int .i64 0, .slice none 0 0] := m0
  have hm0 : Blk V (w.heap.size + 1) 26 [.int .i64 0, .int .i64 0, .int .i64 0, .slice none 0 0, .string ⟨#[]⟩] := q0
  have lV := Blk.lt hm0
  obtain ⟨U, hU⟩ : ∃ U, V.alloc (.cells #[.int .i64 C, .int .i64 I, .int .i64 T, .slice A n c, .string t] 119) = U := ⟨_, rfl⟩
  have bU : Below V.heap.size V U := by rw [← hU]; exact (Below.refl _ _).alloc (Nat.le_refl _) _
  have kU : Blk U V.heap.size 119 [.int .i64 C, .int .i64 I, .int .i64 T, .slice A n c, .string t] := by rw [← hU]; exact heap_alloc_new V _
  have BU := step_to bV bU
  have pU := past_same hp0 bU
  have mU := past_same hm0 bU
  have gU := past_same h.blk BU
  have hU2 := h.later BU
  have x0 := kU.cell 0
  have x1 := kU.cell 1
  have x2 := kU.cell 2
  have x3 := kU.cell 3
  have x4 := kU.cell 4
  have lU := Blk.lt kU
  have lgU := Blk.lt gU
  have HV := Lib.hid hV
  have HU := Lib.hid hU
  have T_verdict := fun W => ta_verdict (msV C I T A n c t) W
  have C1 : Hid (Calls Tryd.prog 79 #[.pointer (some ⟨g, 0, none⟩), .int .i64 C] U fun e w3 => e = .returned (.int .i64 (enE st C)) ∧ Blk w3 w.heap.size 24 [.int .i64 0, .int .i64 0, .slice none 0 0] ∧ ∀ W', w3.grownBy W' (some w.heap.size) → PtR w lo g tb name ss (enS st C) no 0 0 [] false (enE st C) (.returned (.tuple #[.agg #[.int .i64 0, .int .i64 0, .slice none 0 0], .bool false, .int .i64 (enE st C)])) W') := by
    refine (pend_any lo g tb name ss st C no U hU2).mono ?_
    rintro e w3 ⟨rfl, g3, h3⟩
    refine ⟨rfl, blk_off pU g3 (by omega), fun W' hW => ?_⟩
    have GW := grown_new (gtrans' (below_some BU) g3) hW
    exact ⟨none, 0, 0, rfl, Own.nil _ _, GW, h.row GW (blk_off h3.blk hW (by omega))⟩
  obtain ⟨er, her⟩ : ∃ er, enE st C = er := ⟨_, rfl⟩
  obtain ⟨s', hs'⟩ : ∃ s', enS st C = s' := ⟨_, rfl⟩
  rw [her, hs'] at C1 ⊢
  clear her hs' hV bV m0 hp0 q0 hm0 hU bU kU BU pU mU gU hU2 h
  go_enter Tryd.func54, Tryd.ntmps54
  go_wp2_with (first
    | (rw [HV.out])
    | (rw [HU.out])
    | (go_at_call 79; ((with_reducible refine C1.out.mono ?_); rintro e w3 ⟨rfl, pV, FN⟩; have r0 := pV.cell 0; have r1 := pV.cell 1; have r2 := pV.cell 2; have e0 := pV.frozen 0; have e1 := pV.frozen 1; have e2 := pV.frozen 2; have lr := Blk.lt pV; have PV := Lib.hid pV; have FNH := Lib.hid FN; clear pV FN)))
  have hb4 := blk3 (x := .int .i64 0) (y := .int .i64 0) (z := .slice none 0 0) PV.out
  have p0 := hb4.cell 0
  have p1 := hb4.cell 1
  have p2 := hb4.cell 2
  exact bodyPost_ret (v := .tuple #[.agg #[.int .i64 0, .int .i64 0, .slice none 0 0], .bool false, .int .i64 er]) (by simp [results, Tryd.results54, go_sem, p0, p1, p2]) rfl (FNH.out _ (gset3 _ _ _ _ _))
theorem hear_identity (lo g tb : Nat) (name : ByteArray) (ss : List Sec) (st : Int) (no : ByteArray) (C I T : Int) (A : Option Addr) (n c : Nat) (t : ByteArray) (w : World) (h : PvAt w lo g tb name ss st no) (h0 : 0 ≤ I) (h1 : I ≤ 255) (hnm : name.size ≤ 64) :
    Calls Tryd.prog 54 #[.pointer (some ⟨g, 0, none⟩), .iface 122 (msV C I T A n c t)] w (PtR w lo g tb name ss 1 no 2 I (dtL 2 1 [] name) true 0) := by
  have lg := h.lt
  obtain ⟨V, hV, bV, m0, q0⟩ := alloc_two w #[.int .i64 0, .int .i64 0, .slice none 0 0] #[.int .i64 0, .int .i64 0, .int .i64 0, .slice none 0 0, .string ⟨#[]⟩] 24 26
  have hp0 : Blk V w.heap.size 24 [.int .i64 0, .int .i64 0, .slice none 0 0] := m0
  have hm0 : Blk V (w.heap.size + 1) 26 [.int .i64 0, .int .i64 0, .int .i64 0, .slice none 0 0, .string ⟨#[]⟩] := q0
  have lV := Blk.lt hm0
  obtain ⟨U, hU⟩ : ∃ U, V.alloc (.cells #[.int .i64 C, .int .i64 I, .int .i64 T, .slice A n c, .string t] 122) = U := ⟨_, rfl⟩
  have bU : Below V.heap.size V U := by rw [← hU]; exact (Below.refl _ _).alloc (Nat.le_refl _) _
  have kU : Blk U V.heap.size 122 [.int .i64 C, .int .i64 I, .int .i64 T, .slice A n c, .string t] := by rw [← hU]; exact heap_alloc_new V _
  have BU := step_to bV bU
  have pU := past_same hp0 bU
  have mU := past_same hm0 bU
  have gU := past_same h.blk BU
  have hU2 := h.later BU
  have x0 := kU.cell 0
  have x1 := kU.cell 1
  have x2 := kU.cell 2
  have x3 := kU.cell 3
  have x4 := kU.cell 4
  have lU := Blk.lt kU
  have lgU := Blk.lt gU
  have HV := Lib.hid hV
  have HU := Lib.hid hU
  have T_verdict := fun W => ta_verdict_no 122 (by decide) (msV C I T A n c t) W
  have T_identity := fun W => ta_id (msV C I T A n c t) W
  have u0 : U.cell? ⟨g, 0, none⟩ = some (.string name) := gU.cell 0
  have u2 : U.cell? ⟨g, 2, none⟩ = some (.int .i64 st) := gU.cell 2
  have f2 := gU.frozen 2
  have r0 := mU.cell 0
  have e0 := mU.frozen 0
  have r1 := mU.cell 1
  have e1 := mU.frozen 1
  have r2 := mU.cell 2
  have e2 := mU.frozen 2
  have r3 := mU.cell 3
  have e3 := mU.frozen 3
  have r4 := mU.cell 4
  have e4 := mU.frozen 4
  have lm := Blk.lt mU
  have gX := gset' U g 2 (.int .i64 1)
  have kX : Blk (U.setCell ⟨g, 2, none⟩ (.int .i64 1)) g 102 (pvC name tb 1 no) := gU.set_ 2 _
  have GX : w.grownBy (U.setCell ⟨g, 2, none⟩ (.int .i64 1)) (some g) := gtrans' (below_some BU) gX
  obtain ⟨Y, hY⟩ : ∃ Y, (((((((U.setCell ⟨g, 2, none⟩ (.int .i64 1)).setCell ⟨w.heap.size + 1, 0, none⟩ (.int .i64 0)).setCell ⟨w.heap.size + 1, 1, none⟩ (.int .i64 I)).setCell ⟨w.heap.size + 1, 2, none⟩ (.int .i64 1)).setCell ⟨w.heap.size + 1, 3, none⟩ (.slice none 0 0)).setCell ⟨w.heap.size + 1, 4, none⟩ (.string name)).setCell ⟨w.heap.size + 1, 0, none⟩ (.int .i64 2)).drew = Y := ⟨_, rfl⟩
  have gY : (U.setCell ⟨g, 2, none⟩ (.int .i64 1)).grownBy Y (some (w.heap.size + 1)) := by
    rw [← hY]
    exact below_only' (gtrans' (gset5 _ _ _ _ _ _ _) (gset' _ _ _ _))
  have kY := blk_off kX gY (by omega)
  have pY := blk_off (blk_off pU gX (by omega)) gY (by omega)
  have mY : Blk Y (w.heap.size + 1) 26 [.int .i64 2, .int .i64 I, .int .i64 1, .slice none 0 0, .string name] := by
    have m6 := (blk5 (x := .int .i64 0) (y := .int .i64 I) (z := .int .i64 1) (u := .slice none 0 0) (v := .string name) (blk_off mU gX (by omega))).set_ 0 (.int .i64 2)
    rw [← hY]
    exact blk_drew m6
  have GY : w.grownBy Y (some g) := grown_off GX gY (by omega)
  have CT := Lib.hid (tail_c h GY kY pY (D := none) (k := 0) (d := 0) (l := []) (I := I) (T := 1) (t := name) Rd.nil (fun _ => rfl) (by omega) (by omega) (wrE_id h0 h1 hnm))
  have y0 := mY.cell 0
  have y1 := mY.cell 1
  have y2 := mY.cell 2
  have y3 := mY.cell 3
  have y4 := mY.cell 4
  have HY := Lib.hid hY
  clear hV bV m0 hp0 q0 hm0 hU bU kU BU pU mU gU hU2 h h0 h1 hnm gX kX GX hY gY kY pY mY GY
  go_enter Tryd.func54, Tryd.ntmps54
  go_upto_region 9 with (first
    | (rw [HV.out])
    | (rw [HU.out]))
  go_region
  go_upto_region 21 with fail
  rw [HY.out]
  go_wp2_with (first
    | (go_at_call 14; ((with_reducible refine CT.out.mono ?_); rintro e w4 ⟨D5, k5, d5, rfl, Z, hZ, nZ, pV, FN⟩; have HZ := Lib.hid hZ; have z0 := nZ.cell 0; have z1 := nZ.cell 1; have z2 := nZ.cell 2; have lz := Blk.lt nZ; have t0 := pV.cell 0; have t1 := pV.cell 1; have t2 := pV.cell 2; have q0 := pV.frozen 0; have q1 := pV.frozen 1; have q2 := pV.frozen 2; have lr := Blk.lt pV; have PV := Lib.hid pV; have FNH := Lib.hid FN; clear hZ nZ pV FN))
    | (rw [HZ.out]))
  have hb4 := blk3 (x := .int .i64 2) (y := .int .i64 I) (z := .slice D5 k5 d5) PV.out
  have p0 := hb4.cell 0
  have p1 := hb4.cell 1
  have p2 := hb4.cell 2
  exact bodyPost_ret (v := .tuple #[.agg #[.int .i64 2, .int .i64 I, .slice D5 k5 d5], .bool true, .int .i64 0]) (by simp [results, Tryd.results54, go_sem, p0, p1, p2]) rfl (FNH.out _ (gset3 _ _ _ _ _))
theorem hear_notice (lo g tb : Nat) (name : ByteArray) (ss : List Sec) (st : Int) (no : ByteArray) (C I T : Int) (A : Option Addr) (n c : Nat) (t : ByteArray) (w : World) (h : PvAt w lo g tb name ss st no) (h0 : 0 ≤ I) (h1 : I ≤ 255) (hnm : name.size ≤ 64) :
    Calls Tryd.prog 54 #[.pointer (some ⟨g, 0, none⟩), .iface 123 (msV C I T A n c t)] w (PtR w lo g tb name ss st t 2 I (dtL 2 2 [] ⟨#[]⟩) true 0) := by
  have lg := h.lt
  obtain ⟨V, hV, bV, m0, q0⟩ := alloc_two w #[.int .i64 0, .int .i64 0, .slice none 0 0] #[.int .i64 0, .int .i64 0, .int .i64 0, .slice none 0 0, .string ⟨#[]⟩] 24 26
  have hp0 : Blk V w.heap.size 24 [.int .i64 0, .int .i64 0, .slice none 0 0] := m0
  have hm0 : Blk V (w.heap.size + 1) 26 [.int .i64 0, .int .i64 0, .int .i64 0, .slice none 0 0, .string ⟨#[]⟩] := q0
  have lV := Blk.lt hm0
  obtain ⟨U, hU⟩ : ∃ U, V.alloc (.cells #[.int .i64 C, .int .i64 I, .int .i64 T, .slice A n c, .string t] 123) = U := ⟨_, rfl⟩
  have bU : Below V.heap.size V U := by rw [← hU]; exact (Below.refl _ _).alloc (Nat.le_refl _) _
  have kU : Blk U V.heap.size 123 [.int .i64 C, .int .i64 I, .int .i64 T, .slice A n c, .string t] := by rw [← hU]; exact heap_alloc_new V _
  have BU := step_to bV bU
  have pU := past_same hp0 bU
  have mU := past_same hm0 bU
  have gU := past_same h.blk BU
  have hU2 := h.later BU
  have x0 := kU.cell 0
  have x1 := kU.cell 1
  have x2 := kU.cell 2
  have x3 := kU.cell 3
  have x4 := kU.cell 4
  have lU := Blk.lt kU
  have lgU := Blk.lt gU
  have HV := Lib.hid hV
  have HU := Lib.hid hU
  have T_verdict := fun W => ta_verdict_no 123 (by decide) (msV C I T A n c t) W
  have T_identity := fun W => ta_id_no 123 (by decide) (msV C I T A n c t) W
  have T_notice := fun W => ta_notice (msV C I T A n c t) W
  have u3 : U.cell? ⟨g, 3, none⟩ = some (.string no) := gU.cell 3
  have f3 := gU.frozen 3
  have r0 := mU.cell 0
  have e0 := mU.frozen 0
  have r1 := mU.cell 1
  have e1 := mU.frozen 1
  have r2 := mU.cell 2
  have e2 := mU.frozen 2
  have r3 := mU.cell 3
  have e3 := mU.frozen 3
  have r4 := mU.cell 4
  have e4 := mU.frozen 4
  have lm := Blk.lt mU
  have gX := gset' U g 3 (.string t)
  have kX : Blk (U.setCell ⟨g, 3, none⟩ (.string t)) g 102 (pvC name tb st t) := gU.set_ 3 _
  have GX : w.grownBy (U.setCell ⟨g, 3, none⟩ (.string t)) (some g) := gtrans' (below_some BU) gX
  obtain ⟨Y, hY⟩ : ∃ Y, (((((((U.setCell ⟨g, 3, none⟩ (.string t)).setCell ⟨w.heap.size + 1, 0, none⟩ (.int .i64 0)).setCell ⟨w.heap.size + 1, 1, none⟩ (.int .i64 I)).setCell ⟨w.heap.size + 1, 2, none⟩ (.int .i64 2)).setCell ⟨w.heap.size + 1, 3, none⟩ (.slice none 0 0)).setCell ⟨w.heap.size + 1, 4, none⟩ (.string ⟨#[]⟩)).setCell ⟨w.heap.size + 1, 0, none⟩ (.int .i64 2)) = Y := ⟨_, rfl⟩
  have gY : (U.setCell ⟨g, 3, none⟩ (.string t)).grownBy Y (some (w.heap.size + 1)) := by
    rw [← hY]
    exact (gtrans' (gset5 _ _ _ _ _ _ _) (gset' _ _ _ _))
  have kY := blk_off kX gY (by omega)
  have pY := blk_off (blk_off pU gX (by omega)) gY (by omega)
  have mY : Blk Y (w.heap.size + 1) 26 [.int .i64 2, .int .i64 I, .int .i64 2, .slice none 0 0, .string ⟨#[]⟩] := by
    have m6 := (blk5 (x := .int .i64 0) (y := .int .i64 I) (z := .int .i64 2) (u := .slice none 0 0) (v := .string ⟨#[]⟩) (blk_off mU gX (by omega))).set_ 0 (.int .i64 2)
    rw [← hY]
    exact m6
  have GY : w.grownBy Y (some g) := grown_off GX gY (by omega)
  have CT := Lib.hid (tail_c h GY kY pY (D := none) (k := 0) (d := 0) (l := []) (I := I) (T := 2) (t := ⟨#[]⟩) Rd.nil (fun _ => rfl) (by omega) (by decide) (wrE_no h0 h1))
  have y0 := mY.cell 0
  have y1 := mY.cell 1
  have y2 := mY.cell 2
  have y3 := mY.cell 3
  have y4 := mY.cell 4
  have HY := Lib.hid hY
  clear hV bV m0 hp0 q0 hm0 hU bU kU BU pU mU gU hU2 h h0 h1 hnm gX kX GX hY gY kY pY mY GY
  go_enter Tryd.func54, Tryd.ntmps54
  go_upto_region 21 with (first
    | (rw [HV.out])
    | (rw [HU.out]))
  rw [HY.out]
  go_wp2_with (first
    | (go_at_call 14; ((with_reducible refine CT.out.mono ?_); rintro e w4 ⟨D5, k5, d5, rfl, Z, hZ, nZ, pV, FN⟩; have HZ := Lib.hid hZ; have z0 := nZ.cell 0; have z1 := nZ.cell 1; have z2 := nZ.cell 2; have lz := Blk.lt nZ; have t0 := pV.cell 0; have t1 := pV.cell 1; have t2 := pV.cell 2; have q0 := pV.frozen 0; have q1 := pV.frozen 1; have q2 := pV.frozen 2; have lr := Blk.lt pV; have PV := Lib.hid pV; have FNH := Lib.hid FN; clear hZ nZ pV FN))
    | (rw [HZ.out]))
  have hb4 := blk3 (x := .int .i64 2) (y := .int .i64 I) (z := .slice D5 k5 d5) PV.out
  have p0 := hb4.cell 0
  have p1 := hb4.cell 1
  have p2 := hb4.cell 2
  exact bodyPost_ret (v := .tuple #[.agg #[.int .i64 2, .int .i64 I, .slice D5 k5 d5], .bool true, .int .i64 0]) (by simp [results, Tryd.results54, go_sem, p0, p1, p2]) rfl (FNH.out _ (gset3 _ _ _ _ _))
end Go.Proofs.YtjimoegegigoiaaDoor
namespace Go.Proofs.YtjimoegegigoiaaDoor
open Go.RowKit Go.Shelf
set_option maxRecDepth 100000
set_option maxHeartbeats 1000000
set_option linter.unusedSimpArgs false
set_option linter.unusedVariables false

theorem hear_proof_no (lo g tb : Nat) (name : ByteArray) (ss : List Sec) (st : Int) (no : ByteArray) (C I T : Int) (A : Option Addr) (n c B : Nat) (val : List UInt8) (t : ByteArray) (w : World) (h : PvAt w lo g tb name ss st no) (hr : Rd w B A n val) (hB : B ≤ w.heap.size) (hnil : A = none → c = 0) (hm : n ≤ 35184372088832) (h0 : 0 ≤ I) (h1 : I ≤ 255) (hnm : name.size ≤ 64) (ht : t.size ≤ maxLen) (hw : wdB ss (bst ss name t) = false) :
    Calls Tryd.prog 54 #[.pointer (some ⟨g, 0, none⟩), .iface 125 (msV C I T A n c t)] w (PtR w lo g tb name ss st no 2 I (dtL 2 3 [0] ⟨#[]⟩) true 0) := by
  have lg := h.lt
  obtain ⟨V, hV, bV, m0, q0⟩ := alloc_two w #[.int .i64 0, .int .i64 0, .slice none 0 0] #[.int .i64 0, .int .i64 0, .int .i64 0, .slice none 0 0, .string ⟨#[]⟩] 24 26
  have hp0 : Blk V w.heap.size 24 [.int .i64 0, .int .i64 0, .slice none 0 0] := m0
  have hm0 : Blk V (w.heap.size + 1) 26 [.int .i64 0, .int .i64 0, .int .i64 0, .slice none 0 0, .string ⟨#[]⟩] := q0
  have lV := Blk.lt hm0
  obtain ⟨U, hU⟩ : ∃ U, V.alloc (.cells #[.int .i64 C, .int .i64 I, .int .i64 T, .slice A n c, .string t] 125) = U := ⟨_, rfl⟩
  have bU : Below V.heap.size V U := by rw [← hU]; exact (Below.refl _ _).alloc (Nat.le_refl _) _
  have kU : Blk U V.heap.size 125 [.int .i64 C, .int .i64 I, .int .i64 T, .slice A n c, .string t] := by rw [← hU]; exact heap_alloc_new V _
  have BU := step_to bV bU
  have pU := past_same hp0 bU
  have mU := past_same hm0 bU
  have gU := past_same h.blk BU
  have hU2 := h.later BU
  have x0 := kU.cell 0
  have x1 := kU.cell 1
  have x2 := kU.cell 2
  have x3 := kU.cell 3
  have x4 := kU.cell 4
  have lU := Blk.lt kU
  have lgU := Blk.lt gU
  have HV := Lib.hid hV
  have HU := Lib.hid hU
  have T_verdict := fun W => ta_verdict_no 125 (by decide) (msV C I T A n c t) W
  have T_identity := fun W => ta_id_no 125 (by decide) (msV C I T A n c t) W
  have T_notice := fun W => ta_notice_no 125 (by decide) (msV C I T A n c t) W
  have T_proof := fun W => ta_pf (msV C I T A n c t) W
  have C1 : Hid (Calls Tryd.prog 80 #[.pointer (some ⟨g, 0, none⟩), msV C I T A n c t] U fun e w3 => ∃ D k d, e = .returned (.agg #[.int .i64 0, .int .i64 I, .int .i64 3, .slice D k d, .string ⟨#[]⟩]) ∧ Blk w3 (w.heap.size + 1) 26 [.int .i64 0, .int .i64 0, .int .i64 0, .slice none 0 0, .string ⟨#[]⟩] ∧ ∃ Y, ((((((w3.setCell ⟨w.heap.size + 1, 0, none⟩ (.int .i64 0)).setCell ⟨w.heap.size + 1, 1, none⟩ (.int .i64 I)).setCell ⟨w.heap.size + 1, 2, none⟩ (.int .i64 3)).setCell ⟨w.heap.size + 1, 3, none⟩ (.slice D k d)).setCell ⟨w.heap.size + 1, 4, none⟩ (.string ⟨#[]⟩)).setCell ⟨w.heap.size + 1, 0, none⟩ (.int .i64 2)) = Y ∧ Blk Y (w.heap.size + 1) 26 [.int .i64 2, .int .i64 I, .int .i64 3, .slice D k d, .string ⟨#[]⟩] ∧
      Calls Tryd.prog 14 #[.agg #[.int .i64 2, .int .i64 I, .int .i64 3, .slice D k d, .string ⟨#[]⟩]] Y fun e w4 => ∃ D5 k5 d5, e = .returned (.tuple #[.agg #[.int .i64 2, .int .i64 I, .slice D5 k5 d5], .int .i64 0]) ∧ ∃ Z, w4.alloc (.cells #[.int .i64 2, .int .i64 I, .slice D5 k5 d5] 24) = Z ∧ Blk Z w4.heap.size 24 [.int .i64 2, .int .i64 I, .slice D5 k5 d5] ∧ Blk Z w.heap.size 24 [.int .i64 0, .int .i64 0, .slice none 0 0] ∧
        ∀ W', Z.grownBy W' (some w.heap.size) → PtR w lo g tb name ss st no 2 I (dtL 2 3 [0] ⟨#[]⟩) true 0 (.returned (.tuple #[.agg #[.int .i64 2, .int .i64 I, .slice D5 k5 d5], .bool true, .int .i64 0])) W') := by
    refine (prove_any lo g tb name ss st no C I T A n c B val t U hU2 (hr.below (BU.mono hB)) (Nat.le_trans hB BU.size) hnil hm h0 h1 (by unfold maxLen; omega) ht).mono ?_
    rintro e w3 ⟨hno, hyes⟩
    obtain ⟨D, k, d, rfl, r3, z3, a3, g3, h3⟩ := hno hw
    have p3 := blk_off pU g3 (by omega)
    have m3 := blk_off mU g3 (by omega)
    obtain ⟨Y, hY⟩ : ∃ Y, ((((((w3.setCell ⟨w.heap.size + 1, 0, none⟩ (.int .i64 0)).setCell ⟨w.heap.size + 1, 1, none⟩ (.int .i64 I)).setCell ⟨w.heap.size + 1, 2, none⟩ (.int .i64 3)).setCell ⟨w.heap.size + 1, 3, none⟩ (.slice D k d)).setCell ⟨w.heap.size + 1, 4, none⟩ (.string ⟨#[]⟩)).setCell ⟨w.heap.size + 1, 0, none⟩ (.int .i64 2)) = Y := ⟨_, rfl⟩
    have gY : w3.grownBy Y (some (w.heap.size + 1)) := by
      rw [← hY]
      exact gtrans' (gset5 _ _ _ _ _ _ _) (gset' _ _ _ _)
    have kY := blk_off h3.blk gY (by omega)
    have pY := blk_off p3 gY (by omega)
    have mY : Blk Y (w.heap.size + 1) 26 [.int .i64 2, .int .i64 I, .int .i64 3, .slice D k d, .string ⟨#[]⟩] := by
      have m6 := (blk5 (x := .int .i64 0) (y := .int .i64 I) (z := .int .i64 3) (u := .slice D k d) (v := .string ⟨#[]⟩) m3).set_ 0 (.int .i64 2)
      rw [← hY]
      exact m6
    have GY : w.grownBy Y (some g) := grown_off (gtrans' (below_some BU) g3) gY (by omega)
    have hk3 := r3.1
    have rY : Rd Y Y.heap.size D k [0] ∧ (D = none → d = 0) := ⟨(r3.off (Nat.le_refl _) gY (fun b o s e => by have := a3 b o s e; omega)).wide gY.size, z3⟩
    have hk4 : k = 1 := by rw [← hk3]; rfl
    exact ⟨D, k, d, rfl, m3, Y, hY, mY, tail_c h GY kY pY rY.1 rY.2 (by omega) (by decide) (by rw [hk4]; exact wrE_nak 0 h0 h1)⟩
  clear hV bV m0 hp0 q0 hm0 hU bU kU BU pU mU gU hU2 h h0 h1 hnm hr hB hnil hm ht hw
  go_enter Tryd.func54, Tryd.ntmps54
  go_upto_region 21 with (first
    | (rw [HV.out])
    | (rw [HU.out])
    | (go_at_call 80; ((with_reducible refine C1.out.mono ?_); rintro e w3 ⟨D, k, d, rfl, m3, Y, hY, mY, ct⟩; have HY := Lib.hid hY; have CT := Lib.hid ct; have r0 := m3.cell 0; have e0 := m3.frozen 0; have r1 := m3.cell 1; have e1 := m3.frozen 1; have r2 := m3.cell 2; have e2 := m3.frozen 2; have r3 := m3.cell 3; have e3 := m3.frozen 3; have r4 := m3.cell 4; have e4 := m3.frozen 4; have lm := Blk.lt m3; have y0 := mY.cell 0; have y1 := mY.cell 1; have y2 := mY.cell 2; have y3 := mY.cell 3; have y4 := mY.cell 4; clear hY ct m3 mY)))
  rw [HY.out]
  go_wp2_with (first
    | (go_at_call 14; ((with_reducible refine CT.out.mono ?_); rintro e w4 ⟨D5, k5, d5, rfl, Z, hZ, nZ, pV, FN⟩; have HZ := Lib.hid hZ; have z0 := nZ.cell 0; have z1 := nZ.cell 1; have z2 := nZ.cell 2; have lz := Blk.lt nZ; have t0 := pV.cell 0; have t1 := pV.cell 1; have t2 := pV.cell 2; have q0 := pV.frozen 0; have q1 := pV.frozen 1; have q2 := pV.frozen 2; have lr := Blk.lt pV; have PV := Lib.hid pV; have FNH := Lib.hid FN; clear hZ nZ pV FN))
    | (rw [HZ.out]))
  have hb4 := blk3 (x := .int .i64 2) (y := .int .i64 I) (z := .slice D5 k5 d5) PV.out
  have p0 := hb4.cell 0
  have p1 := hb4.cell 1
  have p2 := hb4.cell 2
  exact bodyPost_ret (v := .tuple #[.agg #[.int .i64 2, .int .i64 I, .slice D5 k5 d5], .bool true, .int .i64 0]) (by simp [results, Tryd.results54, go_sem, p0, p1, p2]) rfl (FNH.out _ (gset3 _ _ _ _ _))
theorem hear_proof_yes (lo g tb : Nat) (name : ByteArray) (ss : List Sec) (st : Int) (no : ByteArray) (C I T : Int) (A : Option Addr) (n c B : Nat) (val : List UInt8) (t : ByteArray) (w : World) (h : PvAt w lo g tb name ss st no) (hr : Rd w B A n val) (hB : B ≤ w.heap.size) (hnil : A = none → c = 0) (hm : n ≤ 35184372088832) (h0 : 0 ≤ I) (h1 : I ≤ 255) (hnm : name.size ≤ 64) (ht : t.size ≤ maxLen) (hw : wdB ss (bst ss name t) = true) :
    Calls Tryd.prog 54 #[.pointer (some ⟨g, 0, none⟩), .iface 125 (msV C I T A n c t)] w (PtR w lo g tb name ss 2 no 2 I (dtL 2 4 (digL I (wdS ss (bst ss name t)) val) name) true 0) := by
  have lg := h.lt
  obtain ⟨V, hV, bV, m0, q0⟩ := alloc_two w #[.int .i64 0, .int .i64 0, .slice none 0 0] #[.int .i64 0, .int .i64 0, .int .i64 0, .slice none 0 0, .string ⟨#[]⟩] 24 26
  have hp0 : Blk V w.heap.size 24 [.int .i64 0, .int .i64 0, .slice none 0 0] := m0
  have hm0 : Blk V (w.heap.size + 1) 26 [.int .i64 0, .int .i64 0, .int .i64 0, .slice none 0 0, .string ⟨#[]⟩] := q0
  have lV := Blk.lt hm0
  obtain ⟨U, hU⟩ : ∃ U, V.alloc (.cells #[.int .i64 C, .int .i64 I, .int .i64 T, .slice A n c, .string t] 125) = U := ⟨_, rfl⟩
  have bU : Below V.heap.size V U := by rw [← hU]; exact (Below.refl _ _).alloc (Nat.le_refl _) _
  have kU : Blk U V.heap.size 125 [.int .i64 C, .int .i64 I, .int .i64 T, .slice A n c, .string t] := by rw [← hU]; exact heap_alloc_new V _
  have BU := step_to bV bU
  have pU := past_same hp0 bU
  have mU := past_same hm0 bU
  have gU := past_same h.blk BU
  have hU2 := h.later BU
  have x0 := kU.cell 0
  have x1 := kU.cell 1
  have x2 := kU.cell 2
  have x3 := kU.cell 3
  have x4 := kU.cell 4
  have lU := Blk.lt kU
  have lgU := Blk.lt gU
  have HV := Lib.hid hV
  have HU := Lib.hid hU
  have T_verdict := fun W => ta_verdict_no 125 (by decide) (msV C I T A n c t) W
  have T_identity := fun W => ta_id_no 125 (by decide) (msV C I T A n c t) W
  have T_notice := fun W => ta_notice_no 125 (by decide) (msV C I T A n c t) W
  have T_proof := fun W => ta_pf (msV C I T A n c t) W
  have hdl := digL_length I (wdS ss (bst ss name t)) val
  obtain ⟨dg, hdg⟩ : ∃ dg, digL I (wdS ss (bst ss name t)) val = dg := ⟨_, rfl⟩
  rw [hdg] at hdl ⊢
  have C1 : Hid (Calls Tryd.prog 80 #[.pointer (some ⟨g, 0, none⟩), msV C I T A n c t] U fun e w3 => ∃ D k d, e = .returned (.agg #[.int .i64 0, .int .i64 I, .int .i64 4, .slice D k d, .string name]) ∧ Blk w3 (w.heap.size + 1) 26 [.int .i64 0, .int .i64 0, .int .i64 0, .slice none 0 0, .string ⟨#[]⟩] ∧ ∃ Y, ((((((w3.setCell ⟨w.heap.size + 1, 0, none⟩ (.int .i64 0)).setCell ⟨w.heap.size + 1, 1, none⟩ (.int .i64 I)).setCell ⟨w.heap.size + 1, 2, none⟩ (.int .i64 4)).setCell ⟨w.heap.size + 1, 3, none⟩ (.slice D k d)).setCell ⟨w.heap.size + 1, 4, none⟩ (.string name)).setCell ⟨w.heap.size + 1, 0, none⟩ (.int .i64 2)) = Y ∧ Blk Y (w.heap.size + 1) 26 [.int .i64 2, .int .i64 I, .int .i64 4, .slice D k d, .string name] ∧
      Calls Tryd.prog 14 #[.agg #[.int .i64 2, .int .i64 I, .int .i64 4, .slice D k d, .string name]] Y fun e w4 => ∃ D5 k5 d5, e = .returned (.tuple #[.agg #[.int .i64 2, .int .i64 I, .slice D5 k5 d5], .int .i64 0]) ∧ ∃ Z, w4.alloc (.cells #[.int .i64 2, .int .i64 I, .slice D5 k5 d5] 24) = Z ∧ Blk Z w4.heap.size 24 [.int .i64 2, .int .i64 I, .slice D5 k5 d5] ∧ Blk Z w.heap.size 24 [.int .i64 0, .int .i64 0, .slice none 0 0] ∧
        ∀ W', Z.grownBy W' (some w.heap.size) → PtR w lo g tb name ss 2 no 2 I (dtL 2 4 dg name) true 0 (.returned (.tuple #[.agg #[.int .i64 2, .int .i64 I, .slice D5 k5 d5], .bool true, .int .i64 0])) W') := by
    refine (prove_any lo g tb name ss st no C I T A n c B val t U hU2 (hr.below (BU.mono hB)) (Nat.le_trans hB BU.size) hnil hm h0 h1 (by unfold maxLen; omega) ht).mono ?_
    rintro e w3 ⟨hno, hyes⟩
    obtain ⟨D, k, d, rfl, r3, z3, a3, g3, h3⟩ := hyes hw
    rw [hdg] at r3
    have p3 := blk_off pU g3 (by omega)
    have m3 := blk_off mU g3 (by omega)
    obtain ⟨Y, hY⟩ : ∃ Y, ((((((w3.setCell ⟨w.heap.size + 1, 0, none⟩ (.int .i64 0)).setCell ⟨w.heap.size + 1, 1, none⟩ (.int .i64 I)).setCell ⟨w.heap.size + 1, 2, none⟩ (.int .i64 4)).setCell ⟨w.heap.size + 1, 3, none⟩ (.slice D k d)).setCell ⟨w.heap.size + 1, 4, none⟩ (.string name)).setCell ⟨w.heap.size + 1, 0, none⟩ (.int .i64 2)) = Y := ⟨_, rfl⟩
    have gY : w3.grownBy Y (some (w.heap.size + 1)) := by
      rw [← hY]
      exact gtrans' (gset5 _ _ _ _ _ _ _) (gset' _ _ _ _)
    have kY := blk_off h3.blk gY (by omega)
    have pY := blk_off p3 gY (by omega)
    have mY : Blk Y (w.heap.size + 1) 26 [.int .i64 2, .int .i64 I, .int .i64 4, .slice D k d, .string name] := by
      have m6 := (blk5 (x := .int .i64 0) (y := .int .i64 I) (z := .int .i64 4) (u := .slice D k d) (v := .string name) m3).set_ 0 (.int .i64 2)
      rw [← hY]
      exact m6
    have GY : w.grownBy Y (some g) := grown_off (gtrans' (below_some BU) g3) gY (by omega)
    have hk3 := r3.1
    have rY : Rd Y Y.heap.size D k dg ∧ (D = none → d = 0) := ⟨(r3.off (Nat.le_refl _) gY (fun b o s e => by have := a3 b o s e; omega)).wide gY.size, z3⟩
    have hk4 : k = 16 := by rw [← hk3]; exact hdl
    exact ⟨D, k, d, rfl, m3, Y, hY, mY, tail_c h GY kY pY rY.1 rY.2 (by omega) (by omega) (by rw [hk4]; exact wrE_pf h0 h1 hdl hnm)⟩
  clear hV bV m0 hp0 q0 hm0 hU bU kU BU pU mU gU hU2 h h0 h1 hnm hr hB hnil hm ht hw hdg hdl
  go_enter Tryd.func54, Tryd.ntmps54
  go_upto_region 21 with (first
    | (rw [HV.out])
    | (rw [HU.out])
    | (go_at_call 80; ((with_reducible refine C1.out.mono ?_); rintro e w3 ⟨D, k, d, rfl, m3, Y, hY, mY, ct⟩; have HY := Lib.hid hY; have CT := Lib.hid ct; have r0 := m3.cell 0; have e0 := m3.frozen 0; have r1 := m3.cell 1; have e1 := m3.frozen 1; have r2 := m3.cell 2; have e2 := m3.frozen 2; have r3 := m3.cell 3; have e3 := m3.frozen 3; have r4 := m3.cell 4; have e4 := m3.frozen 4; have lm := Blk.lt m3; have y0 := mY.cell 0; have y1 := mY.cell 1; have y2 := mY.cell 2; have y3 := mY.cell 3; have y4 := mY.cell 4; clear hY ct m3 mY)))
  rw [HY.out]
  go_wp2_with (first
    | (go_at_call 14; ((with_reducible refine CT.out.mono ?_); rintro e w4 ⟨D5, k5, d5, rfl, Z, hZ, nZ, pV, FN⟩; have HZ := Lib.hid hZ; have z0 := nZ.cell 0; have z1 := nZ.cell 1; have z2 := nZ.cell 2; have lz := Blk.lt nZ; have t0 := pV.cell 0; have t1 := pV.cell 1; have t2 := pV.cell 2; have q0 := pV.frozen 0; have q1 := pV.frozen 1; have q2 := pV.frozen 2; have lr := Blk.lt pV; have PV := Lib.hid pV; have FNH := Lib.hid FN; clear hZ nZ pV FN))
    | (rw [HZ.out]))
  have hb4 := blk3 (x := .int .i64 2) (y := .int .i64 I) (z := .slice D5 k5 d5) PV.out
  have p0 := hb4.cell 0
  have p1 := hb4.cell 1
  have p2 := hb4.cell 2
  exact bodyPost_ret (v := .tuple #[.agg #[.int .i64 2, .int .i64 I, .slice D5 k5 d5], .bool true, .int .i64 0]) (by simp [results, Tryd.results54, go_sem, p0, p1, p2]) rfl (FNH.out _ (gset3 _ _ _ _ _))
theorem hear_strange (lo g tb : Nat) (name : ByteArray) (ss : List Sec) (st : Int) (no : ByteArray) (C I T : Int) (A : Option Addr) (n c : Nat) (t : ByteArray) (w : World) (h : PvAt w lo g tb name ss st no) (h0 : 0 ≤ I) (h1 : I ≤ 255) (hnm : name.size ≤ 64) :
    Calls Tryd.prog 54 #[.pointer (some ⟨g, 0, none⟩), .iface 126 (msV C I T A n c t)] w (PtR w lo g tb name ss st no 2 I (dtL 2 3 [4] ⟨#[]⟩) true 0) := by
  have lg := h.lt
  obtain ⟨V, hV, bV, m0, q0⟩ := alloc_two w #[.int .i64 0, .int .i64 0, .slice none 0 0] #[.int .i64 0, .int .i64 0, .int .i64 0, .slice none 0 0, .string ⟨#[]⟩] 24 26
  have hp0 : Blk V w.heap.size 24 [.int .i64 0, .int .i64 0, .slice none 0 0] := m0
  have hm0 : Blk V (w.heap.size + 1) 26 [.int .i64 0, .int .i64 0, .int .i64 0, .slice none 0 0, .string ⟨#[]⟩] := q0
  have lV := Blk.lt hm0
  obtain ⟨U, hU⟩ : ∃ U, V.alloc (.cells #[.int .i64 C, .int .i64 I, .int .i64 T, .slice A n c, .string t] 126) = U := ⟨_, rfl⟩
  have bU : Below V.heap.size V U := by rw [← hU]; exact (Below.refl _ _).alloc (Nat.le_refl _) _
  have kU : Blk U V.heap.size 126 [.int .i64 C, .int .i64 I, .int .i64 T, .slice A n c, .string t] := by rw [← hU]; exact heap_alloc_new V _
  have BU := step_to bV bU
  have pU := past_same hp0 bU
  have mU := past_same hm0 bU
  have gU := past_same h.blk BU
  have hU2 := h.later BU
  have x0 := kU.cell 0
  have x1 := kU.cell 1
  have x2 := kU.cell 2
  have x3 := kU.cell 3
  have x4 := kU.cell 4
  have lU := Blk.lt kU
  have lgU := Blk.lt gU
  have HV := Lib.hid hV
  have HU := Lib.hid hU
  have T_verdict := fun W => ta_verdict_no 126 (by decide) (msV C I T A n c t) W
  have T_identity := fun W => ta_id_no 126 (by decide) (msV C I T A n c t) W
  have T_notice := fun W => ta_notice_no 126 (by decide) (msV C I T A n c t) W
  have T_proof := fun W => ta_pf_no 126 (by decide) (msV C I T A n c t) W
  have T_strange := fun W => ta_strange (msV C I T A n c t) W
  have C1 : Hid (Calls Tryd.prog 81 #[.int .i64 I, .int .u8 4] U fun e w3 => ∃ D k d, e = .returned (.agg #[.int .i64 0, .int .i64 I, .int .i64 3, .slice D k d, .string ⟨#[]⟩]) ∧ Blk w3 (w.heap.size + 1) 26 [.int .i64 0, .int .i64 0, .int .i64 0, .slice none 0 0, .string ⟨#[]⟩] ∧ ∃ Y, ((((((w3.setCell ⟨w.heap.size + 1, 0, none⟩ (.int .i64 0)).setCell ⟨w.heap.size + 1, 1, none⟩ (.int .i64 I)).setCell ⟨w.heap.size + 1, 2, none⟩ (.int .i64 3)).setCell ⟨w.heap.size + 1, 3, none⟩ (.slice D k d)).setCell ⟨w.heap.size + 1, 4, none⟩ (.string ⟨#[]⟩)).setCell ⟨w.heap.size + 1, 0, none⟩ (.int .i64 2)) = Y ∧ Blk Y (w.heap.size + 1) 26 [.int .i64 2, .int .i64 I, .int .i64 3, .slice D k d, .string ⟨#[]⟩] ∧
      Calls Tryd.prog 14 #[.agg #[.int .i64 2, .int .i64 I, .int .i64 3, .slice D k d, .string ⟨#[]⟩]] Y fun e w4 => ∃ D5 k5 d5, e = .returned (.tuple #[.agg #[.int .i64 2, .int .i64 I, .slice D5 k5 d5], .int .i64 0]) ∧ ∃ Z, w4.alloc (.cells #[.int .i64 2, .int .i64 I, .slice D5 k5 d5] 24) = Z ∧ Blk Z w4.heap.size 24 [.int .i64 2, .int .i64 I, .slice D5 k5 d5] ∧ Blk Z w.heap.size 24 [.int .i64 0, .int .i64 0, .slice none 0 0] ∧
        ∀ W', Z.grownBy W' (some w.heap.size) → PtR w lo g tb name ss st no 2 I (dtL 2 3 [4] ⟨#[]⟩) true 0 (.returned (.tuple #[.agg #[.int .i64 2, .int .i64 I, .slice D5 k5 d5], .bool true, .int .i64 0])) W') := by
    refine (nak_any I 4 4 rfl U).mono ?_
    rintro e w3 ⟨b3, D, k, d, rfl, o3⟩
    have p3 := past_same pU b3
    have m3 := past_same mU b3
    obtain ⟨Y, hY⟩ : ∃ Y, ((((((w3.setCell ⟨w.heap.size + 1, 0, none⟩ (.int .i64 0)).setCell ⟨w.heap.size + 1, 1, none⟩ (.int .i64 I)).setCell ⟨w.heap.size + 1, 2, none⟩ (.int .i64 3)).setCell ⟨w.heap.size + 1, 3, none⟩ (.slice D k d)).setCell ⟨w.heap.size + 1, 4, none⟩ (.string ⟨#[]⟩)).setCell ⟨w.heap.size + 1, 0, none⟩ (.int .i64 2)) = Y := ⟨_, rfl⟩
    have gY : w3.grownBy Y (some (w.heap.size + 1)) := by
      rw [← hY]
      exact gtrans' (gset5 _ _ _ _ _ _ _) (gset' _ _ _ _)
    have kY := blk_off (past_same gU b3) gY (by omega)
    have pY := blk_off p3 gY (by omega)
    have mY : Blk Y (w.heap.size + 1) 26 [.int .i64 2, .int .i64 I, .int .i64 3, .slice D k d, .string ⟨#[]⟩] := by
      have m6 := (blk5 (x := .int .i64 0) (y := .int .i64 I) (z := .int .i64 3) (u := .slice D k d) (v := .string ⟨#[]⟩) m3).set_ 0 (.int .i64 2)
      rw [← hY]
      exact m6
    have GY : w.grownBy Y (some g) := grown_off (gtrans' (below_some BU) (below_some b3)) gY (by omega)
    have hk3 := (own_rd o3).1.1
    have oY := o3.grown gY (own_apart o3 m3 (by decide))
    have rY : Rd Y Y.heap.size D k [4] ∧ (D = none → d = 0) := ⟨(own_rd oY).1, (own_rd oY).2.2⟩
    have hk4 : k = 1 := by rw [← hk3]; rfl
    exact ⟨D, k, d, rfl, m3, Y, hY, mY, tail_c h GY kY pY rY.1 rY.2 (by omega) (by decide) (by rw [hk4]; exact wrE_nak 4 h0 h1)⟩
  clear hV bV m0 hp0 q0 hm0 hU bU kU BU pU mU gU hU2 h h0 h1 hnm
  go_enter Tryd.func54, Tryd.ntmps54
  go_upto_region 21 with (first
    | (rw [HV.out])
    | (rw [HU.out])
    | (go_at_call 81; ((with_reducible refine C1.out.mono ?_); rintro e w3 ⟨D, k, d, rfl, m3, Y, hY, mY, ct⟩; have HY := Lib.hid hY; have CT := Lib.hid ct; have r0 := m3.cell 0; have e0 := m3.frozen 0; have r1 := m3.cell 1; have e1 := m3.frozen 1; have r2 := m3.cell 2; have e2 := m3.frozen 2; have r3 := m3.cell 3; have e3 := m3.frozen 3; have r4 := m3.cell 4; have e4 := m3.frozen 4; have lm := Blk.lt m3; have y0 := mY.cell 0; have y1 := mY.cell 1; have y2 := mY.cell 2; have y3 := mY.cell 3; have y4 := mY.cell 4; clear hY ct m3 mY)))
  rw [HY.out]
  go_wp2_with (first
    | (go_at_call 14; ((with_reducible refine CT.out.mono ?_); rintro e w4 ⟨D5, k5, d5, rfl, Z, hZ, nZ, pV, FN⟩; have HZ := Lib.hid hZ; have z0 := nZ.cell 0; have z1 := nZ.cell 1; have z2 := nZ.cell 2; have lz := Blk.lt nZ; have t0 := pV.cell 0; have t1 := pV.cell 1; have t2 := pV.cell 2; have q0 := pV.frozen 0; have q1 := pV.frozen 1; have q2 := pV.frozen 2; have lr := Blk.lt pV; have PV := Lib.hid pV; have FNH := Lib.hid FN; clear hZ nZ pV FN))
    | (rw [HZ.out]))
  have hb4 := blk3 (x := .int .i64 2) (y := .int .i64 I) (z := .slice D5 k5 d5) PV.out
  have p0 := hb4.cell 0
  have p1 := hb4.cell 1
  have p2 := hb4.cell 2
  exact bodyPost_ret (v := .tuple #[.agg #[.int .i64 2, .int .i64 I, .slice D5 k5 d5], .bool true, .int .i64 0]) (by simp [results, Tryd.results54, go_sem, p0, p1, p2]) rfl (FNH.out _ (gset3 _ _ _ _ _))
end Go.Proofs.YtjimoegegigoiaaDoor
namespace Go.Proofs.YtjimoegegigoiaaDoor
open Go.RowKit Go.Shelf
set_option maxRecDepth 100000
set_option maxHeartbeats 1000000
set_option linter.unusedSimpArgs false
set_option linter.unusedVariables false

def ptE (C I : Int) (l : List UInt8) : Int := if rdE C I l ≠ 0 then rdE C I l else if C = 2 then 90 else 0
theorem ptake_no (lo g tb : Nat) (name : ByteArray) (ss : List Sec) (st : Int) (no : ByteArray) (C I : Int) (A : Option Addr) (n c B : Nat) (l : List UInt8) (w : World) (h : PvAt w lo g tb name ss st no) (hr : Rd w B A n l) (hB : B ≤ w.heap.size) (hn : n ≤ 140737488351232) (he : ptE C I l ≠ 0) :
    Calls Tryd.prog 28 #[.pointer (some ⟨g, 0, none⟩), .agg #[.int .i64 C, .int .i64 I, .slice A n c]] w fun e w' => e = .returned (.tuple #[.agg #[.int .i64 0, .int .i64 0, .slice none 0 0], .bool false, .int .i64 (ptE C I l)]) ∧ Below w.heap.size w w' := by
  have lg := h.lt
  obtain ⟨V, hV, bV, m0, p0⟩ := alloc_two w #[.int .i64 C, .int .i64 I, .slice A n c] #[.int .i64 0, .int .i64 0, .slice none 0 0] 24 24
  have hm0 : Blk V w.heap.size 24 [.int .i64 C, .int .i64 I, .slice A n c] := m0
  have hp0 : Blk V (w.heap.size + 1) 24 [.int .i64 0, .int .i64 0, .slice none 0 0] := p0
  have i0 := hm0.cell 0
  have i1 := hm0.cell 1
  have i2 := hm0.cell 2
  have RD := eread_any C I A n c B l V (hr.below (bV.mono hB)) (Nat.le_trans hB bV.size) hn
  have HV := Lib.hid hV
  by_cases hz : rdE C I l = 0
  case neg =>
    have ht : ptE C I l = rdE C I l := by unfold ptE; rw [if_pos hz]
    rw [ht]
    obtain ⟨er, her⟩ : ∃ er, rdE C I l = er := ⟨_, rfl⟩
    rw [her] at RD hz ⊢
    have hz1 : (er != 0) = true := by simpa using hz
    have C1 : Hid (Calls Tryd.prog 11 #[.agg #[.int .i64 C, .int .i64 I, .slice A n c]] V fun e w1 => ∃ D k d, e = .returned (.tuple #[.agg #[.int .i64 0, .int .i64 0, .int .i64 0, .slice D k d, .string ⟨#[]⟩], .int .i64 er]) ∧
        ∃ V1, w1.alloc (.cells #[.int .i64 0, .int .i64 0, .int .i64 0, .slice D k d, .string ⟨#[]⟩] 26) = V1 ∧ Blk V1 (w.heap.size + 1) 24 [.int .i64 0, .int .i64 0, .slice none 0 0] ∧ Below w.heap.size w V1) := by
      refine RD.mono ?_
      rintro e w1 ⟨b1, D, k, d, he1, o1⟩
      rw [if_neg hz, if_neg hz, if_neg hz, if_neg hz] at he1
      have bA : Below w1.heap.size w1 (w1.alloc (.cells #[.int .i64 0, .int .i64 0, .int .i64 0, .slice D k d, .string ⟨#[]⟩] 26)) := (Below.refl _ _).alloc (Nat.le_refl _) _
      exact ⟨D, k, d, he1, _, rfl, past_same (past_same hp0 b1) bA, step_to (step_to bV b1) bA⟩
    clear RD hV bV m0 hm0 p0 hp0 hr hB hn he ht her hz h
    go_enter Tryd.func28, Tryd.ntmps28
    go_upto_region 4 with (first
      | (rw [HV.out])
      | (go_at_call 11; ((with_reducible refine C1.out.mono ?_); rintro e w1 ⟨D, k, d, rfl, V1, hV1, pV, bE⟩; have HV1 := Lib.hid hV1; have PV := Lib.hid pV; have BE := Lib.hid bE; clear hV1 pV bE)))
    rw [HV1.out]
    have pV := PV.out
    have r0 := pV.cell 0
    have r1 := pV.cell 1
    have r2 := pV.cell 2
    have e0 := pV.frozen 0
    have e1 := pV.frozen 1
    have e2 := pV.frozen 2
    have lr := Blk.lt pV
    have hb4 := blk3 (x := .int .i64 0) (y := .int .i64 0) (z := .slice none 0 0) pV
    have p0 := hb4.cell 0
    have p1 := hb4.cell 1
    have p2 := hb4.cell 2
    have FN := Lib.hid (below_row BE.out (gset3 V1 (w.heap.size + 1) (.int .i64 0) (.int .i64 0) (.slice none 0 0)) (by omega))
    clear pV hb4 C1
    go_wp2
    exact bodyPost_ret (v := .tuple #[.agg #[.int .i64 0, .int .i64 0, .slice none 0 0], .bool false, .int .i64 er]) (by simp [results, Tryd.results28, go_sem, p0, p1, p2]) rfl ⟨rfl, FN.out⟩
  rw [hz] at RD
  by_cases hC : C = 2
  case neg =>
    exfalso
    apply he
    unfold ptE
    rw [if_neg (by rw [hz]; simp), if_neg hC]
  have ht : ptE C I l = 90 := by unfold ptE; rw [if_neg (by rw [hz]; simp), if_pos hC]
  rw [ht]
  have ec : (C == 2) = true := by simpa using hC
  obtain ⟨T, hT⟩ : ∃ T, rdT C l = T := ⟨_, rfl⟩
  rw [hT] at RD
  obtain ⟨val, hval⟩ : ∃ val, krV C T (rdR C l) = val := ⟨_, rfl⟩
  obtain ⟨t, hts⟩ : ∃ t, krS C T (rdR C l) = t := ⟨_, rfl⟩
  rw [hval, hts] at RD
  have C1 : Hid (Calls Tryd.prog 11 #[.agg #[.int .i64 C, .int .i64 I, .slice A n c]] V fun e w1 => ∃ D k d, e = .returned (.tuple #[.agg #[.int .i64 C, .int .i64 I, .int .i64 T, .slice D k d, .string t], .int .i64 0]) ∧
      ∃ V1, w1.alloc (.cells #[.int .i64 C, .int .i64 I, .int .i64 T, .slice D k d, .string t] 26) = V1 ∧ Blk V1 (w.heap.size + 1) 24 [.int .i64 0, .int .i64 0, .slice none 0 0] ∧ Blk V1 w1.heap.size 26 [.int .i64 C, .int .i64 I, .int .i64 T, .slice D k d, .string t] ∧ Below w.heap.size w V1) := by
    refine RD.mono ?_
    rintro e w1 ⟨b1, D, k, d, he1, o1⟩
    simp only [if_true] at he1
    have bA : Below w1.heap.size w1 (w1.alloc (.cells #[.int .i64 C, .int .i64 I, .int .i64 T, .slice D k d, .string t] 26)) := (Below.refl _ _).alloc (Nat.le_refl _) _
    have BA := step_to (step_to bV b1) bA
    exact ⟨D, k, d, he1, _, rfl, past_same (past_same hp0 b1) bA, heap_alloc_new w1 _, BA⟩
  clear RD hV bV m0 hm0 p0 hp0 hr hB hn hT hval hts h he ht hz hC
  go_enter Tryd.func28, Tryd.ntmps28
  go_upto_region 4 with (first
    | (rw [HV.out])
    | (go_at_call 11; ((with_reducible refine C1.out.mono ?_); rintro e w1 ⟨D, k, d, rfl, V1, hV1, pV, mV, bE⟩; have HV1 := Lib.hid hV1; have PV := Lib.hid pV; have BE := Lib.hid bE; have y0 := mV.cell 0; have lm1 := Blk.lt mV; clear hV1 pV mV bE)))
  rw [HV1.out]
  have pV := PV.out
  have r0 := pV.cell 0
  have r1 := pV.cell 1
  have r2 := pV.cell 2
  have e0 := pV.frozen 0
  have e1 := pV.frozen 1
  have e2 := pV.frozen 2
  have lr := Blk.lt pV
  have hb4 := blk3 (x := .int .i64 0) (y := .int .i64 0) (z := .slice none 0 0) pV
  have p0 := hb4.cell 0
  have p1 := hb4.cell 1
  have p2 := hb4.cell 2
  have FN := Lib.hid (below_row BE.out (gset3 V1 (w.heap.size + 1) (.int .i64 0) (.int .i64 0) (.slice none 0 0)) (by omega))
  clear pV hb4 C1
  go_wp2
  exact bodyPost_ret (v := .tuple #[.agg #[.int .i64 0, .int .i64 0, .slice none 0 0], .bool false, .int .i64 90]) (by simp [results, Tryd.results28, go_sem, p0, p1, p2]) rfl ⟨rfl, FN.out⟩
theorem ptake_yes (lo g tb : Nat) (name : ByteArray) (ss : List Sec) (st : Int) (no : ByteArray) (C I : Int) (A : Option Addr) (n c B : Nat) (l : List UInt8) (w : World) (h : PvAt w lo g tb name ss st no) (hr : Rd w B A n l) (hB : B ≤ w.heap.size) (hn : n ≤ 140737488351232) (he : ptE C I l = 0) (T : Int) (val L : List UInt8) (t : ByteArray) (st' : Int) (no' : ByteArray) (x y er : Int) (ok : Bool)
    (hT : rdT C l = T) (hval : krV C T (rdR C l) = val) (hts : krS C T (rdR C l) = t)
    (J : ∀ W D k d, Below w.heap.size w W → Rd W W.heap.size D k val → k ≤ d → (D = none → d = 0) → Calls Tryd.prog 54 #[.pointer (some ⟨g, 0, none⟩), .iface (knT C T) (msV C I T D k d t)] W (PtR W lo g tb name ss st' no' x y L ok er)) :
    Calls Tryd.prog 28 #[.pointer (some ⟨g, 0, none⟩), .agg #[.int .i64 C, .int .i64 I, .slice A n c]] w (PtR w lo g tb name ss st' no' x y L ok er) := by
  obtain ⟨hz, hC⟩ : rdE C I l = 0 ∧ C ≠ 2 := by
    unfold ptE at he
    split at he
    · contradiction
    · rename_i h1
      split at he
      · cases he
      · rename_i h2
        exact ⟨by simpa using h1, h2⟩
  have lg := h.lt
  obtain ⟨V, hV, bV, m0, p0⟩ := alloc_two w #[.int .i64 C, .int .i64 I, .slice A n c] #[.int .i64 0, .int .i64 0, .slice none 0 0] 24 24
  have hm0 : Blk V w.heap.size 24 [.int .i64 C, .int .i64 I, .slice A n c] := m0
  have hp0 : Blk V (w.heap.size + 1) 24 [.int .i64 0, .int .i64 0, .slice none 0 0] := p0
  have i0 := hm0.cell 0
  have i1 := hm0.cell 1
  have i2 := hm0.cell 2
  have RD := eread_any C I A n c B l V (hr.below (bV.mono hB)) (Nat.le_trans hB bV.size) hn
  have HV := Lib.hid hV
  rw [hz, hT, hval, hts] at RD
  have ec : (C == 2) = false := by simpa using hC
  obtain ⟨kt, hkt⟩ : ∃ kt, knT C T = kt := ⟨_, rfl⟩
  rw [hkt] at J
  have C1 : Hid (Calls Tryd.prog 11 #[.agg #[.int .i64 C, .int .i64 I, .slice A n c]] V fun e w1 => ∃ D k d, e = .returned (.tuple #[.agg #[.int .i64 C, .int .i64 I, .int .i64 T, .slice D k d, .string t], .int .i64 0]) ∧
      ∃ V1, w1.alloc (.cells #[.int .i64 C, .int .i64 I, .int .i64 T, .slice D k d, .string t] 26) = V1 ∧ Blk V1 w1.heap.size 26 [.int .i64 C, .int .i64 I, .int .i64 T, .slice D k d, .string t] ∧
      Calls Tryd.prog 44 #[msV C I T D k d t] V1 fun e w2 => e = .returned (.iface kt (msV C I T D k d t)) ∧ Calls Tryd.prog 54 #[.pointer (some ⟨g, 0, none⟩), .iface kt (msV C I T D k d t)] w2 fun e w3 => ∃ D3 k3 d3, e = .returned (.tuple #[.agg #[.int .i64 x, .int .i64 y, .slice D3 k3 d3], .bool ok, .int .i64 er]) ∧ Blk w3 (w.heap.size + 1) 24 [.int .i64 0, .int .i64 0, .slice none 0 0] ∧
        ∀ W', w3.grownBy W' (some (w.heap.size + 1)) → PtR w lo g tb name ss st' no' x y L ok er (.returned (.tuple #[.agg #[.int .i64 x, .int .i64 y, .slice D3 k3 d3], .bool ok, .int .i64 er])) W') := by
    refine RD.mono ?_
    rintro e w1 ⟨b1, D, k, d, he1, o1⟩
    simp only [if_true] at he1 o1
    have bA : Below w1.heap.size w1 (w1.alloc (.cells #[.int .i64 C, .int .i64 I, .int .i64 T, .slice D k d, .string t] 26)) := (Below.refl _ _).alloc (Nat.le_refl _) _
    have BA := step_to (step_to bV b1) bA
    refine ⟨D, k, d, he1, _, rfl, heap_alloc_new w1 _, ?_⟩
    have hpA := past_same (past_same hp0 b1) bA
    have oA := o1.later bA
    generalize w1.alloc (.cells #[.int .i64 C, .int .i64 I, .int .i64 T, .slice D k d, .string t] 26) = V1 at bA BA hpA oA ⊢
    have KO := ekindOf_any C I T D k d t V1
    rw [hkt] at KO
    refine KO.mono ?_
    rintro e w2 ⟨rfl, hw2⟩
    have b2 : Below V1.heap.size V1 w2 := by rw [hw2]; exact (Below.refl _ _).alloc (Nat.le_refl _) _
    have B2 := step_to BA b2
    have r2 := own_rd (oA.later b2)
    refine ⟨rfl, (J w2 D k d B2 r2.1 r2.2.1 r2.2.2).mono ?_⟩
    rintro e w3 ⟨D3, k3, d3, rfl, o3, g3, h3⟩
    have p2 := past_same hpA b2
    have l2 := Blk.lt p2
    have p3 := blk_off p2 g3 (by omega)
    refine ⟨D3, k3, d3, rfl, p3, fun W' hW => ?_⟩
    have GW : w.grownBy W' (some g) := grown_off (gtrans' (below_some B2) g3) hW (by omega)
    exact ⟨D3, k3, d3, rfl, eown_wide (o3.grown hW (own_apart o3 p3 (by decide))) B2.size, GW, h.row GW (blk_off h3.blk hW (by omega))⟩
  clear RD hV bV m0 hm0 p0 hp0 hr hB hn hT hval hts h he J hkt hC hz
  go_enter Tryd.func28, Tryd.ntmps28
  go_upto_region 4 with (first
    | (rw [HV.out])
    | (go_at_call 11; ((with_reducible refine C1.out.mono ?_); rintro e w1 ⟨D, k, d, rfl, V1, hV1, mV, n1⟩; have HV1 := Lib.hid hV1; have y0 := mV.cell 0; have y1 := mV.cell 1; have y2 := mV.cell 2; have y3 := mV.cell 3; have y4 := mV.cell 4; have lm1 := Blk.lt mV; have C2 := Lib.hid n1; clear hV1 mV n1)))
  rw [HV1.out]
  clear C1
  go_wp2_with (first
    | (go_at_call 44; ((with_reducible refine C2.out.mono ?_); rintro e w2 ⟨rfl, n2⟩; have C3 := Lib.hid n2; clear n2))
    | (go_at_call 54; ((with_reducible refine C3.out.mono ?_); rintro e w3 ⟨D3, k3, d3, rfl, pV, FN⟩; have r0 := pV.cell 0; have r1 := pV.cell 1; have r2 := pV.cell 2; have e0 := pV.frozen 0; have e1 := pV.frozen 1; have e2 := pV.frozen 2; have lr := Blk.lt pV; have PV := Lib.hid pV; have FNH := Lib.hid FN; clear pV FN)))
  have hb4 := blk3 (x := .int .i64 x) (y := .int .i64 y) (z := .slice D3 k3 d3) PV.out
  have p0 := hb4.cell 0
  have p1 := hb4.cell 1
  have p2 := hb4.cell 2
  exact bodyPost_ret (v := .tuple #[.agg #[.int .i64 x, .int .i64 y, .slice D3 k3 d3], .bool ok, .int .i64 er]) (by simp [results, Tryd.results28, go_sem, p0, p1, p2]) rfl (FNH.out _ (gset3 _ _ _ _ _))
end Go.Proofs.YtjimoegegigoiaaDoor
