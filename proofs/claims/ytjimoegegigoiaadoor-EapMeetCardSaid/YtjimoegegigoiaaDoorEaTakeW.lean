/-
  eap's authenticator: known, proved.
  eap's authenticator: judge.
  eap's authenticator: judge of names and of proofs (written by gen_eajp.py).
  eap's authenticator: Take (written by gen_eatake.py).
  eap's authenticator: Take of what is waited for (written by gen_eatake.py).
-/
import Derived.Test.YtjimoegegigoiaaDoorEaAsk
namespace Go.Proofs.YtjimoegegigoiaaDoor
open Go.RowKit Go.Shelf
set_option maxRecDepth 100000
set_option maxHeartbeats 1000000
set_option linter.unusedSimpArgs false
set_option linter.unusedVariables false

noncomputable def knB (ss : List Sec) (name cl : ByteArray) : Bool := wdB ss (bst ss cl name) && nameB cl
theorem known_any (lo g tb : Nat) (name : ByteArray) (tries : Int) (ss : List Sec) (s : SvS) (cl : ByteArray) (w : World) (h : SvAt w lo g tb name tries ss s) (hcl : cl.size ≤ maxLen) (hnm : name.size ≤ maxLen) :
    Calls Tryd.prog 72 #[.pointer (some ⟨g, 0, none⟩), .string cl] w fun e w' => e = .returned (.bool (knB ss name cl)) ∧ Below w.heap.size w w' := by
  obtain ⟨D0, k0, d0, hb, ho⟩ := h.blk
  have c0 : w.cell? ⟨g, 0, none⟩ = some (.string name) := hb.cell 0
  have c1 : w.cell? ⟨g, 1, none⟩ = some (.pointer (some ⟨tb, 0, none⟩)) := hb.cell 1
  obtain ⟨wd, hwd⟩ : ∃ wd, wdS ss (bst ss cl name) = wd := ⟨_, rfl⟩
  obtain ⟨ok, hok⟩ : ∃ ok, wdB ss (bst ss cl name) = ok := ⟨_, rfl⟩
  obtain ⟨nb, hnb⟩ : ∃ nb, nameB cl = nb := ⟨_, rfl⟩
  have C : Hid (∀ W, Below w.heap.size w W → Calls Tryd.prog 98 #[.pointer (some ⟨tb, 0, none⟩), .string cl, .string name] W fun e w1 => e = .returned (.tuple #[.string wd, .bool ok]) ∧ w1.cell? ⟨g, 0, none⟩ = some (.string name) ∧ w1.cell? ⟨g, 1, none⟩ = some (.pointer (some ⟨tb, 0, none⟩)) ∧ Below w.heap.size w w1) := by
    intro W hW
    have hs := h.later hW
    have WO := wordOf_any tb ss cl name W (tabL_at hs.tab (Nat.le_of_lt hs.lt)) hcl hnm
    unfold WordR at WO
    rw [hwd, hok] at WO
    refine WO.mono ?_
    rintro e w1 ⟨rfl, b1⟩
    have hb1 := past_same (past_same hb hW) b1
    exact ⟨rfl, hb1.cell 0, hb1.cell 1, step_to hW b1⟩
  have NM := Lib.hid (fun W => name_any cl W hcl)
  rw [hnb] at NM
  unfold knB
  rw [hok, hnb]
  have lg := h.lt
  have HA := Lib.hid (Below.refl w.heap.size w)
  have HA1 : Hid (Below w.heap.size w w.drew) := below_drewS (Below.refl w.heap.size w) 1
  clear h hb ho hcl hnm hwd hok hnb
  cases ok
  all_goals
    go_enter Tryd.func72, Tryd.ntmps72
    go_upto_region 1 with (fail)
    go_region_held3 (fun w' => w'.cell? ⟨g, 0, none⟩ = some (.string name) ∧ w'.cell? ⟨g, 1, none⟩ = some (.pointer (some ⟨tb, 0, none⟩))) (go_keep) (first
      | (go_at_call 98; ((with_reducible first | refine (C.out _ HA1.out).mono ?_ | refine (C.out _ HA.out).mono ?_); rintro e w1 ⟨rfl, z0, z1, b1⟩; have B1 := Lib.hid b1; clear b1)))
    all_goals
      go_wp2_with (go_at_call 46; ((with_reducible refine (NM.out _).mono ?_); rintro e w' ⟨rfl, rfl⟩))
      go_ret
      exact ⟨rfl, B1.out⟩
/-- is it what is due? -/
noncomputable def pvB (ss : List Sec) (name : ByteArray) (s : SvS) (ch val : List UInt8) : Bool := wdB ss (bst ss s.cl name) && decide (val = digL s.li (wdS ss (bst ss s.cl name)) ch)
theorem proved_any (lo g tb : Nat) (name : ByteArray) (tries : Int) (ss : List Sec) (s : SvS) (A : Option Addr) (n c B : Nat) (val ch : List UInt8) (w : World) (h : SvAt w lo g tb name tries ss s) (ok : SvOk s) (hL : s.L.length ≤ 140737488351232) (hcl : s.cl.size ≤ maxLen) (hnm : name.size ≤ maxLen)
    (hr : Rd w B A n val) (hB : B ≤ w.heap.size) (hn : n ≤ maxLen) (he : rdE s.lc s.li s.L = 0) (hv : krV s.lc (rdT s.lc s.L) (rdR s.lc s.L) = ch) (hch : ch.length ≤ 35184372088832) :
    Calls Tryd.prog 73 #[.pointer (some ⟨g, 0, none⟩), .slice A n c] w fun e w' => e = .returned (.bool (pvB ss name s ch val)) ∧ Below w.heap.size w w' := by
  obtain ⟨D0, k0, d0, hb, ho⟩ := h.blk
  have ro := own_rd ho
  have lg := h.lt
  have c4 : w.cell? ⟨g, 4, none⟩ = some (.int .i64 s.lc) := hb.cell 4
  have c5 : w.cell? ⟨g, 5, none⟩ = some (.int .i64 s.li) := hb.cell 5
  have c6 : w.cell? ⟨g, 6, none⟩ = some (.slice D0 k0 d0) := hb.cell 6
  have RD := eread_any s.lc s.li D0 k0 d0 w.heap.size s.L w ro.1 (Nat.le_refl _) (by have := ro.1.1; omega)
  rw [he, hv] at RD
  obtain ⟨T, hT⟩ : ∃ T, rdT s.lc s.L = T := ⟨_, rfl⟩
  rw [hT] at RD
  obtain ⟨tx, htx⟩ : ∃ tx, krS s.lc T (rdR s.lc s.L) = tx := ⟨_, rfl⟩
  rw [htx] at RD
  unfold pvB
  obtain ⟨wb, hwb⟩ : ∃ wb, wdB ss (bst ss s.cl name) = wb := ⟨_, rfl⟩
  obtain ⟨dg, hdg⟩ : ∃ dg, digL s.li (wdS ss (bst ss s.cl name)) ch = dg := ⟨_, rfl⟩
  have hdl : dg.length = 16 := by rw [← hdg, digL_length]
  rw [hwb, hdg]
  have C : Hid (Calls Tryd.prog 11 #[.agg #[.int .i64 s.lc, .int .i64 s.li, .slice D0 k0 d0]] w fun e w1 => ∃ D1 k1 d1, e = .returned (.tuple #[.agg #[.int .i64 s.lc, .int .i64 s.li, .int .i64 T, .slice D1 k1 d1, .string tx], .int .i64 0]) ∧
      ∃ V1, w1.alloc (.cells #[.int .i64 s.lc, .int .i64 s.li, .int .i64 T, .slice D1 k1 d1, .string tx] 26) = V1 ∧ Blk V1 w1.heap.size 26 [.int .i64 s.lc, .int .i64 s.li, .int .i64 T, .slice D1 k1 d1, .string tx] ∧ Blk V1 g 95 (svC name tb tries s.st s.lc s.li (.slice D0 k0 d0) s.tried s.cl s.who) ∧
      ∀ W, Below V1.heap.size V1 W → Calls Tryd.prog 99 #[.pointer (some ⟨tb, 0, none⟩), .string s.cl, .string name, .int .i64 s.li, .slice D1 k1 d1] W fun e w3 => ∃ D3 k3 d3, e = .returned (.tuple #[.slice D3 k3 d3, .bool wb]) ∧ Blk w3 w1.heap.size 26 [.int .i64 s.lc, .int .i64 s.li, .int .i64 T, .slice D1 k1 d1, .string tx] ∧ Blk w3 g 95 (svC name tb tries s.st s.lc s.li (.slice D0 k0 d0) s.tried s.cl s.who) ∧ Below w.heap.size w w3 ∧
        (wb = true → Calls Tryd.prog 100 #[.slice A n c, .slice D3 k3 d3] w3 fun e w4 => e = .returned (.bool (decide (val = dg))) ∧ Below w.heap.size w w4)) := by
    refine RD.mono ?_
    rintro e w1 ⟨b1, D1, k1, d1, he1, o1⟩
    simp only [if_true] at he1 o1
    subst he1
    obtain ⟨V1, hV1⟩ : ∃ V1, w1.alloc (.cells #[.int .i64 s.lc, .int .i64 s.li, .int .i64 T, .slice D1 k1 d1, .string tx] 26) = V1 := ⟨_, rfl⟩
    have bV : Below w1.heap.size w1 V1 := by rw [← hV1]; exact (Below.refl _ _).alloc (Nat.le_refl _) _
    have n1 : Blk V1 w1.heap.size 26 [.int .i64 s.lc, .int .i64 s.li, .int .i64 T, .slice D1 k1 d1, .string tx] := by rw [← hV1]; exact heap_alloc_new w1 _
    have BV := step_to b1 bV
    have g1 := past_same hb BV
    refine ⟨D1, k1, d1, rfl, V1, hV1, n1, g1, fun W hW => ?_⟩
    have BW := step_to BV hW
    have oW := own_rd ((o1.later bV).later hW)
    have hsW := h.later BW
    have DU := due_any tb ss s.cl name s.li D1 k1 d1 W.heap.size ch W (tabL_at hsW.tab (Nat.le_of_lt hsW.lt)) hcl hnm ok.i0 ok.i1 oW.1 (Nat.le_refl _) oW.2.2 (by have := oW.1.1; omega) hsW.tk hsW.ts
    rw [hwb, hdg] at DU
    refine DU.mono ?_
    rintro e w3 ⟨b3, D3, k3, d3, rfl, r3, _, _⟩
    have B3 := step_to BW b3
    refine ⟨D3, k3, d3, rfl, past_same (past_same n1 hW) b3, past_same hb B3, B3, fun hw => ?_⟩
    rw [hw, if_pos rfl] at r3
    have hk3 := r3.1
    refine (equal_any A D3 n k3 c d3 w3.heap.size val dg w3 ((hr.below (B3.mono hB)).wide (Nat.le_trans hB B3.size)) r3 hn (by unfold maxLen; omega)).mono ?_
    rintro e w4 ⟨rfl, q, rfl⟩
    exact ⟨rfl, below_drewS B3 q⟩
  clear RD hb ho ro h ok hL hcl hnm hr hB hn he hv hch hT htx hwb hdg hdl
  cases wb
  all_goals
    go_enter Tryd.func73, Tryd.ntmps73
    go_upto_region 2 with (first
      | (go_at_call 11; ((with_reducible refine C.out.mono ?_); rintro e w1 ⟨D1, k1, d1, rfl, V1, hV1, n1, g1, n2⟩; have HV1 := Lib.hid hV1; have C1 := Lib.hid n2; have q1 := n1.cell 1; have q3 := n1.cell 3; have l1 := Blk.lt n1; have lg1 := Blk.lt g1; have u0 : V1.cell? ⟨g, 0, none⟩ = some (.string name) := g1.cell 0; have u1 : V1.cell? ⟨g, 1, none⟩ = some (.pointer (some ⟨tb, 0, none⟩)) := g1.cell 1; have u8 : V1.cell? ⟨g, 8, none⟩ = some (.string s.cl) := g1.cell 8; clear hV1 n1 g1 n2))
      | (rw [HV1.out]))
    have HB := Lib.hid (Below.refl V1.heap.size V1)
    have HB1 : Hid (Below V1.heap.size V1 V1.drew) := below_drewS (Below.refl V1.heap.size V1) 1
    go_region_held3 (fun w' => w'.cell? ⟨g, 0, none⟩ = some (.string name) ∧ w'.cell? ⟨g, 1, none⟩ = some (.pointer (some ⟨tb, 0, none⟩)) ∧ w'.cell? ⟨g, 8, none⟩ = some (.string s.cl) ∧ w'.cell? ⟨w1.heap.size, 1, none⟩ = some (.int .i64 s.li) ∧ w'.cell? ⟨w1.heap.size, 3, none⟩ = some (.slice D1 k1 d1)) (go_keep) (first
      | (go_at_call 99; ((with_reducible first | refine (C1.out _ HB1.out).mono ?_ | refine (C1.out _ HB.out).mono ?_); rintro e w3 ⟨D3, k3, d3, rfl, k1, k2, b3, n3⟩; have j0 : w3.cell? ⟨g, 0, none⟩ = some (.string name) := k2.cell 0; have j1 : w3.cell? ⟨g, 1, none⟩ = some (.pointer (some ⟨tb, 0, none⟩)) := k2.cell 1; have j8 : w3.cell? ⟨g, 8, none⟩ = some (.string s.cl) := k2.cell 8; have s1 := k1.cell 1; have s3 := k1.cell 3; have B3 := Lib.hid b3; have C3 := Lib.hid n3; clear k1 k2 b3 n3)))
    all_goals
      go_wp2_with (go_at_call 100; ((with_reducible refine (C3.out trivial).mono ?_); rintro e w4 ⟨rfl, b4⟩; have B4 := Lib.hid b4; clear b4))
      go_ret
      first
        | exact ⟨rfl, B4.out⟩
        | exact ⟨rfl, B3.out⟩
end Go.Proofs.YtjimoegegigoiaaDoor
namespace Go.Proofs.YtjimoegegigoiaaDoor
open Go.RowKit Go.Shelf
set_option maxRecDepth 100000
set_option maxHeartbeats 1000000
set_option linter.unusedSimpArgs false
set_option linter.unusedVariables false

/-- a packet, and what an authenticator is then -/
def PkS (w : World) (lo g tb : Nat) (name : ByteArray) (tries : Int) (ss : List Sec) (s : SvS) (C I : Int) (l : List UInt8) (e : Ending) (w' : World) : Prop :=
  ∃ D k d, e = .returned (.agg #[.int .i64 C, .int .i64 I, .slice D k d]) ∧ Own w' w.heap.size (.slice D k d) l ∧ w.grownBy w' (some g) ∧ SvAt w' lo g tb name tries ss s
theorem AskR.pk {w : World} {lo g tb : Nat} {name : ByteArray} {tries : Int} {ss : List Sec} {s : SvS} {e : Ending} {w' : World} (h : AskR w lo g tb name tries ss s e w') : PkS w lo g tb name tries ss s s.lc s.li s.L e w' := by
  obtain ⟨D, k, d, h1, h2, h3, h4, _⟩ := h
  exact ⟨D, k, d, h1, h2, h3, h4⟩
def fnS (s : SvS) (z : Int) (r : ByteArray) : SvS := { s with st := z, who := r }
/-- how a judgement ends that asks nothing more -/
theorem fin_end {w W1 : World} {lo g tb : Nat} {name : ByteArray} {tries : Int} {ss : List Sec} {s : SvS} (h : SvAt w lo g tb name tries ss s) (B1 : Below w.heap.size w W1) (hp : Blk W1 w.heap.size 24 [.int .i64 0, .int .i64 0, .slice none 0 0]) (z x y : Int) (r : ByteArray) :
    ∃ X, (W1.setCell ⟨g, 3, none⟩ (.int .i64 z)).setCell ⟨g, 9, none⟩ (.string r) = X ∧ Blk X w.heap.size 24 [.int .i64 0, .int .i64 0, .slice none 0 0] ∧ X.cell? ⟨g, 5, none⟩ = some (.int .i64 s.li) ∧ Below (w.heap.size + 1) W1 W1 ∧
      (∀ i t cs, i ≠ g → Blk W1 i t cs → Blk X i t cs) ∧
      ∀ W', X.grownBy W' (some w.heap.size) → PkS w lo g tb name tries ss (fnS s z r) x y [] (.returned (.agg #[.int .i64 x, .int .i64 y, .slice none 0 0])) W' := by
  obtain ⟨D0, k0, d0, hb, ho⟩ := h.blk
  have lg := h.lt
  obtain ⟨X, hX⟩ : ∃ X, (W1.setCell ⟨g, 3, none⟩ (.int .i64 z)).setCell ⟨g, 9, none⟩ (.string r) = X := ⟨_, rfl⟩
  have gX : W1.grownBy X (some g) := by
    rw [← hX]
    exact gtrans' (gset' _ _ _ _) (gset' _ _ _ _)
  have h1 := past_same hb B1
  have kX : Blk X g 95 (svC name tb tries z s.lc s.li (.slice D0 k0 d0) s.tried s.cl r) := by
    rw [← hX]
    exact (h1.set_ 3 _).set_ 9 _
  have pX := blk_off hp gX (by omega)
  have hob := ho.block
  have hne : (Value.slice D0 k0 d0).ownBlock = none ∨ (Value.slice D0 k0 d0).ownBlock ≠ some g := .inr fun e => by have := (hob _ e).1; omega
  have oX := (ho.later B1).grown gX hne
  refine ⟨X, hX, pX, kX.cell 5, Below.refl _ _, fun i t cs hi hk => blk_off hk gX hi, fun W' hW => ?_⟩
  have G : w.grownBy W' (some g) := grown_new (gtrans' (below_some B1) gX) hW
  have hne2 : (Value.slice D0 k0 d0).ownBlock = none ∨ (Value.slice D0 k0 d0).ownBlock ≠ some w.heap.size := .inr fun e => by have := (hob _ e).2; omega
  exact ⟨none, 0, 0, rfl, Own.nil _ _, G, h.row G ⟨D0, k0, d0, blk_off kX hW (by omega), oX.grown hW hne2⟩⟩
theorem zero_id (W : World) : (zeroValue 122).run Tryd.prog W = .ok (.agg #[.int .i64 0, .int .i64 0, .int .i64 0, .slice none 0 0, .string ⟨#[]⟩]) W := by kernel_rfl
theorem zero_pf (W : World) : (zeroValue 125).run Tryd.prog W = .ok (.agg #[.int .i64 0, .int .i64 0, .int .i64 0, .slice none 0 0, .string ⟨#[]⟩]) W := by kernel_rfl
theorem ta_id (v : Value) (W : World) : (Instr.typeAssert (.iface 122 v) 87 122 true).run Tryd.prog W = .ok (.tuple #[v, .bool true]) W := by
  simp [Instr.typeAssert, run_underlying Tryd.underlying122, go_sem, Result.andThen]
theorem ta_pf (v : Value) (W : World) : (Instr.typeAssert (.iface 125 v) 87 125 true).run Tryd.prog W = .ok (.tuple #[v, .bool true]) W := by
  simp [Instr.typeAssert, run_underlying Tryd.underlying125, go_sem, Result.andThen]
theorem ta_id_no (t : Nat) (ht : t ≠ 122) (v : Value) (W : World) : (Instr.typeAssert (.iface t v) 87 122 true).run Tryd.prog W = .ok (.tuple #[.agg #[.int .i64 0, .int .i64 0, .int .i64 0, .slice none 0 0, .string ⟨#[]⟩], .bool false]) W := by
  simp [Instr.typeAssert, run_underlying Tryd.underlying122, go_sem, Result.andThen, ht, zero_id]
theorem ta_pf_no (t : Nat) (ht : t ≠ 125) (v : Value) (W : World) : (Instr.typeAssert (.iface t v) 87 125 true).run Tryd.prog W = .ok (.tuple #[.agg #[.int .i64 0, .int .i64 0, .int .i64 0, .slice none 0 0, .string ⟨#[]⟩], .bool false]) W := by
  simp [Instr.typeAssert, run_underlying Tryd.underlying125, go_sem, Result.andThen, ht, zero_pf]
/-- neither a name nor a proof -/
theorem judge_other (lo g tb : Nat) (name : ByteArray) (tries : Int) (ss : List Sec) (s : SvS) (kt : Nat) (v : Value) (A2 : Option Addr) (n2 c2 : Nat) (w : World) (h : SvAt w lo g tb name tries ss s) (h1 : kt ≠ 122) (h2 : kt ≠ 125) :
    Calls Tryd.prog 50 #[.pointer (some ⟨g, 0, none⟩), .iface kt v, .slice A2 n2 c2] w (PkS w lo g tb name tries ss (fnS s 4 ⟨#[]⟩) 4 s.li []) := by
  obtain ⟨D0, k0, d0, hb, ho⟩ := h.blk
  have lg := h.lt
  obtain ⟨V, hV⟩ : ∃ V, w.alloc (.cells #[.int .i64 0, .int .i64 0, .slice none 0 0] 24) = V := ⟨_, rfl⟩
  have bV : Below w.heap.size w V := by rw [← hV]; exact (Below.refl _ _).alloc (Nat.le_refl _) _
  have k0 : Blk V w.heap.size 24 [.int .i64 0, .int .i64 0, .slice none 0 0] := by rw [← hV]; exact heap_alloc_new w _
  obtain ⟨X, hX, pX, c5, -, -, FN⟩ := fin_end h bV k0 4 4 s.li ⟨#[]⟩
  have hgV := past_same hb bV
  have lg2 := Blk.lt hgV
  have u3 : V.cell? ⟨g, 3, none⟩ = some (.int .i64 s.st) := hgV.cell 3
  have u9 : V.cell? ⟨g, 9, none⟩ = some (.string s.who) := hgV.cell 9
  have f3 := hgV.frozen 3
  have f9 := hgV.frozen 9
  have r0 := pX.cell 0
  have r1 := pX.cell 1
  have r2 := pX.cell 2
  have e0 := pX.frozen 0
  have e1 := pX.frozen 1
  have e2 := pX.frozen 2
  have lr := Blk.lt pX
  have hb4 := blk3 (x := .int .i64 4) (y := .int .i64 s.li) (z := .slice none 0 0) pX
  have p0 := hb4.cell 0
  have p1 := hb4.cell 1
  have p2 := hb4.cell 2
  have T1 := fun W => ta_id_no kt h1 v W
  have T2 := fun W => ta_pf_no kt h2 v W
  have HV := Lib.hid hV
  have HX := Lib.hid hX
  have FNH := Lib.hid FN
  clear hV bV k0 hX pX FN hgV hb4 h hb ho h1 h2
  go_enter Tryd.func50, Tryd.ntmps50
  go_wp2_with (first
    | (rw [HV.out])
    | (rw [HX.out]))
  exact bodyPost_ret (v := .agg #[.int .i64 4, .int .i64 s.li, .slice none 0 0]) (by simp [results, Tryd.results50, go_sem, p0, p1, p2]) rfl (FNH.out _ (gset3 _ _ _ _ _))
/-- a name that is not asked for, or nobody's -/
theorem judge_id_no (lo g tb : Nat) (name : ByteArray) (tries : Int) (ss : List Sec) (s : SvS) (C I : Int) (A : Option Addr) (n c : Nat) (t : ByteArray) (A2 : Option Addr) (n2 c2 : Nat) (w : World) (h : SvAt w lo g tb name tries ss s) (ht : t.size ≤ maxLen) (hnm : name.size ≤ maxLen)
    (hno : ¬ (s.st = 1 ∧ knB ss name t = true ∧ chB n2 = true)) :
    Calls Tryd.prog 50 #[.pointer (some ⟨g, 0, none⟩), .iface 122 (msV C I 1 A n c t), .slice A2 n2 c2] w (PkS w lo g tb name tries ss (fnS s 4 ⟨#[]⟩) 4 s.li []) := by
  obtain ⟨D0, k0, d0, hb, ho⟩ := h.blk
  have lg := h.lt
  obtain ⟨V, hV⟩ : ∃ V, w.alloc (.cells #[.int .i64 0, .int .i64 0, .slice none 0 0] 24) = V := ⟨_, rfl⟩
  have bV : Below w.heap.size w V := by rw [← hV]; exact (Below.refl _ _).alloc (Nat.le_refl _) _
  have q0 : Blk V w.heap.size 24 [.int .i64 0, .int .i64 0, .slice none 0 0] := by rw [← hV]; exact heap_alloc_new w _
  obtain ⟨U, hU⟩ : ∃ U, V.alloc (.cells #[.int .i64 C, .int .i64 I, .int .i64 1, .slice A n c, .string t] 122) = U := ⟨_, rfl⟩
  have bU : Below V.heap.size V U := by rw [← hU]; exact (Below.refl _ _).alloc (Nat.le_refl _) _
  have qU : Blk U V.heap.size 122 [.int .i64 C, .int .i64 I, .int .i64 1, .slice A n c, .string t] := by rw [← hU]; exact heap_alloc_new V _
  have BU := step_to bV bU
  have hp := past_same q0 bU
  have hgU := past_same hb BU
  have u3 : U.cell? ⟨g, 3, none⟩ = some (.int .i64 s.st) := hgU.cell 3
  have x4 : U.cell? ⟨V.heap.size, 4, none⟩ = some (.string t) := qU.cell 4
  have TA := fun W => ta_id (msV C I 1 A n c t) W
  have HV := Lib.hid hV
  have HU := Lib.hid hU
  have CR := Lib.hid (fun W => challengeRight_any A2 n2 c2 W)
  by_cases h3 : s.st = 1
  · have e3 : (s.st == 1) = true := by simpa using h3
    have KN := known_any lo g tb name tries ss s t U (h.later BU) ht hnm
    cases hk : knB ss name t
    · rw [hk] at KN
      have C1 : Hid (Calls Tryd.prog 72 #[.pointer (some ⟨g, 0, none⟩), .string t] U fun e w1 => e = .returned (.bool false) ∧ Blk w1 g 95 (svC name tb tries s.st s.lc s.li (.slice D0 k0 d0) s.tried s.cl s.who) ∧
          ∃ X, (w1.setCell ⟨g, 3, none⟩ (.int .i64 4)).setCell ⟨g, 9, none⟩ (.string ⟨#[]⟩) = X ∧ Blk X w.heap.size 24 [.int .i64 0, .int .i64 0, .slice none 0 0] ∧ X.cell? ⟨g, 5, none⟩ = some (.int .i64 s.li) ∧
          ∀ W', X.grownBy W' (some w.heap.size) → PkS w lo g tb name tries ss (fnS s 4 ⟨#[]⟩) 4 s.li [] (.returned (.agg #[.int .i64 4, .int .i64 s.li, .slice none 0 0])) W') := by
        refine KN.mono ?_
        rintro e w1 ⟨rfl, b1⟩
        have B1 := step_to BU b1
        obtain ⟨X, hX, pX, c5, -, -, FN⟩ := fin_end h B1 (past_same hp b1) 4 4 s.li ⟨#[]⟩
        exact ⟨rfl, past_same hb B1, X, hX, pX, c5, FN⟩
      clear hV bV q0 hU bU qU BU hp hgU KN hk hno h3 h hb ho ht hnm
      go_enter Tryd.func50, Tryd.ntmps50
      go_wp2_with (first
        | (rw [HV.out])
        | (rw [HU.out])
        | (go_at_call 72; ((with_reducible refine C1.out.mono ?_); rintro e w1 ⟨rfl, g1, X, hX, pX, c5, FN⟩; have lg1 := Blk.lt g1; have y3 : w1.cell? ⟨g, 3, none⟩ = some (.int .i64 s.st) := g1.cell 3; have y9 : w1.cell? ⟨g, 9, none⟩ = some (.string s.who) := g1.cell 9; have f3 := g1.frozen 3; have f9 := g1.frozen 9; have HX := Lib.hid hX; have r0 := pX.cell 0; have r1 := pX.cell 1; have r2 := pX.cell 2; have e0 := pX.frozen 0; have e1 := pX.frozen 1; have e2 := pX.frozen 2; have lr := Blk.lt pX; have PX := Lib.hid pX; have FNH := Lib.hid FN; clear g1 hX pX FN))
        | (rw [HX.out]))
      have hb4 := blk3 (x := .int .i64 4) (y := .int .i64 s.li) (z := .slice none 0 0) PX.out
      have p0 := hb4.cell 0
      have p1 := hb4.cell 1
      have p2 := hb4.cell 2
      exact bodyPost_ret (v := .agg #[.int .i64 4, .int .i64 s.li, .slice none 0 0]) (by simp [results, Tryd.results50, go_sem, p0, p1, p2]) rfl (FNH.out _ (gset3 _ _ _ _ _))
    · have hc : chB n2 = false := by
        cases hc : chB n2
        · rfl
        · exact absurd ⟨h3, hk, hc⟩ hno
      rw [hk] at KN
      rw [hc] at CR
      have C1 : Hid (Calls Tryd.prog 72 #[.pointer (some ⟨g, 0, none⟩), .string t] U fun e w1 => e = .returned (.bool true) ∧ Blk w1 g 95 (svC name tb tries s.st s.lc s.li (.slice D0 k0 d0) s.tried s.cl s.who) ∧
          ∃ X, (w1.setCell ⟨g, 3, none⟩ (.int .i64 4)).setCell ⟨g, 9, none⟩ (.string ⟨#[]⟩) = X ∧ Blk X w.heap.size 24 [.int .i64 0, .int .i64 0, .slice none 0 0] ∧ X.cell? ⟨g, 5, none⟩ = some (.int .i64 s.li) ∧
          ∀ W', X.grownBy W' (some w.heap.size) → PkS w lo g tb name tries ss (fnS s 4 ⟨#[]⟩) 4 s.li [] (.returned (.agg #[.int .i64 4, .int .i64 s.li, .slice none 0 0])) W') := by
        refine KN.mono ?_
        rintro e w1 ⟨rfl, b1⟩
        have B1 := step_to BU b1
        obtain ⟨X, hX, pX, c5, -, -, FN⟩ := fin_end h B1 (past_same hp b1) 4 4 s.li ⟨#[]⟩
        exact ⟨rfl, past_same hb B1, X, hX, pX, c5, FN⟩
      clear hV bV q0 hU bU qU BU hp hgU KN hk hno h3 h hb ho ht hnm hc
      go_enter Tryd.func50, Tryd.ntmps50
      go_wp2_with (first
        | (rw [HV.out])
        | (rw [HU.out])
        | (go_at_call 72; ((with_reducible refine C1.out.mono ?_); rintro e w1 ⟨rfl, g1, X, hX, pX, c5, FN⟩; have lg1 := Blk.lt g1; have y3 : w1.cell? ⟨g, 3, none⟩ = some (.int .i64 s.st) := g1.cell 3; have y9 : w1.cell? ⟨g, 9, none⟩ = some (.string s.who) := g1.cell 9; have f3 := g1.frozen 3; have f9 := g1.frozen 9; have HX := Lib.hid hX; have r0 := pX.cell 0; have r1 := pX.cell 1; have r2 := pX.cell 2; have e0 := pX.frozen 0; have e1 := pX.frozen 1; have e2 := pX.frozen 2; have lr := Blk.lt pX; have PX := Lib.hid pX; have FNH := Lib.hid FN; clear g1 hX pX FN))
        | (go_at_call 55; ((with_reducible refine (CR.out _).mono ?_); rintro e w' ⟨rfl, rfl⟩))
        | (rw [HX.out]))
      have hb4 := blk3 (x := .int .i64 4) (y := .int .i64 s.li) (z := .slice none 0 0) PX.out
      have p0 := hb4.cell 0
      have p1 := hb4.cell 1
      have p2 := hb4.cell 2
      exact bodyPost_ret (v := .agg #[.int .i64 4, .int .i64 s.li, .slice none 0 0]) (by simp [results, Tryd.results50, go_sem, p0, p1, p2]) rfl (FNH.out _ (gset3 _ _ _ _ _))
  · have e3 : (s.st == 1) = false := by simpa using h3
    obtain ⟨X, hX, pX, c5, -, -, FN⟩ := fin_end h BU hp 4 4 s.li ⟨#[]⟩
    have lg1 := Blk.lt hgU
    have y9 : U.cell? ⟨g, 9, none⟩ = some (.string s.who) := hgU.cell 9
    have f3 := hgU.frozen 3
    have f9 := hgU.frozen 9
    have HX := Lib.hid hX
    have r0 := pX.cell 0
    have r1 := pX.cell 1
    have r2 := pX.cell 2
    have e0 := pX.frozen 0
    have e1 := pX.frozen 1
    have e2 := pX.frozen 2
    have lr := Blk.lt pX
    have hb4 := blk3 (x := .int .i64 4) (y := .int .i64 s.li) (z := .slice none 0 0) pX
    have p0 := hb4.cell 0
    have p1 := hb4.cell 1
    have p2 := hb4.cell 2
    have FNH := Lib.hid FN
    clear hV bV q0 hU bU qU BU hp hgU hno h3 h hb ho ht hnm hX pX FN hb4
    go_enter Tryd.func50, Tryd.ntmps50
    go_wp2_with (first
      | (rw [HV.out])
      | (rw [HU.out])
      | (rw [HX.out]))
    exact bodyPost_ret (v := .agg #[.int .i64 4, .int .i64 s.li, .slice none 0 0]) (by simp [results, Tryd.results50, go_sem, p0, p1, p2]) rfl (FNH.out _ (gset3 _ _ _ _ _))
end Go.Proofs.YtjimoegegigoiaaDoor
namespace Go.Proofs.YtjimoegegigoiaaDoor
open Go.RowKit Go.Shelf
set_option maxRecDepth 100000
set_option maxHeartbeats 1000000
set_option linter.unusedSimpArgs false
set_option linter.unusedVariables false

/-- somebody who has a word is asked for the proof -/
theorem judge_id_yes (lo g tb : Nat) (name : ByteArray) (tries : Int) (ss : List Sec) (s : SvS) (C I : Int) (A : Option Addr) (n c : Nat) (t : ByteArray) (A2 : Option Addr) (n2 c2 B : Nat) (chal : List UInt8) (w : World) (h : SvAt w lo g tb name tries ss s) (ok : SvOk s) (ht : t.size ≤ maxLen) (hnm : name.size ≤ 64)
    (hr : Rd w B A2 n2 chal) (hB : B ≤ w.heap.size) (hnil : A2 = none → c2 = 0) (h3 : s.st = 1) (hk : knB ss name t = true) (hc : chB n2 = true) :
    Calls Tryd.prog 50 #[.pointer (some ⟨g, 0, none⟩), .iface 122 (msV C I 1 A n c t), .slice A2 n2 c2] w (PkS w lo g tb name tries ss (askS { s with cl := t } 2 (dtL 1 4 chal name)) 1 ((s.li + 1) % 256) (dtL 1 4 chal name)) := by
  obtain ⟨D0, k0, d0, hb, ho⟩ := h.blk
  have lg := h.lt
  obtain ⟨V, hV⟩ : ∃ V, w.alloc (.cells #[.int .i64 0, .int .i64 0, .slice none 0 0] 24) = V := ⟨_, rfl⟩
  have bV : Below w.heap.size w V := by rw [← hV]; exact (Below.refl _ _).alloc (Nat.le_refl _) _
  have q0 : Blk V w.heap.size 24 [.int .i64 0, .int .i64 0, .slice none 0 0] := by rw [← hV]; exact heap_alloc_new w _
  obtain ⟨U, hU⟩ : ∃ U, V.alloc (.cells #[.int .i64 C, .int .i64 I, .int .i64 1, .slice A n c, .string t] 122) = U := ⟨_, rfl⟩
  have bU : Below V.heap.size V U := by rw [← hU]; exact (Below.refl _ _).alloc (Nat.le_refl _) _
  have qU : Blk U V.heap.size 122 [.int .i64 C, .int .i64 I, .int .i64 1, .slice A n c, .string t] := by rw [← hU]; exact heap_alloc_new V _
  have BU := step_to bV bU
  have hp := past_same q0 bU
  have hgU := past_same hb BU
  have u3 : U.cell? ⟨g, 3, none⟩ = some (.int .i64 s.st) := hgU.cell 3
  have lV := Blk.lt q0
  have x4 : U.cell? ⟨V.heap.size, 4, none⟩ = some (.string t) := qU.cell 4
  have TA := fun W => ta_id (msV C I 1 A n c t) W
  have HV := Lib.hid hV
  have HU := Lib.hid hU
  have CR := Lib.hid (fun W => challengeRight_any A2 n2 c2 W)
  have e3 : (s.st == 1) = true := by simpa using h3
  have KN := known_any lo g tb name tries ss s t U (h.later BU) ht (by unfold maxLen; omega)
  rw [hk] at KN
  rw [hc] at CR
  obtain ⟨s', hs'⟩ : ∃ s', askS { s with cl := t } 2 (dtL 1 4 chal name) = s' := ⟨_, rfl⟩
  obtain ⟨i', hi'⟩ : ∃ i', (s.li + 1) % 256 = i' := ⟨_, rfl⟩
  obtain ⟨L, hL⟩ : ∃ L, dtL 1 4 chal name = L := ⟨_, rfl⟩
  have C1 : Hid (Calls Tryd.prog 72 #[.pointer (some ⟨g, 0, none⟩), .string t] U fun e w1 => e = .returned (.bool true) ∧ Blk w1 g 95 (svC name tb tries s.st s.lc s.li (.slice D0 k0 d0) s.tried s.cl s.who) ∧ w1.cell? ⟨V.heap.size, 4, none⟩ = some (.string t) ∧
      ∃ Y, w1.setCell ⟨g, 8, none⟩ (.string t) = Y ∧ Calls Tryd.prog 56 #[.pointer (some ⟨g, 0, none⟩), .slice A2 n2 c2] Y fun e w3 => ∃ x y D k d, e = .returned (.agg #[.int .i64 x, .int .i64 y, .slice D k d]) ∧ Blk w3 w.heap.size 24 [.int .i64 0, .int .i64 0, .slice none 0 0] ∧
        ∀ W', w3.grownBy W' (some w.heap.size) → PkS w lo g tb name tries ss s' 1 i' L (.returned (.agg #[.int .i64 x, .int .i64 y, .slice D k d])) W') := by
    refine KN.mono ?_
    rintro e w1 ⟨rfl, b1⟩
    have B1 := step_to BU b1
    have g1 := past_same hb B1
    obtain ⟨Y, hY⟩ : ∃ Y, w1.setCell ⟨g, 8, none⟩ (.string t) = Y := ⟨_, rfl⟩
    have gY : w1.grownBy Y (some g) := by rw [← hY]; exact gset' _ _ _ _
    have kY : Blk Y g 95 (svC name tb tries s.st s.lc s.li (.slice D0 k0 d0) s.tried t s.who) := by
      rw [← hY]
      exact g1.set_ 8 _
    have GY : w.grownBy Y (some g) := gtrans' (below_some B1) gY
    have pY := blk_off (past_same hp b1) gY (by omega)
    have zY := Blk.lt pY
    have hob := ho.block
    have hne : (Value.slice D0 k0 d0).ownBlock = none ∨ (Value.slice D0 k0 d0).ownBlock ≠ some g := .inr fun e => by have := (hob _ e).1; omega
    have hY2 : SvAt Y lo g tb name tries ss { s with cl := t } := h.row GY ⟨D0, k0, d0, kY, (ho.later B1).grown gY hne⟩
    have rY : Rd Y Y.heap.size A2 n2 chal := by
      refine (Rd.wide ?_ (Nat.le_trans hB GY.size))
      refine ⟨hr.1, fun h0 => ?_⟩
      obtain ⟨b, off, rfl, hlt, hcc⟩ := hr.2 h0
      have hbg : b ≠ g := by
        rintro rfl
        have h1 := hcc 0 h0
        rw [hb.cell] at h1
        have : ∀ o : Nat, (svC name tb tries s.st s.lc s.li (.slice D0 k0 d0) s.tried s.cl s.who)[o]? ≠ some (.int .u8 (byteAt chal 0)) := by
          intro o
          rcases (show o = 0 ∨ o = 1 ∨ o = 2 ∨ o = 3 ∨ o = 4 ∨ o = 5 ∨ o = 6 ∨ o = 7 ∨ o = 8 ∨ o = 9 ∨ 10 ≤ o by omega) with rfl | rfl | rfl | rfl | rfl | rfl | rfl | rfl | rfl | rfl | h2
          all_goals first
            | (rw [List.getElem?_eq_none (by simpa [svC] using h2)]; simp)
            | simp [svC]
        exact this _ h1
      refine ⟨b, off, rfl, hlt, fun j hj => ?_⟩
      rw [World.cell?_of_block (GY.block b (by omega) (by simpa using hbg))]
      exact hcc j hj
    refine ⟨rfl, g1, ?_, Y, hY, ?_⟩
    · have q1 := past_same qU b1
      exact q1.cell 4
    · refine (challenge_any lo g tb name tries ss { s with cl := t } A2 n2 c2 Y.heap.size chal Y hY2 ⟨ok.i0, ok.i1, ht⟩ rY (Nat.le_refl _) hnil hc hnm).mono ?_
      rintro e w3 ⟨D, k, d, rfl, o3, g3, h3', D9, k9, d9, b9, o9⟩
      have p3 := blk_off pY g3 (by omega)
      refine ⟨_, _, D, k, d, rfl, p3, fun W' hW => ?_⟩
      have hne3 : (Value.slice D k d).ownBlock = none ∨ (Value.slice D k d).ownBlock ≠ some w.heap.size := .inr fun e => by have := (o3.block _ e).1; omega
      have G3 : w.grownBy w3 (some g) := gtrans' GY g3
      have GW := grown_new G3 hW
      have hne9 : (Value.slice D9 k9 d9).ownBlock = none ∨ (Value.slice D9 k9 d9).ownBlock ≠ some w.heap.size := .inr fun e => by have := (o9.block _ e).1; omega
      have kW := blk_off b9 hW (by omega)
      have oW := o9.grown hW hne9
      rw [← hs', ← hi', ← hL]
      exact ⟨D, k, d, rfl, eown_wide (o3.grown hW hne3) (by have := GY.size; omega), GW, h.row GW ⟨D9, k9, d9, kW, eown_wide oW (by have := GY.size; omega)⟩⟩
  rw [hs', hi', hL]
  clear hV bV q0 hU bU qU BU hp hgU KN hk h3 h hb ho ht hnm hc hs' hi' hL hr hB hnil ok
  go_enter Tryd.func50, Tryd.ntmps50
  go_wp2_with (first
    | (rw [HV.out])
    | (rw [HU.out])
    | (go_at_call 72; ((with_reducible refine C1.out.mono ?_); rintro e w1 ⟨rfl, g1, y4, Y, hY, n1⟩; have lg1 := Blk.lt g1; have y8 : w1.cell? ⟨g, 8, none⟩ = some (.string s.cl) := g1.cell 8; have f8 := g1.frozen 8; have HY := Lib.hid hY; have C2 := Lib.hid n1; clear g1 hY n1))
    | (go_at_call 55; ((with_reducible refine (CR.out _).mono ?_); rintro e w' ⟨rfl, rfl⟩))
    | (rw [HY.out])
    | (go_at_call 56; ((with_reducible refine C2.out.mono ?_); rintro e w3 ⟨x, y, D, k, d, rfl, k3, f1⟩; have r0 := k3.cell 0; have r1 := k3.cell 1; have r2 := k3.cell 2; have e0 := k3.frozen 0; have e1 := k3.frozen 1; have e2 := k3.frozen 2; have l3 := Blk.lt k3; have K3 := Lib.hid k3; have F1 := Lib.hid f1; clear k3 f1)))
  have hb4 := blk3 (x := .int .i64 x) (y := .int .i64 y) (z := .slice D k d) K3.out
  have p0 := hb4.cell 0
  have p1 := hb4.cell 1
  have p2 := hb4.cell 2
  exact bodyPost_ret (v := .agg #[.int .i64 x, .int .i64 y, .slice D k d]) (by simp [results, Tryd.results50, go_sem, p0, p1, p2]) rfl (F1.out _ (gset3 _ _ _ _ _))
/-- a proof that is none, or nobody asked for -/
theorem judge_pf_no (lo g tb : Nat) (name : ByteArray) (tries : Int) (ss : List Sec) (s : SvS) (C I : Int) (A : Option Addr) (n c B : Nat) (t : ByteArray) (A2 : Option Addr) (n2 c2 : Nat) (val ch : List UInt8) (w : World) (h : SvAt w lo g tb name tries ss s) (ok : SvOk s) (hnm : name.size ≤ maxLen)
    (hr : Rd w B A n val) (hB : B ≤ w.heap.size) (hn : n ≤ maxLen) (hv : s.st = 2 → s.L.length ≤ 140737488351232 ∧ rdE s.lc s.li s.L = 0 ∧ krV s.lc (rdT s.lc s.L) (rdR s.lc s.L) = ch ∧ ch.length ≤ 35184372088832)
    (hno : ¬ (s.st = 2 ∧ pvB ss name s ch val = true)) :
    Calls Tryd.prog 50 #[.pointer (some ⟨g, 0, none⟩), .iface 125 (msV C I 4 A n c t), .slice A2 n2 c2] w (PkS w lo g tb name tries ss (fnS s 4 ⟨#[]⟩) 4 s.li []) := by
  obtain ⟨D0, k0, d0, hb, ho⟩ := h.blk
  have lg := h.lt
  obtain ⟨V, hV⟩ : ∃ V, w.alloc (.cells #[.int .i64 0, .int .i64 0, .slice none 0 0] 24) = V := ⟨_, rfl⟩
  have bV : Below w.heap.size w V := by rw [← hV]; exact (Below.refl _ _).alloc (Nat.le_refl _) _
  have q0 : Blk V w.heap.size 24 [.int .i64 0, .int .i64 0, .slice none 0 0] := by rw [← hV]; exact heap_alloc_new w _
  obtain ⟨U, hU⟩ : ∃ U, V.alloc (.cells #[.int .i64 C, .int .i64 I, .int .i64 4, .slice A n c, .string t] 125) = U := ⟨_, rfl⟩
  have bU : Below V.heap.size V U := by rw [← hU]; exact (Below.refl _ _).alloc (Nat.le_refl _) _
  have qU : Blk U V.heap.size 125 [.int .i64 C, .int .i64 I, .int .i64 4, .slice A n c, .string t] := by rw [← hU]; exact heap_alloc_new V _
  have BU := step_to bV bU
  have hp := past_same q0 bU
  have hgU := past_same hb BU
  have u3 : U.cell? ⟨g, 3, none⟩ = some (.int .i64 s.st) := hgU.cell 3
  have lV := Blk.lt q0
  have x3 : U.cell? ⟨V.heap.size, 3, none⟩ = some (.slice A n c) := qU.cell 3
  have TB := fun W => ta_id_no 125 (by decide) (msV C I 4 A n c t) W
  have TA := fun W => ta_pf (msV C I 4 A n c t) W
  have HV := Lib.hid hV
  have HU := Lib.hid hU
  by_cases h3 : s.st = 2
  · have e3 : (s.st == 2) = true := by simpa using h3
    obtain ⟨v1, v2, v3, v4⟩ := hv h3
    have PV := proved_any lo g tb name tries ss s A n c B val ch U (h.later BU) ok v1 ok.c hnm (hr.below (BU.mono hB)) (Nat.le_trans hB BU.size) hn v2 v3 v4
    have hk : pvB ss name s ch val = false := by
      cases hk : pvB ss name s ch val
      · rfl
      · exact absurd ⟨h3, hk⟩ hno
    rw [hk] at PV
    have C1 : Hid (Calls Tryd.prog 73 #[.pointer (some ⟨g, 0, none⟩), .slice A n c] U fun e w1 => e = .returned (.bool false) ∧ Blk w1 g 95 (svC name tb tries s.st s.lc s.li (.slice D0 k0 d0) s.tried s.cl s.who) ∧
        ∃ X, (w1.setCell ⟨g, 3, none⟩ (.int .i64 4)).setCell ⟨g, 9, none⟩ (.string ⟨#[]⟩) = X ∧ Blk X w.heap.size 24 [.int .i64 0, .int .i64 0, .slice none 0 0] ∧ X.cell? ⟨g, 5, none⟩ = some (.int .i64 s.li) ∧ 
        ∀ W', X.grownBy W' (some w.heap.size) → PkS w lo g tb name tries ss (fnS s 4 ⟨#[]⟩) 4 s.li [] (.returned (.agg #[.int .i64 4, .int .i64 s.li, .slice none 0 0])) W') := by
      refine PV.mono ?_
      rintro e w1 ⟨rfl, b1⟩
      have B1 := step_to BU b1
      obtain ⟨X, hX, pX, c5, -, -, FN⟩ := fin_end h B1 (past_same hp b1) 4 4 s.li ⟨#[]⟩
      exact ⟨rfl, past_same hb B1, X, hX, pX, c5, FN⟩
    clear hV bV q0 hU bU qU BU hp hgU PV hk hno h3 h hb ho hnm hr hB hn hv ok v1 v2 v3 v4
    go_enter Tryd.func50, Tryd.ntmps50
    go_wp2_with (first
      | (rw [HV.out])
      | (rw [HU.out])
      | (go_at_call 73; ((with_reducible refine C1.out.mono ?_); rintro e w1 ⟨rfl, g1, X, hX, pX, c5, FN⟩; have lg1 := Blk.lt g1; have y3 : w1.cell? ⟨g, 3, none⟩ = some (.int .i64 s.st) := g1.cell 3; have y9 : w1.cell? ⟨g, 9, none⟩ = some (.string s.who) := g1.cell 9; have f3 := g1.frozen 3; have f9 := g1.frozen 9; have HX := Lib.hid hX; have r0 := pX.cell 0; have r1 := pX.cell 1; have r2 := pX.cell 2; have e0 := pX.frozen 0; have e1 := pX.frozen 1; have e2 := pX.frozen 2; have lr := Blk.lt pX; have PX := Lib.hid pX; have FNH := Lib.hid FN; clear g1 hX pX FN))
      | (rw [HX.out]))
    have hb4 := blk3 (x := .int .i64 4) (y := .int .i64 s.li) (z := .slice none 0 0) PX.out
    have p0 := hb4.cell 0
    have p1 := hb4.cell 1
    have p2 := hb4.cell 2
    exact bodyPost_ret (v := .agg #[.int .i64 4, .int .i64 s.li, .slice none 0 0]) (by simp [results, Tryd.results50, go_sem, p0, p1, p2]) rfl (FNH.out _ (gset3 _ _ _ _ _))
  · have e3 : (s.st == 2) = false := by simpa using h3
    obtain ⟨X, hX, pX, c5, -, -, FN⟩ := fin_end h BU hp 4 4 s.li ⟨#[]⟩
    have lg1 := Blk.lt hgU
    have y9 : U.cell? ⟨g, 9, none⟩ = some (.string s.who) := hgU.cell 9
    have f3 := hgU.frozen 3
    have f9 := hgU.frozen 9
    have HX := Lib.hid hX
    have r0 := pX.cell 0
    have r1 := pX.cell 1
    have r2 := pX.cell 2
    have e0 := pX.frozen 0
    have e1 := pX.frozen 1
    have e2 := pX.frozen 2
    have lr := Blk.lt pX
    have PX := Lib.hid pX
    have FNH := Lib.hid FN
    clear hV bV q0 hU bU qU BU hp hgU hno h3 h hb ho hnm hX pX FN hr hB hn hv ok
    go_enter Tryd.func50, Tryd.ntmps50
    go_wp2_with (first
      | (rw [HV.out])
      | (rw [HU.out])
      | (rw [HX.out]))
    have hb4 := blk3 (x := .int .i64 4) (y := .int .i64 s.li) (z := .slice none 0 0) PX.out
    have p0 := hb4.cell 0
    have p1 := hb4.cell 1
    have p2 := hb4.cell 2
    exact bodyPost_ret (v := .agg #[.int .i64 4, .int .i64 s.li, .slice none 0 0]) (by simp [results, Tryd.results50, go_sem, p0, p1, p2]) rfl (FNH.out _ (gset3 _ _ _ _ _))
/-- what is due -/
theorem judge_pf_yes (lo g tb : Nat) (name : ByteArray) (tries : Int) (ss : List Sec) (s : SvS) (C I : Int) (A : Option Addr) (n c B : Nat) (t : ByteArray) (A2 : Option Addr) (n2 c2 : Nat) (val ch : List UInt8) (w : World) (h : SvAt w lo g tb name tries ss s) (ok : SvOk s) (hnm : name.size ≤ maxLen)
    (hr : Rd w B A n val) (hB : B ≤ w.heap.size) (hn : n ≤ maxLen) (hv : s.st = 2 → s.L.length ≤ 140737488351232 ∧ rdE s.lc s.li s.L = 0 ∧ krV s.lc (rdT s.lc s.L) (rdR s.lc s.L) = ch ∧ ch.length ≤ 35184372088832)
    (h3 : s.st = 2) (hk : pvB ss name s ch val = true) :
    Calls Tryd.prog 50 #[.pointer (some ⟨g, 0, none⟩), .iface 125 (msV C I 4 A n c t), .slice A2 n2 c2] w (PkS w lo g tb name tries ss (fnS s 3 s.cl) 3 I []) := by
  obtain ⟨D0, k0, d0, hb, ho⟩ := h.blk
  have lg := h.lt
  obtain ⟨V, hV⟩ : ∃ V, w.alloc (.cells #[.int .i64 0, .int .i64 0, .slice none 0 0] 24) = V := ⟨_, rfl⟩
  have bV : Below w.heap.size w V := by rw [← hV]; exact (Below.refl _ _).alloc (Nat.le_refl _) _
  have q0 : Blk V w.heap.size 24 [.int .i64 0, .int .i64 0, .slice none 0 0] := by rw [← hV]; exact heap_alloc_new w _
  obtain ⟨U, hU⟩ : ∃ U, V.alloc (.cells #[.int .i64 C, .int .i64 I, .int .i64 4, .slice A n c, .string t] 125) = U := ⟨_, rfl⟩
  have bU : Below V.heap.size V U := by rw [← hU]; exact (Below.refl _ _).alloc (Nat.le_refl _) _
  have qU : Blk U V.heap.size 125 [.int .i64 C, .int .i64 I, .int .i64 4, .slice A n c, .string t] := by rw [← hU]; exact heap_alloc_new V _
  have BU := step_to bV bU
  have hp := past_same q0 bU
  have hgU := past_same hb BU
  have u3 : U.cell? ⟨g, 3, none⟩ = some (.int .i64 s.st) := hgU.cell 3
  have lV := Blk.lt q0
  have x3 : U.cell? ⟨V.heap.size, 3, none⟩ = some (.slice A n c) := qU.cell 3
  have TB := fun W => ta_id_no 125 (by decide) (msV C I 4 A n c t) W
  have TA := fun W => ta_pf (msV C I 4 A n c t) W
  have HV := Lib.hid hV
  have HU := Lib.hid hU
  have e3 : (s.st == 2) = true := by simpa using h3
  obtain ⟨v1, v2, v3, v4⟩ := hv h3
  have PV := proved_any lo g tb name tries ss s A n c B val ch U (h.later BU) ok v1 ok.c hnm (hr.below (BU.mono hB)) (Nat.le_trans hB BU.size) hn v2 v3 v4
  rw [hk] at PV
  have C1 : Hid (Calls Tryd.prog 73 #[.pointer (some ⟨g, 0, none⟩), .slice A n c] U fun e w1 => e = .returned (.bool true) ∧ Blk w1 g 95 (svC name tb tries s.st s.lc s.li (.slice D0 k0 d0) s.tried s.cl s.who) ∧
        ∃ X, (w1.setCell ⟨g, 3, none⟩ (.int .i64 3)).setCell ⟨g, 9, none⟩ (.string s.cl) = X ∧ Blk X w.heap.size 24 [.int .i64 0, .int .i64 0, .slice none 0 0] ∧ X.cell? ⟨g, 5, none⟩ = some (.int .i64 s.li) ∧ X.cell? ⟨V.heap.size, 1, none⟩ = some (.int .i64 I) ∧
        ∀ W', X.grownBy W' (some w.heap.size) → PkS w lo g tb name tries ss (fnS s 3 s.cl) 3 I [] (.returned (.agg #[.int .i64 3, .int .i64 I, .slice none 0 0])) W') := by
    refine PV.mono ?_
    rintro e w1 ⟨rfl, b1⟩
    have B1 := step_to BU b1
    obtain ⟨X, hX, pX, c5, -, hq, FN⟩ := fin_end h B1 (past_same hp b1) 3 3 I s.cl
    have q1 := hq _ _ _ (by omega) (past_same qU b1)
    exact ⟨rfl, past_same hb B1, X, hX, pX, c5, q1.cell 1, FN⟩
  clear hV bV q0 hU bU qU BU hp hgU PV hk h3 h hb ho hnm hr hB hn hv ok v1 v2 v3 v4
  go_enter Tryd.func50, Tryd.ntmps50
  go_wp2_with (first
    | (rw [HV.out])
    | (rw [HU.out])
    | (go_at_call 73; ((with_reducible refine C1.out.mono ?_); rintro e w1 ⟨rfl, g1, X, hX, pX, c5, x1, FN⟩; have lg1 := Blk.lt g1; have y3 : w1.cell? ⟨g, 3, none⟩ = some (.int .i64 s.st) := g1.cell 3; have y8 : w1.cell? ⟨g, 8, none⟩ = some (.string s.cl) := g1.cell 8; have y9 : w1.cell? ⟨g, 9, none⟩ = some (.string s.who) := g1.cell 9; have f3 := g1.frozen 3; have f9 := g1.frozen 9; have HX := Lib.hid hX; have r0 := pX.cell 0; have r1 := pX.cell 1; have r2 := pX.cell 2; have e0 := pX.frozen 0; have e1 := pX.frozen 1; have e2 := pX.frozen 2; have lr := Blk.lt pX; have PX := Lib.hid pX; have FNH := Lib.hid FN; clear g1 hX pX FN))
    | (rw [HX.out]))
  have hb4 := blk3 (x := .int .i64 3) (y := .int .i64 I) (z := .slice none 0 0) PX.out
  have p0 := hb4.cell 0
  have p1 := hb4.cell 1
  have p2 := hb4.cell 2
  exact bodyPost_ret (v := .agg #[.int .i64 3, .int .i64 I, .slice none 0 0]) (by simp [results, Tryd.results50, go_sem, p0, p1, p2]) rfl (FNH.out _ (gset3 _ _ _ _ _))
end Go.Proofs.YtjimoegegigoiaaDoor
namespace Go.Proofs.YtjimoegegigoiaaDoor
open Go.RowKit Go.Shelf
set_option maxRecDepth 100000
set_option maxHeartbeats 1000000
set_option linter.unusedSimpArgs false
set_option linter.unusedVariables false

def wtB (s : SvS) : Bool := s.st == 1 || s.st == 2
theorem waits_any (lo g tb : Nat) (name : ByteArray) (tries : Int) (ss : List Sec) (s : SvS) (w : World) (h : SvAt w lo g tb name tries ss s) : Calls Tryd.prog 49 #[.pointer (some ⟨g, 0, none⟩)] w fun e w' => e = .returned (.bool (wtB s)) ∧ w = w' := by
  obtain ⟨D0, k0, d0, hb, ho⟩ := h.blk
  have c3 : w.cell? ⟨g, 3, none⟩ = some (.int .i64 s.st) := hb.cell 3
  have lg := h.lt
  unfold wtB
  clear h hb ho
  by_cases h1 : s.st = 1
  · have e1 : (s.st == 1) = true := by simpa using h1
    rw [e1]
    clear h1
    go_enter Tryd.func49, Tryd.ntmps49
    go_wp2
    go_ret
    exact ⟨rfl, rfl⟩
  · have e1 : (s.st == 1) = false := by simpa using h1
    rw [e1]
    clear h1
    by_cases h2 : s.st = 2
    · have e2 : (s.st == 2) = true := by simpa using h2
      rw [e2]
      clear h2
      go_enter Tryd.func49, Tryd.ntmps49
      go_wp2
      go_ret
      exact ⟨rfl, rfl⟩
    · have e2 : (s.st == 2) = false := by simpa using h2
      rw [e2]
      clear h2
      go_enter Tryd.func49, Tryd.ntmps49
      go_wp2
      go_ret
      exact ⟨rfl, rfl⟩
/-- bytes of the call's own lie in no block of another type -/
theorem own_apart {w : World} {b q t : Nat} {v : Value} {l : List UInt8} {cs : List Value} (h : Own w b v l) (hk : Blk w q t cs) (ht : t ≠ 5) : v.ownBlock = none ∨ v.ownBlock ≠ some q := .inr fun e => by
  rcases h.2 with ⟨e1, h0⟩ | ⟨g, cap, cur, e1, hb, hg, hc, hm, _⟩
  · rw [e1] at e
    cases e
  · rw [e1] at e
    have e : g = q := by simpa [Value.ownBlock] using e
    subst e
    unfold Blk at hk
    rw [hk] at hg
    simp at hg
    exact ht hg.2
def tkE (s : SvS) (C I : Int) (l : List UInt8) : Int := if rdE C I l ≠ 0 then rdE C I l else if C ≠ 2 then 90 else if wtB s = false then 9 else if I ≠ s.li then 1 else 0
theorem stake_no (lo g tb : Nat) (name : ByteArray) (tries : Int) (ss : List Sec) (s : SvS) (C I : Int) (A : Option Addr) (n c B : Nat) (l : List UInt8) (A2 : Option Addr) (n2 c2 : Nat) (w : World) (h : SvAt w lo g tb name tries ss s) (hr : Rd w B A n l) (hB : B ≤ w.heap.size) (hn : n ≤ 140737488351232) (he : tkE s C I l ≠ 0) :
    Calls Tryd.prog 21 #[.pointer (some ⟨g, 0, none⟩), .agg #[.int .i64 C, .int .i64 I, .slice A n c], .slice A2 n2 c2] w fun e w' => e = .returned (.tuple #[.agg #[.int .i64 0, .int .i64 0, .slice none 0 0], .bool false, .int .i64 (tkE s C I l)]) ∧ Below w.heap.size w w' := by
  obtain ⟨D0, k0, d0, hb, ho⟩ := h.blk
  have lg := h.lt
  obtain ⟨V, hV, bV, m0, p0⟩ := alloc_two w #[.int .i64 C, .int .i64 I, .slice A n c] #[.int .i64 0, .int .i64 0, .slice none 0 0] 24 24
  have hm0 : Blk V w.heap.size 24 [.int .i64 C, .int .i64 I, .slice A n c] := m0
  have hp0 : Blk V (w.heap.size + 1) 24 [.int .i64 0, .int .i64 0, .slice none 0 0] := p0
  have i0 := hm0.cell 0
  have i1 := hm0.cell 1
  have i2 := hm0.cell 2
  have RD := eread_any C I A n c B l V (hr.below (bV.mono hB)) (Nat.le_trans hB bV.size) hn
  have HV := Lib.hid hV
  by_cases hz : rdE C I l = 0
  case neg =>
    have ht : tkE s C I l = rdE C I l := by unfold tkE; rw [if_pos hz]
    rw [ht]
    obtain ⟨er, her⟩ : ∃ er, rdE C I l = er := ⟨_, rfl⟩
    rw [her] at RD hz ⊢
    have hz1 : (er != 0) = true := by simpa using hz
    have C1 : Hid (Calls Tryd.prog 11 #[.agg #[.int .i64 C, .int .i64 I, .slice A n c]] V fun e w1 => ∃ D k d, e = .returned (.tuple #[.agg #[.int .i64 0, .int .i64 0, .int .i64 0, .slice D k d, .string ⟨#[]⟩], .int .i64 er]) ∧
        ∃ V1, w1.alloc (.cells #[.int .i64 0, .int .i64 0, .int .i64 0, .slice D k d, .string ⟨#[]⟩] 26) = V1 ∧ Blk V1 (w.heap.size + 1) 24 [.int .i64 0, .int .i64 0, .slice none 0 0] ∧ Below w.heap.size w V1) := by
      refine RD.mono ?_
      rintro e w1 ⟨b1, D, k, d, he1, o1⟩
      rw [if_neg hz, if_neg hz, if_neg hz, if_neg hz] at he1
      have bA : Below w1.heap.size w1 (w1.alloc (.cells #[.int .i64 0, .int .i64 0, .int .i64 0, .slice D k d, .string ⟨#[]⟩] 26)) := (Below.refl _ _).alloc (Nat.le_refl _) _
      exact ⟨D, k, d, he1, _, rfl, past_same (past_same hp0 b1) bA, step_to (step_to bV b1) bA⟩
    clear RD hV bV m0 hm0 p0 hp0 hr hB hn he ht her hz h hb ho
    go_enter Tryd.func21, Tryd.ntmps21
    go_upto_region 4 with (first
      | (rw [HV.out])
      | (go_at_call 11; ((with_reducible refine C1.out.mono ?_); rintro e w1 ⟨D, k, d, rfl, V1, hV1, pV, bE⟩; have HV1 := Lib.hid hV1; have PV := Lib.hid pV; have BE := Lib.hid bE; clear hV1 pV bE)))
    rw [HV1.out]
    have pV := PV.out
    have r0 := pV.cell 0
    have r1 := pV.cell 1
    have r2 := pV.cell 2
    have e0 := pV.frozen 0
    have e1 := pV.frozen 1
    have e2 := pV.frozen 2
    have lr := Blk.lt pV
    have hb4 := blk3 (x := .int .i64 0) (y := .int .i64 0) (z := .slice none 0 0) pV
    have p0 := hb4.cell 0
    have p1 := hb4.cell 1
    have p2 := hb4.cell 2
    have FN := Lib.hid (below_row BE.out (gset3 V1 (w.heap.size + 1) (.int .i64 0) (.int .i64 0) (.slice none 0 0)) (by omega))
    clear pV hb4 C1
    go_wp2
    exact bodyPost_ret (v := .tuple #[.agg #[.int .i64 0, .int .i64 0, .slice none 0 0], .bool false, .int .i64 er]) (by simp [results, Tryd.results21, go_sem, p0, p1, p2]) rfl ⟨rfl, FN.out⟩
  rw [hz] at RD
  obtain ⟨T, hT⟩ : ∃ T, rdT C l = T := ⟨_, rfl⟩
  rw [hT] at RD
  obtain ⟨val, hval⟩ : ∃ val, krV C T (rdR C l) = val := ⟨_, rfl⟩
  obtain ⟨t, hts⟩ : ∃ t, krS C T (rdR C l) = t := ⟨_, rfl⟩
  rw [hval, hts] at RD
  have C1 : Hid (Calls Tryd.prog 11 #[.agg #[.int .i64 C, .int .i64 I, .slice A n c]] V fun e w1 => ∃ D k d, e = .returned (.tuple #[.agg #[.int .i64 C, .int .i64 I, .int .i64 T, .slice D k d, .string t], .int .i64 0]) ∧
      ∃ V1, w1.alloc (.cells #[.int .i64 C, .int .i64 I, .int .i64 T, .slice D k d, .string t] 26) = V1 ∧ Blk V1 (w.heap.size + 1) 24 [.int .i64 0, .int .i64 0, .slice none 0 0] ∧ Blk V1 w1.heap.size 26 [.int .i64 C, .int .i64 I, .int .i64 T, .slice D k d, .string t] ∧ Blk V1 g 95 (svC name tb tries s.st s.lc s.li (.slice D0 k0 d0) s.tried s.cl s.who) ∧ Below w.heap.size w V1 ∧ SvAt V1 lo g tb name tries ss s) := by
    refine RD.mono ?_
    rintro e w1 ⟨b1, D, k, d, he1, o1⟩
    simp only [if_true] at he1
    have bA : Below w1.heap.size w1 (w1.alloc (.cells #[.int .i64 C, .int .i64 I, .int .i64 T, .slice D k d, .string t] 26)) := (Below.refl _ _).alloc (Nat.le_refl _) _
    have BA := step_to (step_to bV b1) bA
    exact ⟨D, k, d, he1, _, rfl, past_same (past_same hp0 b1) bA, heap_alloc_new w1 _, past_same hb BA, BA, h.later BA⟩
  clear RD hV bV m0 hm0 p0 hp0 hr hB hn hT hval hts hb ho h
  by_cases h2 : C = 2
  case neg =>
    have ht : tkE s C I l = 90 := by unfold tkE; rw [if_neg (by rw [hz]; simp), if_pos h2]
    have ec2 : (C != 2) = true := by simpa using h2
    rw [ht]
    clear he ht h2 hz
    go_enter Tryd.func21, Tryd.ntmps21
    go_upto_region 4 with (first
      | (rw [HV.out])
      | (go_at_call 11; ((with_reducible refine C1.out.mono ?_); rintro e w1 ⟨D, k, d, rfl, V1, hV1, pV, mV, gV, bE, hS⟩; have HV1 := Lib.hid hV1; have PV := Lib.hid pV; have BE := Lib.hid bE; have y0 := mV.cell 0; have y1 := mV.cell 1; have y2 := mV.cell 2; have y3 := mV.cell 3; have y4 := mV.cell 4; have g3 : V1.cell? ⟨g, 3, none⟩ = some (.int .i64 s.st) := gV.cell 3; have g5 : V1.cell? ⟨g, 5, none⟩ = some (.int .i64 s.li) := gV.cell 5; have lV1 := Blk.lt gV; have lm1 := Blk.lt mV; have WT := Lib.hid (waits_any lo g tb name tries ss s V1 hS); clear hV1 pV mV gV bE hS)))
    rw [HV1.out]
    have pV := PV.out
    have r0 := pV.cell 0
    have r1 := pV.cell 1
    have r2 := pV.cell 2
    have e0 := pV.frozen 0
    have e1 := pV.frozen 1
    have e2 := pV.frozen 2
    have lr := Blk.lt pV
    have hb4 := blk3 (x := .int .i64 0) (y := .int .i64 0) (z := .slice none 0 0) pV
    have p0 := hb4.cell 0
    have p1 := hb4.cell 1
    have p2 := hb4.cell 2
    have FN := Lib.hid (below_row BE.out (gset3 V1 (w.heap.size + 1) (.int .i64 0) (.int .i64 0) (.slice none 0 0)) (by omega))
    clear pV hb4 C1 WT
    go_wp2
    exact bodyPost_ret (v := .tuple #[.agg #[.int .i64 0, .int .i64 0, .slice none 0 0], .bool false, .int .i64 90]) (by simp [results, Tryd.results21, go_sem, p0, p1, p2]) rfl ⟨rfl, FN.out⟩
  subst h2
  cases hw : wtB s
  · have ht : tkE s 2 I l = 9 := by unfold tkE; rw [if_neg (by rw [hz]; simp), if_neg (by simp), if_pos hw]
    rw [ht]
    clear he ht hz
    go_enter Tryd.func21, Tryd.ntmps21
    go_upto_region 4 with (first
      | (rw [HV.out])
      | (go_at_call 11; ((with_reducible refine C1.out.mono ?_); rintro e w1 ⟨D, k, d, rfl, V1, hV1, pV, mV, gV, bE, hS⟩; have HV1 := Lib.hid hV1; have PV := Lib.hid pV; have BE := Lib.hid bE; have y0 := mV.cell 0; have y1 := mV.cell 1; have y2 := mV.cell 2; have y3 := mV.cell 3; have y4 := mV.cell 4; have g3 : V1.cell? ⟨g, 3, none⟩ = some (.int .i64 s.st) := gV.cell 3; have g5 : V1.cell? ⟨g, 5, none⟩ = some (.int .i64 s.li) := gV.cell 5; have lV1 := Blk.lt gV; have lm1 := Blk.lt mV; have WT := Lib.hid (waits_any lo g tb name tries ss s V1 hS); clear hV1 pV mV gV bE hS)))
    rw [HV1.out]
    have pV := PV.out
    have r0 := pV.cell 0
    have r1 := pV.cell 1
    have r2 := pV.cell 2
    have e0 := pV.frozen 0
    have e1 := pV.frozen 1
    have e2 := pV.frozen 2
    have lr := Blk.lt pV
    have hb4 := blk3 (x := .int .i64 0) (y := .int .i64 0) (z := .slice none 0 0) pV
    have p0 := hb4.cell 0
    have p1 := hb4.cell 1
    have p2 := hb4.cell 2
    rw [hw] at WT
    have FN := Lib.hid (below_row BE.out (gset3 V1 (w.heap.size + 1) (.int .i64 0) (.int .i64 0) (.slice none 0 0)) (by omega))
    clear pV hb4 C1 hw
    go_wp2_with (go_at_call 49; ((with_reducible refine WT.out.mono ?_); rintro e w' ⟨rfl, rfl⟩))
    exact bodyPost_ret (v := .tuple #[.agg #[.int .i64 0, .int .i64 0, .slice none 0 0], .bool false, .int .i64 9]) (by simp [results, Tryd.results21, go_sem, p0, p1, p2]) rfl ⟨rfl, FN.out⟩
  by_cases h4 : I = s.li
  · exfalso
    apply he
    unfold tkE
    rw [if_neg (by rw [hz]; simp), if_neg (by simp), if_neg (by rw [hw]; simp), if_neg (by simpa using h4)]
  · have ht : tkE s 2 I l = 1 := by unfold tkE; rw [if_neg (by rw [hz]; simp), if_neg (by simp), if_neg (by rw [hw]; simp), if_pos h4]
    have e4 : (I != s.li) = true := by simpa using h4
    rw [ht]
    clear he ht hz h4
    go_enter Tryd.func21, Tryd.ntmps21
    go_upto_region 4 with (first
      | (rw [HV.out])
      | (go_at_call 11; ((with_reducible refine C1.out.mono ?_); rintro e w1 ⟨D, k, d, rfl, V1, hV1, pV, mV, gV, bE, hS⟩; have HV1 := Lib.hid hV1; have PV := Lib.hid pV; have BE := Lib.hid bE; have y0 := mV.cell 0; have y1 := mV.cell 1; have y2 := mV.cell 2; have y3 := mV.cell 3; have y4 := mV.cell 4; have g3 : V1.cell? ⟨g, 3, none⟩ = some (.int .i64 s.st) := gV.cell 3; have g5 : V1.cell? ⟨g, 5, none⟩ = some (.int .i64 s.li) := gV.cell 5; have lV1 := Blk.lt gV; have lm1 := Blk.lt mV; have WT := Lib.hid (waits_any lo g tb name tries ss s V1 hS); clear hV1 pV mV gV bE hS)))
    rw [HV1.out]
    have pV := PV.out
    have r0 := pV.cell 0
    have r1 := pV.cell 1
    have r2 := pV.cell 2
    have e0 := pV.frozen 0
    have e1 := pV.frozen 1
    have e2 := pV.frozen 2
    have lr := Blk.lt pV
    have hb4 := blk3 (x := .int .i64 0) (y := .int .i64 0) (z := .slice none 0 0) pV
    have p0 := hb4.cell 0
    have p1 := hb4.cell 1
    have p2 := hb4.cell 2
    rw [hw] at WT
    have FN := Lib.hid (fun q => below_row (below_drewS BE.out q) (gset3 (V1.drewN q) (w.heap.size + 1) (.int .i64 0) (.int .i64 0) (.slice none 0 0)) (by omega))
    clear pV hb4 C1 hw
    go_wp2_with (go_at_call 49; ((with_reducible refine WT.out.mono ?_); rintro e w' ⟨rfl, rfl⟩))
    go_quiet (fail)
    go_wp2
    have hq := fun q => blk3 (x := .int .i64 0) (y := .int .i64 0) (z := .slice none 0 0) (show Blk (V1.drewN q) (w.heap.size + 1) 24 _ from PV.out)
    have p0 := fun q => (hq q).cell 0
    have p1 := fun q => (hq q).cell 1
    have p2 := fun q => (hq q).cell 2
    exact bodyPost_ret (v := .tuple #[.agg #[.int .i64 0, .int .i64 0, .slice none 0 0], .bool false, .int .i64 1]) (by simp [results, Tryd.results21, go_sem, p0, p1, p2]) rfl ⟨rfl, FN.out _⟩
end Go.Proofs.YtjimoegegigoiaaDoor
namespace Go.Proofs.YtjimoegegigoiaaDoor
open Go.RowKit Go.Shelf
set_option maxRecDepth 100000
set_option maxHeartbeats 1000000
set_option linter.unusedSimpArgs false
set_option linter.unusedVariables false

/-- what follows on a response that is waited for: what judge answers -/
def TakeR (w : World) (lo g tb : Nat) (name : ByteArray) (tries : Int) (ss : List Sec) (s : SvS) (C I : Int) (l : List UInt8) (e : Ending) (w' : World) : Prop :=
  ∃ D k d, e = .returned (.tuple #[.agg #[.int .i64 C, .int .i64 I, .slice D k d], .bool true, .int .i64 0]) ∧ Own w' w.heap.size (.slice D k d) l ∧ w.grownBy w' (some g) ∧ SvAt w' lo g tb name tries ss s
theorem stake_yes (lo g tb : Nat) (name : ByteArray) (tries : Int) (ss : List Sec) (s s' : SvS) (I T x y : Int) (A : Option Addr) (n c B : Nat) (l L val : List UInt8) (t : ByteArray) (A2 : Option Addr) (n2 c2 : Nat) (w : World) (h : SvAt w lo g tb name tries ss s) (hr : Rd w B A n l) (hB : B ≤ w.heap.size) (hn : n ≤ 140737488351232) (he : tkE s 2 I l = 0)
    (hT : rdT 2 l = T) (hval : krV 2 T (rdR 2 l) = val) (hts : krS 2 T (rdR 2 l) = t)
    (J : ∀ W D k d, Below w.heap.size w W → Rd W W.heap.size D k val → k ≤ d → Calls Tryd.prog 50 #[.pointer (some ⟨g, 0, none⟩), .iface (knT 2 T) (msV 2 I T D k d t), .slice A2 n2 c2] W (PkS W lo g tb name tries ss s' x y L)) :
    Calls Tryd.prog 21 #[.pointer (some ⟨g, 0, none⟩), .agg #[.int .i64 2, .int .i64 I, .slice A n c], .slice A2 n2 c2] w (TakeR w lo g tb name tries ss s' x y L) := by
  obtain ⟨hz, hw, h4⟩ : rdE 2 I l = 0 ∧ wtB s = true ∧ I = s.li := by
    unfold tkE at he
    split at he
    · contradiction
    · rename_i h1
      rw [if_neg (by simp)] at he
      split at he
      · cases he
      · rename_i h2
        split at he
        · cases he
        · rename_i h3
          exact ⟨by simpa using h1, by simpa using h2, by simpa using h3⟩
  obtain ⟨D0, k0, d0, hb, ho⟩ := h.blk
  have lg := h.lt
  obtain ⟨V, hV, bV, m0, p0⟩ := alloc_two w #[.int .i64 2, .int .i64 I, .slice A n c] #[.int .i64 0, .int .i64 0, .slice none 0 0] 24 24
  have hm0 : Blk V w.heap.size 24 [.int .i64 2, .int .i64 I, .slice A n c] := m0
  have hp0 : Blk V (w.heap.size + 1) 24 [.int .i64 0, .int .i64 0, .slice none 0 0] := p0
  have i0 := hm0.cell 0
  have i1 := hm0.cell 1
  have i2 := hm0.cell 2
  have RD := eread_any 2 I A n c B l V (hr.below (bV.mono hB)) (Nat.le_trans hB bV.size) hn
  have HV := Lib.hid hV
  rw [hz, hT, hval, hts] at RD
  have e4 : (I != s.li) = false := by simpa using h4
  obtain ⟨kt, hkt⟩ : ∃ kt, knT 2 T = kt := ⟨_, rfl⟩
  rw [hkt] at J
  have C1 : Hid (Calls Tryd.prog 11 #[.agg #[.int .i64 2, .int .i64 I, .slice A n c]] V fun e w1 => ∃ D k d, e = .returned (.tuple #[.agg #[.int .i64 2, .int .i64 I, .int .i64 T, .slice D k d, .string t], .int .i64 0]) ∧
      ∃ V1, w1.alloc (.cells #[.int .i64 2, .int .i64 I, .int .i64 T, .slice D k d, .string t] 26) = V1 ∧ Blk V1 w1.heap.size 26 [.int .i64 2, .int .i64 I, .int .i64 T, .slice D k d, .string t] ∧ Blk V1 g 95 (svC name tb tries s.st s.lc s.li (.slice D0 k0 d0) s.tried s.cl s.who) ∧ SvAt V1 lo g tb name tries ss s ∧
      ∀ q, Calls Tryd.prog 44 #[msV 2 I T D k d t] (V1.drewN q) fun e w2 => e = .returned (.iface kt (msV 2 I T D k d t)) ∧ Calls Tryd.prog 50 #[.pointer (some ⟨g, 0, none⟩), .iface kt (msV 2 I T D k d t), .slice A2 n2 c2] w2 fun e w3 => ∃ D3 k3 d3, e = .returned (.agg #[.int .i64 x, .int .i64 y, .slice D3 k3 d3]) ∧ Blk w3 (w.heap.size + 1) 24 [.int .i64 0, .int .i64 0, .slice none 0 0] ∧
        ∀ W', w3.grownBy W' (some (w.heap.size + 1)) → TakeR w lo g tb name tries ss s' x y L (.returned (.tuple #[.agg #[.int .i64 x, .int .i64 y, .slice D3 k3 d3], .bool true, .int .i64 0])) W') := by
    refine RD.mono ?_
    rintro e w1 ⟨b1, D, k, d, he1, o1⟩
    simp only [if_true] at he1 o1
    have bA : Below w1.heap.size w1 (w1.alloc (.cells #[.int .i64 2, .int .i64 I, .int .i64 T, .slice D k d, .string t] 26)) := (Below.refl _ _).alloc (Nat.le_refl _) _
    have BA := step_to (step_to bV b1) bA
    refine ⟨D, k, d, he1, _, rfl, heap_alloc_new w1 _, past_same hb BA, h.later BA, fun q => ?_⟩
    have hpA := past_same (past_same hp0 b1) bA
    have oA := o1.later bA
    generalize w1.alloc (.cells #[.int .i64 2, .int .i64 I, .int .i64 T, .slice D k d, .string t] 26) = V1 at bA BA hpA oA ⊢
    have KO := ekindOf_any 2 I T D k d t (V1.drewN q)
    rw [hkt] at KO
    refine KO.mono ?_
    rintro e w2 ⟨rfl, hw2⟩
    have b2 : Below V1.heap.size V1 w2 := by rw [hw2]; exact (below_drewS (Below.refl _ _) q).alloc (Nat.le_refl _) _
    have B2 := step_to BA b2
    have o2 := oA.later b2
    have r2 := own_rd o2
    refine ⟨rfl, (J w2 D k d B2 r2.1 r2.2.1).mono ?_⟩
    rintro e w3 ⟨D3, k3, d3, rfl, o3, g3, h3⟩
    have p2 := past_same hpA b2
    have l2 := Blk.lt p2
    have p3 := blk_off p2 g3 (by omega)
    refine ⟨D3, k3, d3, rfl, p3, fun W' hW => ?_⟩
    have G3 : w.grownBy w3 (some g) := gtrans' (below_some B2) g3
    have GW : w.grownBy W' (some g) := ⟨hW.os.trans G3.os, hW.tape.trans G3.tape, hW.output.trans G3.output, Nat.le_trans G3.size hW.size, fun i hi hne => (hW.block i (Nat.lt_of_lt_of_le hi G3.size) (by intro e; injection e with e; omega)).trans (G3.block i hi hne)⟩
    obtain ⟨D9, k9, d9, b9, o9⟩ := h3.blk
    refine ⟨D3, k3, d3, rfl, eown_wide (o3.grown hW (.inr fun e => by have := (o3.block _ e).1; omega)) B2.size, GW, h.row GW ⟨D9, k9, d9, blk_off b9 hW (by omega), ?_⟩⟩
    exact o9.grown hW (own_apart o9 p3 (by decide))
  clear RD hV bV m0 hm0 p0 hp0 hr hB hn hT hval hts hb ho h he J hkt h4 hz
  go_enter Tryd.func21, Tryd.ntmps21
  go_upto_region 4 with (first
    | (rw [HV.out])
    | (go_at_call 11; ((with_reducible refine C1.out.mono ?_); rintro e w1 ⟨D, k, d, rfl, V1, hV1, mV, gV, hS, n1⟩; have HV1 := Lib.hid hV1; have y0 := mV.cell 0; have y1 := mV.cell 1; have y2 := mV.cell 2; have y3 := mV.cell 3; have y4 := mV.cell 4; have g3 : V1.cell? ⟨g, 3, none⟩ = some (.int .i64 s.st) := gV.cell 3; have g5 : V1.cell? ⟨g, 5, none⟩ = some (.int .i64 s.li) := gV.cell 5; have lV1 := Blk.lt gV; have lm1 := Blk.lt mV; have WT := Lib.hid (waits_any lo g tb name tries ss s V1 hS); have C2 := Lib.hid n1; clear hV1 mV gV hS n1)))
  rw [HV1.out]
  rw [hw] at WT
  clear C1 hw
  go_wp2_with (go_at_call 49; ((with_reducible refine WT.out.mono ?_); rintro e w' ⟨rfl, rfl⟩))
  go_quiet (fail)
  go_wp2_with (first
    | (go_at_call 44; ((with_reducible refine (C2.out _).mono ?_); rintro e w2 ⟨rfl, n2⟩; have C3 := Lib.hid n2; clear n2))
    | (go_at_call 50; ((with_reducible refine C3.out.mono ?_); rintro e w3 ⟨D3, k3, d3, rfl, pV, FN⟩; have r0 := pV.cell 0; have r1 := pV.cell 1; have r2 := pV.cell 2; have e0 := pV.frozen 0; have e1 := pV.frozen 1; have e2 := pV.frozen 2; have lr := Blk.lt pV; have PV := Lib.hid pV; have FNH := Lib.hid FN; clear pV FN)))
  have hb4 := blk3 (x := .int .i64 x) (y := .int .i64 y) (z := .slice D3 k3 d3) PV.out
  have p0 := hb4.cell 0
  have p1 := hb4.cell 1
  have p2 := hb4.cell 2
  exact bodyPost_ret (v := .tuple #[.agg #[.int .i64 x, .int .i64 y, .slice D3 k3 d3], .bool true, .int .i64 0]) (by simp [results, Tryd.results21, go_sem, p0, p1, p2]) rfl (FNH.out _ (gset3 _ _ _ _ _))
end Go.Proofs.YtjimoegegigoiaaDoor
