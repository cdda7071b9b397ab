/-
  pap's authenticator takes a request.
-/
import Derived.Test.YtglboagjmbjehaaPaSrv
import Derived.RegionTactic
namespace Go.Proofs.Ytglboagjmbjehaa
open Go.RowKit Go.Shelf
set_option maxRecDepth 100000
set_option maxHeartbeats 4000000
set_option linter.unusedSimpArgs false
set_option linter.unusedVariables false

theorem prs_size : ∀ (n : Nat) (l : List UInt8) (s : ByteArray), s ∈ (prs n l).1 → s.size ≤ 255
  | 0, _, s, h => by simp [prs] at h
  | n + 1, [], s, h => by simp [prs] at h
  | n + 1, c :: r, s, h => by
    unfold prs at h
    split at h
    · simp at h
    · rcases List.mem_cons.1 h with rfl | h
      · rw [stOf_size, List.length_take]
        have := c.toNat_lt
        omega
      · exact prs_size n _ s h
theorem rqS_size (code id : Int) (l : List UInt8) (i : Nat) : (rqS code id l i).size ≤ 255 := by
  unfold rqS
  split
  · rw [List.getD_eq_getElem?_getD]
    cases e : (prs 2 l).1[i]? with
    | none => exact Nat.zero_le _
    | some x => exact prs_size 2 l x (List.mem_of_getElem? e)
  · exact Nat.zero_le _
theorem rqE_id {code id : Int} {l : List UInt8} (h : rqE code id l = 0) : 0 ≤ id ∧ id ≤ 255 := by
  unfold rqE at h
  by_cases hm : mustE id code [1] = 0
  · unfold mustE at hm
    cases hi : idB id
    · rw [hi] at hm; simp at hm
    · simpa [idB] using hi
  · rw [if_neg hm] at h
    exact absurd h hm
/-- what is said -/
def saidB (ok : Bool) : ByteArray := if ok then welcome else refused
theorem said_fits (ok : Bool) : (saidB ok).size ≤ 255 ∧ shB (saidB ok) = true := by cases ok <;> exact ⟨by decide, by decide⟩
/-- an authenticator and what it has decided -/
def SvJ (W : World) (g tb : Nat) (name : ByteArray) (ss : List Sec) : Option (Bool × ByteArray) → Prop
  | none => SvAt W g tb name ss 0 ⟨#[]⟩ .nilFunc
  | some (ok, who) => ∃ x y, SvAt W g tb name ss (if ok then 1 else 2) who (ansF x y) ∧ Blk W x 4 [.bool ok] ∧ Blk W y 9 [.string (saidB ok)]
/-- what it decides of a request that it can read -/
noncomputable def nextV (name : ByteArray) (ss : List Sec) (v : Option (Bool × ByteArray)) (cl word : ByteArray) : Bool × ByteArray :=
  match v with
  | none => (judgeB name ss cl word, if judgeB name ss cl word then cl else ⟨#[]⟩)
  | some q => q
noncomputable def takeV (name : ByteArray) (ss : List Sec) (v : Option (Bool × ByteArray)) (code id : Int) (l : List UInt8) : Option (Bool × ByteArray) :=
  if rqE code id l = 0 then some (nextV name ss v (rqS code id l 0) (rqS code id l 1)) else v
theorem SvJ.later {W W' : World} {g tb : Nat} {name : ByteArray} {ss : List Sec} {v : Option (Bool × ByteArray)} (h : SvJ W g tb name ss v) (hB : Below W.heap.size W W') : SvJ W' g tb name ss v := by
  match v, h with
  | none, h => exact SvAt.later h hB
  | some (ok, who), ⟨x, y, h, hx, hy⟩ => exact ⟨x, y, h.later hB, (hB.block _ (Blk.lt hx)).trans hx, (hB.block _ (Blk.lt hy)).trans hy⟩
theorem SvJ.lt {W : World} {g tb : Nat} {name : ByteArray} {ss : List Sec} {v : Option (Bool × ByteArray)} (h : SvJ W g tb name ss v) : g < W.heap.size := by
  match v, h with
  | none, h => exact Blk.lt h.blk
  | some (ok, who), ⟨x, y, h, hx, hy⟩ => exact Blk.lt h.blk
/-- the answer to a request -/
def TakeA (W : World) (code id : Int) (l : List UInt8) (v : Option (Bool × ByteArray)) (e : Ending) (W' : World) : Prop :=
  (rqE code id l ≠ 0 ∧ e = .returned (.tuple #[.agg #[.int .i64 0, .int .i64 0, .slice none 0 0], .bool false, .int .i64 (rqE code id l)])) ∨
  (rqE code id l = 0 ∧ ∃ ok who D k d, v = some (ok, who) ∧ e = .returned (.tuple #[.agg #[.int .i64 (if ok then 2 else 3), .int .i64 id, .slice D k d], .bool true, .int .i64 0]) ∧ Own W' W.heap.size (.slice D k d) (jnL [saidB ok]))
def TakeR (W : World) (g tb : Nat) (name : ByteArray) (ss : List Sec) (v : Option (Bool × ByteArray)) (code id : Int) (l : List UInt8) (e : Ending) (W' : World) : Prop :=
  W.grownBy W' (some g) ∧ SvJ W' g tb name ss (takeV name ss v code id l) ∧ TakeA W code id l (takeV name ss v code id l) e W'
theorem below_only {W W' : World} {g : Nat} (h : Below W.heap.size W W') : W.grownBy W' (some g) := ⟨h.os, h.tape, h.output, h.size, fun i hi _ => h.block i hi⟩
theorem only_later {W W1 W2 : World} {g : Nat} (h : W.grownBy W1 (some g)) (k : Below W1.heap.size W1 W2) : W.grownBy W2 (some g) := gtrans' h (below_only k)
theorem nilf_eq_nil (W : World) : (binOp .eql 68 .nilFunc .nilFunc).run Try.prog W = .ok (.bool true) W := by kernel_rfl
theorem ansf_eq_nil (W : World) (f : Nat) (cs : Array Value) : (binOp .eql 68 (.func (.func f) #[] cs) .nilFunc).run Try.prog W = .ok (.bool false) W := by kernel_rfl
/-- behind the request: what answers is there -/
structure Ans (W W1 : World) (g tb : Nat) (name : ByteArray) (ss : List Sec) (id : Int) (p0 r0 : Nat) (code : Int) (D : Option Addr) (k d : Nat) (ok : Bool) (who : ByteArray) (x y : Nat) : Prop where
  sv : SvAt W1 g tb name ss (if ok then 1 else 2) who (ansF x y)
  bx : Blk W1 x 4 [.bool ok]
  bY : Blk W1 y 9 [.string (saidB ok)]
  only : W.grownBy W1 (some g)
  pk : Blk W1 p0 38 [.int .i64 code, .int .i64 id, .slice D k d]
  rs : Blk W1 r0 38 [.int .i64 0, .int .i64 0, .slice none 0 0]
theorem take_any (g tb : Nat) (name : ByteArray) (ss : List Sec) (v : Option (Bool × ByteArray)) (code id : Int) (D : Option Addr) (k d B : Nat) (l : List UInt8) (w : World) (h : SvJ w g tb name ss v) (hg : tb < g) (hnm : name.size ≤ maxLen)
    (hr : Rd w B D k l) (hB : B ≤ w.heap.size) (hkd : k ≤ d) (hnil : D = none → d = 0) :
    Calls Try.prog 13 #[.pointer (some ⟨g, 0, none⟩), .agg #[.int .i64 code, .int .i64 id, .slice D k d]] w (TakeR w g tb name ss v code id l) := by
  have hgl := h.lt
  obtain ⟨V, hV⟩ : ∃ V, (w.alloc (.cells #[.int .i64 code, .int .i64 id, .slice D k d] 38)).alloc (.cells #[.int .i64 0, .int .i64 0, .slice none 0 0] 38) = V := ⟨_, rfl⟩
  have hBV : Below w.heap.size w V := by rw [← hV]; exact ((Below.refl _ _).alloc (Nat.le_refl _) _).alloc (by simp) _
  have zV : V.heap.size = w.heap.size + 2 := by rw [← hV]; simp
  have h0 : Blk V w.heap.size 38 [.int .i64 code, .int .i64 id, .slice D k d] := by
    rw [← hV]
    exact (Below.heap_alloc _ _ _ (by simp)).trans (heap_alloc_new w _)
  have h1 : Blk V (w.heap.size + 1) 38 [.int .i64 0, .int .i64 0, .slice none 0 0] := by
    rw [← hV]
    have h := heap_alloc_new (w.alloc (.cells #[.int .i64 code, .int .i64 id, .slice D k d] 38)) (.cells #[.int .i64 0, .int .i64 0, .slice none 0 0] 38)
    rw [World.size_alloc] at h
    exact h
  have x0 := h0.cell 0
  have x1 := h0.cell 1
  have x2 := h0.cell 2
  have RQ := readRequest_any code id D k d B l V (hr.below (hBV.mono hB)) (by omega) hkd hnil
  have hV' := h.later hBV
  obtain ⟨cl, hcl⟩ : ∃ x, rqS code id l 0 = x := ⟨_, rfl⟩
  obtain ⟨word, hword⟩ : ∃ x, rqS code id l 1 = x := ⟨_, rfl⟩
  have szc : cl.size ≤ 255 := by rw [← hcl]; exact rqS_size code id l 0
  have HV := Lib.hid hV
  by_cases he : rqE code id l = 0
  · obtain ⟨i0, i1⟩ := rqE_id he
    obtain ⟨q, hq⟩ : ∃ q, nextV name ss v cl word = q := ⟨_, rfl⟩
    obtain ⟨ok, who⟩ := q
    have htv : takeV name ss v code id l = some (ok, who) := by unfold takeV; rw [if_pos he, hcl, hword, hq]
    -- the end, once the answer is there
    obtain ⟨cd, hcd⟩ : ∃ cd : Int, (if ok then (2 : Int) else 3) = cd := ⟨_, rfl⟩
    have FIN : ∀ W1 x y, Ans w W1 g tb name ss id w.heap.size (w.heap.size + 1) code D k d ok who x y → ∀ Wb, Below W1.heap.size W1 Wb → Calls Try.prog 68 #[.int .i64 id, .pointer (some ⟨x, 0, none⟩), .pointer (some ⟨y, 0, none⟩)] Wb fun e w3 => ∃ D3 k3 d3, e = .returned (.tuple #[.agg #[.int .i64 cd, .int .i64 id, .slice D3 k3 d3], .int .i64 0]) ∧
        Below Wb.heap.size Wb w3 ∧ w3.cell? ⟨g, 4, none⟩ = some (.func (.func 68) #[] #[.pointer (some ⟨x, 0, none⟩), .pointer (some ⟨y, 0, none⟩)]) ∧ w3.cell? ⟨w.heap.size, 1, none⟩ = some (.int .i64 id) ∧ w.heap.size + 1 < w3.heap.size ∧ Blk w3 (w.heap.size + 1) 38 [.int .i64 0, .int .i64 0, .slice none 0 0] ∧ ∀ Wm W' z, W1.heap.size ≤ z → (z < Wb.heap.size ∨ w3.heap.size ≤ z) → w3.grownBy Wm (some z) → Wm.grownBy W' (some (w.heap.size + 1)) → TakeR w g tb name ss v code id l (.returned (.tuple #[.agg #[.int .i64 cd, .int .i64 id, .slice D3 k3 d3], .bool true, .int .i64 0])) W' := by
      intro W1 x y hA Wb hWb
      have hz1 := Blk.lt hA.rs
      rw [← hcd]
      refine (answering1_any id ok (saidB ok) x y Wb i0 i1 (said_fits ok).1 (said_fits ok).2 ((hWb.block _ (Blk.lt hA.bx)).trans hA.bx) ((hWb.block _ (Blk.lt hA.bY)).trans hA.bY)).mono ?_
      rintro e w3 ⟨b3, D3, k3, d3, rfl, ho⟩
      have b3' : Below W1.heap.size W1 w3 := hWb.trans (b3.mono hWb.size)
      have z3 := b3'.size
      have zb := hWb.size
      refine ⟨D3, k3, d3, rfl, b3, Blk.cell (show Blk w3 g 70 _ from (b3'.block _ (Blk.lt hA.sv.blk)).trans hA.sv.blk) 4, Blk.cell (show Blk w3 w.heap.size 38 _ from (b3'.block _ (Blk.lt hA.pk)).trans hA.pk) 1, by omega, (b3'.block _ hz1).trans hA.rs, fun Wm W' z hz hz2 gM gW => ?_⟩
      have zW := gW.size
      have zM := gM.size
      have o3 := only_later hA.only b3'
      have zo := o3.size
      have keep : ∀ i, i < W1.heap.size → i ≠ w.heap.size + 1 → W'.heap[i]? = W1.heap[i]? := fun i hi hne => (gW.block i (by omega) (by intro e; injection e with e; exact hne e)).trans ((gM.block i (by omega) (by intro e; injection e with e; omega)).trans (b3'.block i hi))
      have oW : w.grownBy W' (some g) := ⟨gW.os.trans (gM.os.trans o3.os), gW.tape.trans (gM.tape.trans o3.tape), gW.output.trans (gM.output.trans o3.output), by omega, fun i hi hne => (keep i (by have := hA.only.size; omega) (by omega)).trans (hA.only.block i hi hne)⟩
      refine ⟨oW, ?_, ?_⟩
      · rw [htv]
        refine ⟨x, y, ⟨(keep g (Blk.lt hA.sv.blk) (by omega)).trans hA.sv.blk, hA.sv.tab.same fun i hi => keep i (by have := Blk.lt hA.sv.blk; omega) (by omega)⟩, (keep x (Blk.lt hA.bx) ?_).trans hA.bx, (keep y (Blk.lt hA.bY) ?_).trans hA.bY⟩
        · rintro rfl
          have := hA.bx.symm.trans hA.rs
          simp at this
        · rintro rfl
          have := hA.bY.symm.trans hA.rs
          simp at this
      · rw [htv]
        refine .inr ⟨he, ok, who, D3, k3, d3, rfl, rfl, ?_⟩
        have hne : ∀ q, (q < Wb.heap.size ∨ w3.heap.size ≤ q) → (Value.slice D3 k3 d3).ownBlock = none ∨ (Value.slice D3 k3 d3).ownBlock ≠ some q := by
          intro q hq
          rcases ho.form with ⟨e, _⟩ | ⟨g', cap, e, h2, _⟩
          · rw [e]; exact .inl rfl
          · rw [e]; refine .inr fun e2 => ?_
            simp [Value.ownBlock] at e2; omega
        have h4 := (ho.grown gM (hne z hz2)).grown gW (hne _ (.inl (by omega)))
        refine ⟨h4.1, ?_⟩
        rcases h4.2 with h | ⟨g', cap, cur, e1, e2, e3⟩
        · exact .inl h
        · exact .inr ⟨g', cap, cur, e1, by have := hA.only.size; omega, e3⟩
    match v, hq, h, hV', htv, FIN with
    | none, hq, h, hV', htv, FIN =>
      have hok : judgeB name ss cl word = ok := by unfold nextV at hq; injection hq
      have hwho : (if ok then cl else (⟨#[]⟩ : ByteArray)) = who := by unfold nextV at hq; injection hq with a b; rw [← b, a]
      have C : Hid (Calls Try.prog 36 #[.agg #[.int .i64 code, .int .i64 id, .slice D k d]] V fun e w2 => e = .returned (.tuple #[.string cl, .string word, .int .i64 0]) ∧ w2.cell? ⟨g, 4, none⟩ = some .nilFunc ∧
          Calls Try.prog 37 #[.pointer (some ⟨g, 0, none⟩), .string cl, .string word] w2 fun e w3 => e = .returned (.tuple #[]) ∧ ∃ x y, w3.cell? ⟨g, 4, none⟩ = some (.func (.func 68) #[] #[.pointer (some ⟨x, 0, none⟩), .pointer (some ⟨y, 0, none⟩)]) ∧ w3.cell? ⟨w.heap.size, 1, none⟩ = some (.int .i64 id) ∧ Ans w w3 g tb name ss id w.heap.size (w.heap.size + 1) code D k d ok who x y) := by
        refine RQ.mono ?_
        rintro e w2 ⟨rfl, b2⟩
        have h2 : SvAt w2 g tb name ss 0 ⟨#[]⟩ .nilFunc := SvAt.later hV' b2
        refine ⟨by rw [hcl, hword, he], h2.blk.cell 4, (judge_any g tb name ss 0 ⟨#[]⟩ .nilFunc cl word w2 h2 hg (by unfold maxLen; omega) hnm).mono ?_⟩
        rintro e w3 ⟨rfl, g3, x, y, h3, hx, hy, _, _⟩
        rw [hok] at h3 hx hy
        rw [hwho] at h3
        have z2 := b2.size
        have hp : Blk w3 w.heap.size 38 [.int .i64 code, .int .i64 id, .slice D k d] := (g3.block _ (by omega) (by intro e; injection e with e; omega)).trans ((b2.block _ (by omega)).trans h0)
        exact ⟨rfl, x, y, h3.blk.cell 4, hp.cell 1, h3, hx, hy, gtrans' (below_only (hBV.trans (b2.mono (by omega)))) g3, hp, (g3.block _ (by omega) (by intro e; injection e with e; omega)).trans ((b2.block _ (by omega)).trans h1)⟩
      have N1 := nilf_eq_nil
      clear RQ hV' h hV hcl hword he hq htv hok hwho hr h0 h1 hBV hcd
      go_enter Try.func13, Try.ntmps13
      go_upto_region 8 with (first
        | (rw [HV.out])
        | (rw [N1])
        | (go_at_call 36; ((with_reducible refine C.out.mono ?_); rintro e w2 ⟨rfl, q4, c1⟩; have C1 := Lib.hid c1; clear c1))
        | (go_at_call 37; ((with_reducible refine C1.out.mono ?_); rintro e w3 ⟨rfl, x, y, y4, y1, hA⟩; have F1 := Lib.hid (FIN w3 x y hA); have rr := hA.rs.cell 0; have tr := World.new_ne w3 _ rr; clear FIN hA)))
      have hA1 : Below w3.heap.size w3 w3.drew := below_drewS (Below.refl _ _) 1
      have hA2 : Below w3.heap.size w3 (w3.alloc (.cells #[.int .i64 0, .int .i64 0, .slice none 0 0] 38)).drew := below_drewS ((Below.refl _ _).alloc (Nat.le_refl _) _) 1
      have n1 : Blk (w3.alloc (.cells #[.int .i64 0, .int .i64 0, .slice none 0 0] 38)).drew w3.heap.size 38 [.int .i64 0, .int .i64 0, .slice none 0 0] := heap_alloc_new w3 _
      have HA1 := Lib.hid hA1
      have HA2 := Lib.hid hA2
      have N2 := Lib.hid n1
      clear hA1 hA2 n1
      have t0 := World.new_ne w3 _ y4
      have t1 := World.new_ne w3 _ y1
      go_region_held3 (fun w' => w'.cell? ⟨g, 4, none⟩ = some (.func (.func 68) #[] #[.pointer (some ⟨x, 0, none⟩), .pointer (some ⟨y, 0, none⟩)]) ∧ w'.cell? ⟨w.heap.size, 1, none⟩ = some (.int .i64 id)) (go_keep) (first
        | (go_at_call 68; ((with_reducible refine (F1.out _ HA1.out).mono ?_); rintro e w4 ⟨D3, k3, d3, rfl, bb, v4, v1, z4, b4, c9⟩; have p0 := b4.cell 0; have p1 := b4.cell 1; have p2 := b4.cell 2; have q0 := b4.frozen 0; have q1 := b4.frozen 1; have q2 := b4.frozen 2; have t5 := World.new_ne w4 _ p0; have t2 := World.new_ne w4 _ v4; have t3 := World.new_ne w4 _ v1; have C9 := Lib.hid c9; have B4 := Lib.hid b4; have HS4 := Lib.hid (Nat.le_trans HA1.out.size bb.size); clear c9 b4 bb))
        | (go_at_call 68; ((with_reducible refine (F1.out _ HA2.out).mono ?_); rintro e w4 ⟨D3, k3, d3, rfl, bb, v4, v1, z4, b4, c9⟩; have n2 := (bb.block _ (Blk.lt N2.out)).trans N2.out; have r0 := Blk.cell n2 0; have r1 := Blk.cell n2 1; have r2 := Blk.cell n2 2; have g0 := Blk.frozen n2 0; have g1 := Blk.frozen n2 1; have g2 := Blk.frozen n2 2; have p0 := b4.cell 0; have p1 := b4.cell 1; have p2 := b4.cell 2; have q0 := b4.frozen 0; have q1 := b4.frozen 1; have q2 := b4.frozen 2; have t5 := World.new_ne w4 _ p0; have t2 := World.new_ne w4 _ v4; have t3 := World.new_ne w4 _ v1; have C9 := Lib.hid c9; have B4 := Lib.hid b4; have B5 := Lib.hid n2; clear c9 b4 bb n2)))
      all_goals
        go_wp2
        have hb4 := blk3 (x := .int .i64 cd) (y := .int .i64 id) (z := .slice D3 k3 d3) B4.out
        have z0 := hb4.cell 0
        have z1 := hb4.cell 1
        have z2 := hb4.cell 2
        first
          | exact bodyPost_ret (v := .tuple #[.agg #[.int .i64 cd, .int .i64 id, .slice D3 k3 d3], .bool true, .int .i64 0]) (by simp [results, Try.results13, go_sem, *]) rfl (C9.out w4 _ w4.heap.size (HS4.out) (.inr (Nat.le_refl _)) (below_only (Below.refl _ _)) (gtrans' (gset3 _ _ _ _ _) (below_only ((Below.refl _ _).alloc (Nat.le_refl _) _))))
          | exact bodyPost_ret (v := .tuple #[.agg #[.int .i64 cd, .int .i64 id, .slice D3 k3 d3], .bool true, .int .i64 0]) (by simp [results, Try.results13, go_sem, *]) rfl (C9.out _ _ w3.heap.size (Nat.le_refl _) (.inl (by simp)) (gset3 _ _ _ _ _) (gset3 _ _ _ _ _))
    | some (ok', who'), hq, h, hV', htv, FIN =>
      obtain ⟨rfl, rfl⟩ : ok' = ok ∧ who' = who := by unfold nextV at hq; injection hq with a b; exact ⟨a, b⟩
      obtain ⟨x, y, hs, hx, hy⟩ := hV'
      have C : Hid (Calls Try.prog 36 #[.agg #[.int .i64 code, .int .i64 id, .slice D k d]] V fun e w3 => e = .returned (.tuple #[.string cl, .string word, .int .i64 0]) ∧ w3.cell? ⟨g, 4, none⟩ = some (.func (.func 68) #[] #[.pointer (some ⟨x, 0, none⟩), .pointer (some ⟨y, 0, none⟩)]) ∧ w3.cell? ⟨w.heap.size, 1, none⟩ = some (.int .i64 id) ∧ Ans w w3 g tb name ss id w.heap.size (w.heap.size + 1) code D k d ok' who' x y) := by
        refine RQ.mono ?_
        rintro e w2 ⟨rfl, b2⟩
        have z2 := b2.size
        have h2 := hs.later b2
        have hp : Blk w2 w.heap.size 38 [.int .i64 code, .int .i64 id, .slice D k d] := (b2.block _ (by omega)).trans h0
        exact ⟨by rw [hcl, hword, he], h2.blk.cell 4, hp.cell 1, h2, (b2.block _ (Blk.lt hx)).trans hx, (b2.block _ (Blk.lt hy)).trans hy, below_only (hBV.trans (b2.mono (by omega))), hp, (b2.block _ (by omega)).trans h1⟩
      have N1 := ansf_eq_nil
      clear RQ h hV hcl hword he hq htv hr h0 h1 hBV hcd hs hx hy
      go_enter Try.func13, Try.ntmps13
      go_upto_region 8 with (first
        | (rw [HV.out])
        | (rw [N1])
        | (go_at_call 36; ((with_reducible refine C.out.mono ?_); rintro e w3 ⟨rfl, y4, y1, hA⟩; have F1 := Lib.hid (FIN w3 x y hA); have rr := hA.rs.cell 0; have tr := World.new_ne w3 _ rr; clear FIN hA)))
      have hA1 : Below w3.heap.size w3 w3.drew := below_drewS (Below.refl _ _) 1
      have hA2 : Below w3.heap.size w3 (w3.alloc (.cells #[.int .i64 0, .int .i64 0, .slice none 0 0] 38)).drew := below_drewS ((Below.refl _ _).alloc (Nat.le_refl _) _) 1
      have n1 : Blk (w3.alloc (.cells #[.int .i64 0, .int .i64 0, .slice none 0 0] 38)).drew w3.heap.size 38 [.int .i64 0, .int .i64 0, .slice none 0 0] := heap_alloc_new w3 _
      have HA1 := Lib.hid hA1
      have HA2 := Lib.hid hA2
      have N2 := Lib.hid n1
      clear hA1 hA2 n1
      have t0 := World.new_ne w3 _ y4
      have t1 := World.new_ne w3 _ y1
      go_region_held3 (fun w' => w'.cell? ⟨g, 4, none⟩ = some (.func (.func 68) #[] #[.pointer (some ⟨x, 0, none⟩), .pointer (some ⟨y, 0, none⟩)]) ∧ w'.cell? ⟨w.heap.size, 1, none⟩ = some (.int .i64 id)) (go_keep) (first
        | (go_at_call 68; ((with_reducible refine (F1.out _ HA1.out).mono ?_); rintro e w4 ⟨D3, k3, d3, rfl, bb, v4, v1, z4, b4, c9⟩; have p0 := b4.cell 0; have p1 := b4.cell 1; have p2 := b4.cell 2; have q0 := b4.frozen 0; have q1 := b4.frozen 1; have q2 := b4.frozen 2; have t5 := World.new_ne w4 _ p0; have t2 := World.new_ne w4 _ v4; have t3 := World.new_ne w4 _ v1; have C9 := Lib.hid c9; have B4 := Lib.hid b4; have HS4 := Lib.hid (Nat.le_trans HA1.out.size bb.size); clear c9 b4 bb))
        | (go_at_call 68; ((with_reducible refine (F1.out _ HA2.out).mono ?_); rintro e w4 ⟨D3, k3, d3, rfl, bb, v4, v1, z4, b4, c9⟩; have n2 := (bb.block _ (Blk.lt N2.out)).trans N2.out; have r0 := Blk.cell n2 0; have r1 := Blk.cell n2 1; have r2 := Blk.cell n2 2; have g0 := Blk.frozen n2 0; have g1 := Blk.frozen n2 1; have g2 := Blk.frozen n2 2; have p0 := b4.cell 0; have p1 := b4.cell 1; have p2 := b4.cell 2; have q0 := b4.frozen 0; have q1 := b4.frozen 1; have q2 := b4.frozen 2; have t5 := World.new_ne w4 _ p0; have t2 := World.new_ne w4 _ v4; have t3 := World.new_ne w4 _ v1; have C9 := Lib.hid c9; have B4 := Lib.hid b4; have B5 := Lib.hid n2; clear c9 b4 bb n2)))
      all_goals
        go_wp2
        have hb4 := blk3 (x := .int .i64 cd) (y := .int .i64 id) (z := .slice D3 k3 d3) B4.out
        have z0 := hb4.cell 0
        have z1 := hb4.cell 1
        have z2 := hb4.cell 2
        first
          | exact bodyPost_ret (v := .tuple #[.agg #[.int .i64 cd, .int .i64 id, .slice D3 k3 d3], .bool true, .int .i64 0]) (by simp [results, Try.results13, go_sem, *]) rfl (C9.out w4 _ w4.heap.size (HS4.out) (.inr (Nat.le_refl _)) (below_only (Below.refl _ _)) (gtrans' (gset3 _ _ _ _ _) (below_only ((Below.refl _ _).alloc (Nat.le_refl _) _))))
          | exact bodyPost_ret (v := .tuple #[.agg #[.int .i64 cd, .int .i64 id, .slice D3 k3 d3], .bool true, .int .i64 0]) (by simp [results, Try.results13, go_sem, *]) rfl (C9.out _ _ w3.heap.size (Nat.le_refl _) (.inl (by simp)) (gset3 _ _ _ _ _) (gset3 _ _ _ _ _))
  · have C : Hid (Calls Try.prog 36 #[.agg #[.int .i64 code, .int .i64 id, .slice D k d]] V fun e w2 => e = .returned (.tuple #[.string cl, .string word, .int .i64 (rqE code id l)]) ∧ Blk w2 (w.heap.size + 1) 38 [.int .i64 0, .int .i64 0, .slice none 0 0] ∧
        TakeR w g tb name ss v code id l (.returned (.tuple #[.agg #[.int .i64 0, .int .i64 0, .slice none 0 0], .bool false, .int .i64 (rqE code id l)])) (((w2.setCell ⟨w.heap.size + 1, 0, none⟩ (.int .i64 0)).setCell ⟨w.heap.size + 1, 1, none⟩ (.int .i64 0)).setCell ⟨w.heap.size + 1, 2, none⟩ (.slice none 0 0))) := by
      refine RQ.mono ?_
      rintro e w2 ⟨rfl, b2⟩
      have z2 := b2.size
      have BB := (((hBV.trans (b2.mono (by omega))).setCell (p := ⟨w.heap.size + 1, 0, none⟩) (by show _ ≤ w.heap.size + 1; omega) (.int .i64 0)).setCell (p := ⟨w.heap.size + 1, 1, none⟩) (by show _ ≤ w.heap.size + 1; omega) (.int .i64 0)).setCell (p := ⟨w.heap.size + 1, 2, none⟩) (by show _ ≤ w.heap.size + 1; omega) (.slice none 0 0)
      refine ⟨by rw [hcl, hword], (b2.block _ (by omega)).trans h1, below_only BB, ?_, .inl ⟨he, rfl⟩⟩
      unfold takeV
      rw [if_neg he]
      exact h.later BB
    obtain ⟨er, her⟩ : ∃ er, rqE code id l = er := ⟨_, rfl⟩
    rw [her] at C he
    have e1 : (er != 0) = true := by simpa using he
    clear RQ h hV hV' hcl hword her hr h0 h1 hBV
    go_enter Try.func13, Try.ntmps13
    go_wp2_with (first
      | (rw [HV.out])
      | (go_at_call 36; ((with_reducible refine C.out.mono ?_); rintro e w2 ⟨rfl, b1, t1⟩; have r0 := b1.cell 0; have r1 := b1.cell 1; have r2 := b1.cell 2; have g0 := b1.frozen 0; have g1 := b1.frozen 1; have g2 := b1.frozen 2; have B1 := Lib.hid b1; have T1 := Lib.hid t1; clear b1 t1)))
    have hb4 := blk3 (x := .int .i64 0) (y := .int .i64 0) (z := .slice none 0 0) B1.out
    have z0 := hb4.cell 0
    have z1 := hb4.cell 1
    have z2 := hb4.cell 2
    exact bodyPost_ret (v := .tuple #[.agg #[.int .i64 0, .int .i64 0, .slice none 0 0], .bool false, .int .i64 er]) (by simp [results, Try.results13, go_sem, *]) rfl T1.out
end Go.Proofs.Ytglboagjmbjehaa
