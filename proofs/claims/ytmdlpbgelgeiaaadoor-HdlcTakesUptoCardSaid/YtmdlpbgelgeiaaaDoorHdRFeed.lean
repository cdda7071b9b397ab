/-
  tetherref03.Line.Byte.
  tetherref03.Line.Feed.
-/
import Derived.Test.YtmdlpbgelgeiaaaDoorHdRWhole
import Derived.Test.YtmdlpbgelgeiaaaDoorHdFeedW
namespace Go.Proofs.YtmdlpbgelgeiaaaDoor
open Go.RowKit
set_option maxRecDepth 100000
set_option maxHeartbeats 2000000
set_option linter.unusedSimpArgs false
set_option linter.unusedVariables false

theorem nmd_bit0 (a : Int) (k : Nat) (h0 : 0 ≤ a) (h1 : a < 4294967296) : (bits .and .i64 (a / 2 ^ k) 1 == 0) = !nmd a k := by
  have e1 : 0 ≤ a / 2 ^ k := Int.ediv_nonneg h0 (by have := Int.pow_pos (n := 2) (m := k) (by decide); omega)
  have e2 : a / 2 ^ k ≤ a := Int.ediv_le_self _ h0
  rw [and1 _ e1 (by omega)]
  unfold nmd
  rw [Bool.eq_iff_iff]
  simp
  omega
theorem rwhole_any (rb : Nat) (m a : Int) (p q : Bool) (M : Nat) (Bv : Value) (r : RSt) (W : World) (h : RLn W rb m a p q Bv r) (hm : r.raw.length ≤ 70368744177664) (hM : (M : Int) = m + 6) (hm0 : 64 ≤ m) (hm1 : m ≤ 16384) :
    Calls Tryd.prog 47 #[.pointer (some ⟨rb, 0, none⟩)] W fun e w' => WhR W w' rb m a p q M r e := by
  by_cases z : r.raw.length = 0
  · exact rwhole_none rb m a p q M Bv r W h z
  · by_cases y : r.raw.getLast? = some 125
    · exact rwhole_abort rb m a p q M Bv r W h z y hm
    · exact rwhole_rest rb m a p q M Bv r W h z y hm hM hm0 hm1
theorem trn_of_grown {W V : World} {rb : Nat} (hv : Value) (h : W.grownBy V (some rb)) : Trn rb hv (.slice none 0 0) W V := ⟨h.os, h.tape, h.output, h.size, fun i hi hb _ => h.block i hi (fun e => hb (by injection e)), fun g e => by cases e⟩
/-- does the byte end a frame -/
def rokB (M : Nat) (p q : Bool) (r : RSt) (c : UInt8) : Bool := decide (c = 126) && rwhB M p q r
/-- what a byte answers -/
def ByR (W w' : World) (rb : Nat) (m a : Int) (p q : Bool) (M : Nat) (Bv : Value) (r : RSt) (c : UInt8) (e : Ending) : Prop :=
  ∃ z A k d Bv', e = .returned (.tuple #[.agg #[.int .i64 z, .slice A k d], .bool (rokB M p q r c)]) ∧ RLn w' rb m a p q Bv' (rstp a M p q r c) ∧ (rokB M p q r c = true → z = frP (unL r) ∧ Own w' W.heap.size (.slice A k d) (frI (unL r)) ∧ Bv' = .slice none 0 0) ∧ Trn rb Bv Bv' W w'
theorem rbyte_any (rb : Nat) (m a : Int) (p q : Bool) (M : Nat) (Bv : Value) (r : RSt) (W : World) (h : RLn W rb m a p q Bv r) (hm : r.raw.length ≤ 70368744177664) (hM : (M : Int) = m + 6) (hm0 : 64 ≤ m) (hm1 : m ≤ 16384) (h0 : 0 ≤ a) (h1 : a < 4294967296) (c : UInt8) :
    Calls Tryd.prog 34 #[.pointer (some ⟨rb, 0, none⟩), .int .u8 (c.toNat : Int)] W fun e w' => ByR W w' rb m a p q M Bv r c e := by
  have hb := Blk.lt h.blk
  obtain ⟨W1, hW1⟩ : ∃ W1, W.alloc (.cells #[.int .i64 0, .slice none 0 0] 24) = W1 := ⟨_, rfl⟩
  have b1 : Below W.heap.size W W1 := by rw [← hW1]; exact (Below.refl _ _).alloc (Nat.le_refl _) _
  have s1 : W1.heap.size = W.heap.size + 1 := by rw [← hW1]; simp
  have k1 : Blk W1 W.heap.size 24 [.int .i64 0, .slice none 0 0] := by rw [← hW1]; exact blk_new W _ _
  have h2 := h.later b1
  have hc256 := c.toNat_lt
  have c0 : (0 : Int) ≤ (c.toNat : Int) := by omega
  have c1 : (c.toNat : Int) ≤ 255 := by omega
  by_cases hf : c = 126
  · have d1 : ((c.toNat : Int) == 126) = true := by rw [hf]; rfl
    have e1 : rstp a M p q r c = rwhS M p q r := by unfold rstp; rw [if_pos hf]
    have e2 : rokB M p q r c = rwhB M p q r := by unfold rokB; rw [decide_eq_true hf, Bool.true_and]
    have WC : Hid (Calls Tryd.prog 47 #[.pointer (some ⟨rb, 0, none⟩)] W1 fun e w' => ∃ z A k d, e = .returned (.tuple #[.agg #[.int .i64 z, .slice A k d], .bool (rokB M p q r c)]) ∧ (w'.cell? ⟨W.heap.size, 0, none⟩ = some (.int .i64 0) ∧ w'.cell? ⟨W.heap.size, 1, none⟩ = some (.slice none 0 0) ∧ w'.frozen? ⟨W.heap.size, 0, none⟩ = false ∧ w'.frozen? ⟨W.heap.size, 1, none⟩ = false) ∧
        (((w'.setCell ⟨W.heap.size, 0, none⟩ (.int .i64 z)).setCell ⟨W.heap.size, 1, none⟩ (.slice A k d)).cell? ⟨W.heap.size, 0, none⟩ = some (.int .i64 z) ∧ ((w'.setCell ⟨W.heap.size, 0, none⟩ (.int .i64 z)).setCell ⟨W.heap.size, 1, none⟩ (.slice A k d)).cell? ⟨W.heap.size, 1, none⟩ = some (.slice A k d)) ∧
        Hid (ByR W ((w'.setCell ⟨W.heap.size, 0, none⟩ (.int .i64 z)).setCell ⟨W.heap.size, 1, none⟩ (.slice A k d)) rb m a p q M Bv r c (.returned (.tuple #[.agg #[.int .i64 z, .slice A k d], .bool (rokB M p q r c)])))) := by
      refine (rwhole_any rb m a p q M Bv r W1 h2 hm hM hm0 hm1).mono ?_
      rintro e w' ⟨z, A, k, d, rfl, hr, hf', hg⟩
      have kw : Blk w' W.heap.size 24 [.int .i64 0, .slice none 0 0] := (hg.block _ (by omega) (fun e => by injection e with e; omega)).trans k1
      have kx := (kw.set_ 0 (.int .i64 z)).set_ 1 (.slice A k d)
      have hgW : W.grownBy w' (some rb) := only_then (row := some rb) ⟨b1.os, b1.tape, b1.output, b1.size, fun i hi _ => b1.block i hi⟩ hg (fun g e => .inl e)
      refine ⟨z, A, k, d, by rw [e2], ⟨kw.cell 0, kw.cell 1, kw.frozen 0, kw.frozen 1⟩, ⟨kx.cell 0, kx.cell 1⟩, z, A, k, d, .slice none 0 0, rfl, ?_, ?_, ?_⟩
      · rw [e1]
        exact (hr.other _ 0 _ (by omega) (by simp [Value.ownBlock])).other _ 1 _ (by omega) (by simp [Value.ownBlock])
      · intro e
        rw [e2] at e
        obtain ⟨x1, x2⟩ := hf' e
        exact ⟨x1, own_lower (own_else (own_else x2 W.heap.size 0 _ (by omega)) W.heap.size 1 _ (by omega)) (by omega), rfl⟩
      · exact trn_of_grown Bv (gr_new (gr_new hgW _ 0 _ (Nat.le_refl _)) _ 1 _ (Nat.le_refl _))
    obtain ⟨OK, hOK⟩ : ∃ OK, OK = rokB M p q r c := ⟨_, rfl⟩
    rw [← hOK] at WC
    have HW := Lib.hid hW1
    clear h h2 hW1 b1 s1 k1 e1 e2 hOK hf
    go_enter Tryd.func34, Tryd.ntmps34
    go_upto_region 1 with (fail)
    rw [HW.out]
    go_wp2_with (go_at_call 47; (with_reducible refine WC.out.mono ?_); rintro e w' ⟨z, A, k, d, rfl, ⟨x0, x1, x2, x3⟩, ⟨v0, v1⟩, FIN⟩)
    exact bodyPost_ret (v := .tuple #[.agg #[.int .i64 z, .slice A k d], .bool OK]) (by simp [results, Tryd.results34, go_sem, v0, v1]) rfl FIN.out
  · have d1 : ((c.toNat : Int) == 126) = false := by
      simp
      intro e
      exact hf (UInt8.toNat_inj.1 (by show c.toNat = 126; omega))
    have e2 : rokB M p q r c = false := by unfold rokB; rw [decide_eq_false hf, Bool.false_and]
    have c4 : W1.cell? ⟨rb, 4, none⟩ = some Bv := h2.blk.cell 4
    have f4 := h2.blk.frozen 4
    have ca : W1.cell? ⟨rb, 1, none⟩ = some (.int .i64 a) := h2.blk.cell 1
    by_cases hn : c.toNat < 32 ∧ nmd a c.toNat = true
    · have e1 : rstp a M p q r c = r := by unfold rstp; rw [if_neg hf, if_pos hn]
      have d2 : (c.toNat : Int) < 32 := by omega
      have d3 := nmd_bit0 a c.toNat h0 h1
      rw [hn.2] at d3
      have kx := (k1.set_ 0 (.int .i64 0)).set_ 1 (.slice none 0 0)
      have z0 := k1.cell 0
      have z1 := k1.cell 1
      have zf0 := k1.frozen 0
      have zf1 := k1.frozen 1
      have v0 := kx.cell 0
      have v1 := kx.cell 1
      have hown : Bv.ownBlock ≠ some W.heap.size := fun e => by have := (h.own.block _ e).2; omega
      have FIN : Hid (ByR W ((W1.setCell ⟨W.heap.size, 0, none⟩ (.int .i64 0)).setCell ⟨W.heap.size, 1, none⟩ (.slice none 0 0)) rb m a p q M Bv r c (.returned (.tuple #[.agg #[.int .i64 0, .slice none 0 0], .bool false]))) :=
        ⟨0, none, 0, 0, Bv, by rw [e2], by rw [e1]; exact (h2.other _ 0 _ (by omega) hown).other _ 1 _ (by omega) hown, (fun e => by rw [e2] at e; cases e), ((Trn.below Bv b1).fresh _ 0 _ (Nat.le_refl _)).fresh _ 1 _ (Nat.le_refl _)⟩
      have HW := Lib.hid hW1
      clear h h2 hW1 b1 s1 k1 e1 e2 hf hn kx hown
      go_enter Tryd.func34, Tryd.ntmps34
      go_upto_region 1 with (fail)
      rw [HW.out]
      go_wp2
      exact bodyPost_ret (v := .tuple #[.agg #[.int .i64 0, .slice none 0 0], .bool false]) (by simp [results, Tryd.results34, go_sem, v0, v1]) rfl FIN.out
    · have e1 : rstp a M p q r c = { r with raw := r.raw ++ [c] } := by unfold rstp; rw [if_neg hf, if_neg hn]
      have hob := h.own.block
      have hob2 := h2.own.block
      obtain ⟨v3, w3, r3, o3, g3, b3⟩ := append_run (h2.own.alloc (.cells #[.int .u8 (c.toNat : Int)] 5)) 1 (rd_one W1 c _ rfl) (by simp) (by omega) (by simp; omega)
      have hs3 := g3.size
      have al : Below W1.heap.size W1 (W1.alloc (.cells #[.int .u8 (c.toNat : Int)] 5)) := (Below.refl _ _).alloc (Nat.le_refl _) _
      have hb3 : Blk w3 rb 52 (rlC m a p q Bv r) := (g3.block rb (by simp; omega) (fun e => by have := (hob2 rb e.symm).1; omega)).trans ((al.block rb (by omega)).trans h2.blk)
      have k3 : Blk w3 W.heap.size 24 [.int .i64 0, .slice none 0 0] := (g3.block _ (by simp; omega) (fun e => by have := (hob _ e.symm).2; omega)).trans ((al.block _ (by omega)).trans k1)
      have v3b : ∀ g, v3.ownBlock = some g → g ≠ W.heap.size ∧ rb + 1 ≤ g := fun g e => by
        have h5 := (o3.block g e).1
        rcases b3 with x | x
        · have := (hob g (by rw [← x]; exact e)).2
          omega
        · rw [x] at e
          injection e with e
          simp at e
          omega
      have ln3 : RLn (w3.setCell ⟨rb, 4, none⟩ v3) rb m a p q v3 { r with raw := r.raw ++ [c] } := by
        refine ⟨hb3.set_ 4 v3, o3.grown (only_set _) ?_⟩
        rcases hg : v3.ownBlock with _ | g
        · exact .inl rfl
        · exact .inr (fun e => by have := (v3b g hg).2; injection e with e; simp at e; omega)
      have kz : Blk (w3.setCell ⟨rb, 4, none⟩ v3) W.heap.size 24 [.int .i64 0, .slice none 0 0] := (Below.heap_setCell _ ⟨rb, 4, none⟩ _ W.heap.size (by show W.heap.size ≠ rb; omega)).trans k3
      have t3 : Trn rb Bv v3 W (w3.setCell ⟨rb, 4, none⟩ v3) := (Trn.below Bv b1).trans ((Trn.below Bv al).trans ((Trn.grown g3 (b3.imp id (fun e => ⟨_, e, by simp⟩))).trans (Trn.set rb v3 w3 4 v3)))
      have kx := (kz.set_ 0 (.int .i64 0)).set_ 1 (.slice none 0 0)
      have z0 := kz.cell 0
      have z1 := kz.cell 1
      have zf0 := kz.frozen 0
      have zf1 := kz.frozen 1
      have v0 := kx.cell 0
      have v1 := kx.cell 1
      have ff4 := hb3.frozen 4
      have cc4 : w3.cell? ⟨rb, 4, none⟩ = some Bv := hb3.cell 4
      have hown : v3.ownBlock ≠ some W.heap.size := fun e => (v3b _ e).1 rfl
      have FIN : Hid (ByR W (((w3.setCell ⟨rb, 4, none⟩ v3).setCell ⟨W.heap.size, 0, none⟩ (.int .i64 0)).setCell ⟨W.heap.size, 1, none⟩ (.slice none 0 0)) rb m a p q M Bv r c (.returned (.tuple #[.agg #[.int .i64 0, .slice none 0 0], .bool false]))) :=
        ⟨0, none, 0, 0, v3, by rw [e2], by rw [e1]; exact (ln3.other _ 0 _ (by omega) hown).other _ 1 _ (by omega) hown, (fun e => by rw [e2] at e; cases e), (t3.fresh _ 0 _ (Nat.le_refl _)).fresh _ 1 _ (Nat.le_refl _)⟩
      have HW := Lib.hid hW1
      have R3 := Lib.hid r3
      obtain ⟨A0, n0, d0, rfl⟩ : ∃ A n c, Bv = .slice A n c := by
        rcases h.own.form with ⟨e, _⟩ | ⟨g, cap, e, _⟩
        · exact ⟨_, _, _, e⟩
        · exact ⟨_, _, _, e⟩
      obtain ⟨A9, n9, d9, rfl⟩ : ∃ A n c, v3 = .slice A n c := by
        rcases o3.form with ⟨e, _⟩ | ⟨g, cap, e, _⟩
        · exact ⟨_, _, _, e⟩
        · exact ⟨_, _, _, e⟩
      by_cases h32 : c.toNat < 32
      · have hnm : nmd a c.toNat = false := by
          rcases hx : nmd a c.toNat with _ | _
          · rfl
          · exact absurd ⟨h32, hx⟩ hn
        have d2 : (c.toNat : Int) < 32 := by omega
        have d3 := nmd_bit0 a c.toNat h0 h1
        rw [hnm] at d3
        clear h h2 hW1 b1 s1 k1 e1 e2 hf hn kx hown hob hob2 o3 g3 b3 al hb3 k3 v3b ln3 kz t3 r3 hnm hs3
        go_enter Tryd.func34, Tryd.ntmps34
        go_upto_region 1 with (fail)
        rw [HW.out]
        go_wp2_with (at_builtin; refine wpList_app rfl (.tmp 29) (.tmp 31) rfl _ _ rfl rfl _ _ R3.out ?_)
        exact bodyPost_ret (v := .tuple #[.agg #[.int .i64 0, .slice none 0 0], .bool false]) (by simp [results, Tryd.results34, go_sem, v0, v1]) rfl FIN.out
      · have d2 : (32 : Int) ≤ (c.toNat : Int) := by omega
        clear h h2 hW1 b1 s1 k1 e1 e2 hf hn kx hown hob hob2 o3 g3 b3 al hb3 k3 v3b ln3 kz t3 r3 hs3
        go_enter Tryd.func34, Tryd.ntmps34
        go_upto_region 1 with (fail)
        rw [HW.out]
        go_wp2_with (at_builtin; refine wpList_app rfl (.tmp 29) (.tmp 31) rfl _ _ rfl rfl _ _ R3.out ?_)
        exact bodyPost_ret (v := .tuple #[.agg #[.int .i64 0, .slice none 0 0], .bool false]) (by simp [results, Tryd.results34, go_sem, v0, v1]) rfl FIN.out
end Go.Proofs.YtmdlpbgelgeiaaaDoor
namespace Go.Proofs.YtmdlpbgelgeiaaaDoor
open Go.RowKit
set_option maxRecDepth 100000
set_option maxHeartbeats 2000000
set_option linter.unusedSimpArgs false
set_option linter.unusedVariables false

theorem rrun_len (a : Int) (M : Nat) (p q : Bool) : ∀ (l : List UInt8) (r : RSt), (rrun a M p q r l).raw.length ≤ r.raw.length + l.length
  | [], r => Nat.le_refl _
  | c :: l, r => by
    have h1 := rrun_len a M p q l (rstp a M p q r c)
    have h2 := rstp_len a M p q r c
    show (rrun a M p q (rstp a M p q r c) l).raw.length ≤ _
    simp only [List.length_cons]
    omega
theorem rout_len (a : Int) (M : Nat) (p q : Bool) (r : RSt) (c : UInt8) : (rout a M p q r c).length ≤ 1 := by
  unfold rout
  split <;> simp
theorem rfrs_le (a : Int) (M : Nat) (p q : Bool) : ∀ (l : List UInt8) (r : RSt), (rfrs a M p q r l).length ≤ l.length
  | [], r => Nat.le_refl _
  | c :: l, r => by
    have h1 := rfrs_le a M p q l (rstp a M p q r c)
    have h2 := rout_len a M p q r c
    show (rout a M p q r c ++ rfrs a M p q _ l).length ≤ _
    rw [List.length_append, List.length_cons]
    omega
theorem RLn.grown {W V : World} {rb : Nat} {m a : Int} {p q : Bool} {Bv : Value} {r : RSt} {row : Option Nat} (h : RLn W rb m a p q Bv r) (hg : W.grownBy V row) (h1 : row ≠ some rb) (h2 : Bv.ownBlock = none ∨ Bv.ownBlock ≠ row) : RLn V rb m a p q Bv r :=
  ⟨(hg.block rb (Blk.lt h.blk) (fun e => h1 e.symm)).trans h.blk, h.own.grown hg h2⟩
/-- what has come of the first bytes -/
def FdR (w V : World) (rb : Nat) (m a : Int) (p q : Bool) (M : Nat) (Bv : Value) (r : RSt) (x : List UInt8) (u : Value) : Prop :=
  ∃ Bv' L, RLn V rb m a p q Bv' (rrun a M p q r x) ∧ FL V w.heap.size u (rfrs a M p q r x) L ∧ (∀ i, L i → i ≠ rb ∧ Bv'.ownBlock ≠ some i ∧ i < V.heap.size) ∧ Trn rb Bv Bv' w V
theorem FdR.more {w V V' : World} {rb : Nat} {a : Int} {p q : Bool} {M : Nat} {Bv Bv' : Value} {r : RSt} {x : List UInt8} {u : Value} {L : Nat → Prop} (hf : FL V w.heap.size u (rfrs a M p q r x) L) (hL : ∀ i, L i → i ≠ rb ∧ Bv.ownBlock ≠ some i ∧ i < V.heap.size)
    (hT : Trn rb Bv Bv' V V') : FL V' w.heap.size u (rfrs a M p q r x) L ∧ (∀ i, L i → i ≠ rb ∧ Bv'.ownBlock ≠ some i ∧ i < V'.heap.size) := by
  refine ⟨hf.same (fun i hi => hT.block i (hL i hi).2.2 (hL i hi).1 (hL i hi).2.1), fun i hi => ⟨(hL i hi).1, fun e => ?_, by have := (hL i hi).2.2; have := hT.size; omega⟩⟩
  rcases hT.own i e with h | h
  · exact (hL i hi).2.1 h
  · have := (hL i hi).2.2; omega
theorem rfeed_any (rb : Nat) (m a : Int) (p q : Bool) (M : Nat) (Bv : Value) (r : RSt) (A : Option Addr) (n c : Nat) (l : List UInt8) (w : World) (h : RLn w rb m a p q Bv r) (hr : Rd w w.heap.size A n l) (hn : n ≤ 1099511627776) (hrl : r.raw.length ≤ 1099511627776) (hM : (M : Int) = m + 6) (hm0 : 64 ≤ m) (hm1 : m ≤ 16384) (h0 : 0 ≤ a) (h1 : a < 4294967296)
    (hA : 0 < n → ∀ g o s, A = some ⟨g, o, s⟩ → g ≠ rb ∧ Bv.ownBlock ≠ some g) :
    Calls Tryd.prog 29 #[.pointer (some ⟨rb, 0, none⟩), .slice A n c] w fun e w' => ∃ v, e = .returned v ∧ FdR w w' rb m a p q M Bv r l v := by
  have hl := hr.1
  have hb := Blk.lt h.blk
  have HR := Lib.hid hr
  have HL := Lib.hid hl
  have HA := Lib.hid hA
  have H0 : Hid (FdR w w rb m a p q M Bv r [] (.slice none 0 0)) := ⟨Bv, fun _ => False, h, FL.nil _ _ _, (fun i hi => hi.elim), Trn.refl _ _ _⟩
  clear hr hl hA h
  go_enter Tryd.func29, Tryd.ntmps29
  go_wp2
  go_loopw [5, 6] (fun u i wr => ∃ (k : Nat), i = .int .i64 k ∧ k ≤ n ∧ Hid (FdR w wr rb m a p q M Bv r (l.take k) u)) (fun _ i _ => n - (intOf i).toNat)
  case atStart => exact ⟨0, rfl, Nat.zero_le _, by rw [List.take_zero]; exact H0⟩
  case round =>
    obtain ⟨k, rfl, hk, HJ⟩ := hrel
    by_cases hlt : k < n
    · obtain ⟨Bk, L, ln, fl, hLb, tr⟩ := HJ.out
      have hkl : k < l.length := by rw [HL.out]; exact hlt
      obtain ⟨b, o, rfl, hbb, hcell⟩ := HR.out.2 (by omega)
      obtain ⟨hA1, hA2⟩ := HA.out (by omega) b o none rfl
      obtain ⟨cc, hcc⟩ : ∃ cc, cc = l.getD k 0 := ⟨_, rfl⟩
      have ck : wr.cell? ⟨b, o + k, none⟩ = some (.int .u8 (cc.toNat : Int)) := by
        refine (World.cell?_of_block (a := ⟨b, o + k, none⟩) (tr.block b hbb hA1 hA2)).trans ?_
        rw [hcc]; exact hcell k hlt
      have hnx := hd_take_next l k hkl
      rw [← hcc] at hnx
      have hlen := rrun_len a M p q (l.take k) r
      rw [List.length_take] at hlen
      have hfl := rfrs_le a M p q (l.take k) r
      rw [List.length_take] at hfl
      obtain ⟨rk, hrk⟩ : ∃ rk, rk = rrun a M p q r (l.take k) := ⟨_, rfl⟩
      have BC : Hid (Calls Tryd.prog 34 #[.pointer (some ⟨rb, 0, none⟩), .int .u8 (cc.toNat : Int)] wr fun e w1 => ∃ z A2 k2 d2, e = .returned (.tuple #[.agg #[.int .i64 z, .slice A2 k2 d2], .bool (rokB M p q rk cc)]) ∧ ∃ w2, Hid (w1.alloc (.cells #[.int .i64 z, .slice A2 k2 d2] 24) = w2) ∧ (w2.cell? ⟨w1.heap.size, 0, none⟩ = some (.int .i64 z) ∧ w2.cell? ⟨w1.heap.size, 1, none⟩ = some (.slice A2 k2 d2)) ∧
          Hid (rokB M p q rk cc = false → FdR w w2 rb m a p q M Bv r (l.take (k + 1)) u5) ∧
          Hid (rokB M p q rk cc = true → ∃ v4 w4, (Builtin.append_ #[42, 42] 42 #[u5, .slice (some ⟨w2.heap.size, 0, none⟩) 1 1]).run Tryd.prog (w2.alloc (.cells #[.int .i64 z, .slice A2 k2 d2] 24)) = .ok v4 w4 ∧ FdR w w4 rb m a p q M Bv r (l.take (k + 1)) v4)) := by
        refine (rbyte_any rb m a p q M Bk rk wr (by rw [hrk]; exact ln) (by rw [hrk]; omega) hM hm0 hm1 h0 h1 cc).mono ?_
        rintro e w1 ⟨z, A2, k2, d2, Bv2, rfl, ln1, hok, t1⟩
        obtain ⟨w2, hw2⟩ : ∃ w2, w1.alloc (.cells #[.int .i64 z, .slice A2 k2 d2] 24) = w2 := ⟨_, rfl⟩
        have b2 : Below w1.heap.size w1 w2 := by rw [← hw2]; exact (Below.refl _ _).alloc (Nat.le_refl _) _
        have bk2 : Blk w2 w1.heap.size 24 [.int .i64 z, .slice A2 k2 d2] := by rw [← hw2]; exact blk_new w1 _ _
        have s2 : w2.heap.size = w1.heap.size + 1 := by rw [← hw2]; simp
        obtain ⟨fl1, hL1⟩ := FdR.more fl hLb t1
        obtain ⟨fl2, hL2⟩ := FdR.more fl1 hL1 (Trn.below Bv2 b2)
        have ln2 := ln1.later b2
        have tr2 : Trn rb Bv Bv2 w w2 := tr.trans (t1.trans (Trn.below Bv2 b2))
        have hws := tr.size
        have h1s := t1.size
        refine ⟨z, A2, k2, d2, rfl, w2, Lib.hid hw2, ⟨bk2.cell 0, bk2.cell 1⟩, ?_, ?_⟩
        · show _ → _
          intro hno
          have er : rout a M p q rk cc = [] := by
            unfold rout
            rw [if_neg]
            rintro ⟨x, y⟩
            unfold rokB at hno
            rw [decide_eq_true x, y] at hno
            cases hno
          refine ⟨Bv2, L, ?_, ?_, hL2, tr2⟩
          · rw [hnx, rrun_app, ← hrk]; exact ln2
          · rw [hnx, rfrs_app, ← hrk, er, List.append_nil]; exact fl2
        · show _ → _
          intro hyes
          obtain ⟨hz1, hz2, hz3⟩ := hok hyes
          have er : rout a M p q rk cc = [(frP (unL rk), frI (unL rk))] := by
            unfold rout
            rw [if_pos]
            unfold rokB at hyes
            rw [Bool.and_eq_true] at hyes
            exact ⟨of_decide_eq_true hyes.1, hyes.2⟩
          obtain ⟨w3, hw3⟩ : ∃ w3, w2.alloc (.cells #[.int .i64 z, .slice A2 k2 d2] 24) = w3 := ⟨_, rfl⟩
          have b3 : Below w2.heap.size w2 w3 := by rw [← hw3]; exact (Below.refl _ _).alloc (Nat.le_refl _) _
          have bk3 : Blk w3 w2.heap.size 24 [.int .i64 z, .slice A2 k2 d2] := by rw [← hw3]; exact blk_new w2 _ _
          have s3 : w3.heap.size = w2.heap.size + 1 := by rw [← hw3]; simp
          obtain ⟨fl3, hL3⟩ := FdR.more fl2 hL2 (Trn.below Bv2 b3)
          have o3 : Own w3 w.heap.size (.slice A2 k2 d2) (frI (unL rk)) := own_lower ((hz2.later b2).later b3) (by omega)
          have o3b : ∀ g, (Value.slice A2 k2 d2).ownBlock = some g → wr.heap.size ≤ g ∧ g < w1.heap.size := fun g e => hz2.block g e
          obtain ⟨v4, w4, r4, fl4, g4, bb4⟩ := appFL_run fl3 w2.heap.size z A2 k2 d2 (frI (unL rk)) (bk3.cell 0) (bk3.cell 1) o3 (by omega) (by omega) (fun g e hg => by have := (hLb g hg).2.2; have := (o3b g e).1; omega)
          have hub : ∀ g, u5.ownBlock = some g → L g ∧ w.heap.size ≤ g := fun g e => by
            obtain ⟨cs, y1, y2, _⟩ := fl3
            exact ⟨y2 g e, (y1.block g e).1⟩
          have s4 := g4.size
          subst hz3
          rw [hw3]
          refine ⟨v4, w4, r4, .slice none 0 0, fun i => L i ∨ v4.ownBlock = some i ∨ (Value.slice A2 k2 d2).ownBlock = some i, ?_, ?_, ?_, ?_⟩
          · rw [hnx, rrun_app, ← hrk]
            exact (ln2.later b3).grown g4 (fun e => (hL3 rb (hub rb e).1).1 rfl) (.inl rfl)
          · rw [hnx, rfrs_app, ← hrk, er, ← hz1]
            exact fl4
          · intro i hi
            refine ⟨?_, by simp [Value.ownBlock], ?_⟩
            · rcases hi with x | x | x
              · exact (hL3 i x).1
              · rcases bb4 with y | y
                · rw [y] at x; exact (hL3 i (hub i x).1).1
                · rw [y] at x; injection x with x; omega
              · have := o3b i x; omega
            · rcases hi with x | x | x
              · have := (hL3 i x).2.2; omega
              · obtain ⟨cs, y1, y2, _⟩ := fl4
                exact (y1.block i x).2
              · have := o3b i x; omega
          · exact (tr2.trans (Trn.below _ b3)).more g4 (fun k e => (hub k e).2)
      obtain ⟨OK, hOK⟩ : ∃ OK, OK = rokB M p q rk cc := ⟨_, rfl⟩
      rw [← hOK] at BC
      have c0 : (0 : Int) ≤ (cc.toNat : Int) := by omega
      have c1 : (cc.toNat : Int) ≤ 255 := by have := cc.toNat_lt; omega
      clear ln fl hLb tr hcell hcc hnx hlen hfl hrk hOK hA1 hA2 hbb
      cases OK
      · go_wp2_with (first
          | (go_at_call 34; (with_reducible refine BC.out.mono ?_); rintro e w1 ⟨z, A2, k2, d2, rfl, w2, HW2, ⟨x0, x1⟩, HN, HY⟩)
          | (rw [HW2.out]))
        go_roundw
        case rel => exact ⟨k + 1, by go_num, by omega, HN.out (by first | rfl | trivial)⟩
        case measure => simp [intOf]; omega
      · have BC2 : Hid (Calls Tryd.prog 34 #[.pointer (some ⟨rb, 0, none⟩), .int .u8 (cc.toNat : Int)] wr fun e w1 => ∃ z A2 k2 d2, e = .returned (.tuple #[.agg #[.int .i64 z, .slice A2 k2 d2], .bool true]) ∧ ∃ w2, Hid (w1.alloc (.cells #[.int .i64 z, .slice A2 k2 d2] 24) = w2) ∧ (w2.cell? ⟨w1.heap.size, 0, none⟩ = some (.int .i64 z) ∧ w2.cell? ⟨w1.heap.size, 1, none⟩ = some (.slice A2 k2 d2)) ∧
            ∃ v4 w4, Hid ((Builtin.append_ #[42, 42] 42 #[u5, .slice (some ⟨w2.heap.size, 0, none⟩) 1 1]).run Tryd.prog (w2.alloc (.cells #[.int .i64 z, .slice A2 k2 d2] 24)) = .ok v4 w4) ∧ Hid (FdR w w4 rb m a p q M Bv r (l.take (k + 1)) v4)) := by
          refine BC.out.mono ?_
          rintro e w1 ⟨z, A2, k2, d2, rfl, w2, HW2, hx, _, HY⟩
          obtain ⟨v4, w4, r4, f4⟩ := HY.out rfl
          exact ⟨z, A2, k2, d2, rfl, w2, HW2, hx, v4, w4, r4, f4⟩
        clear BC
        go_wp2_with (first
          | (go_at_call 34; (with_reducible refine BC2.out.mono ?_); rintro e w1 ⟨z, A2, k2, d2, rfl, w2, HW2, ⟨x0, x1⟩, v4, w4, R4, F4⟩)
          | (rw [HW2.out])
          | (at_builtin; refine wpList_appFO 42 42 rfl (.tmp 25) (.tmp 27) rfl _ _ rfl rfl _ _ R4.out ?_))
        go_roundw
        case rel => exact ⟨k + 1, by go_num, by omega, F4⟩
        case measure => simp [intOf]; omega
    · obtain rfl : k = n := by omega
      have HE := HJ.out
      rw [List.take_of_length_le (by rw [HL.out]; omega)] at HE
      replace HE := Lib.hid HE
      go_wp2
      go_ret
      exact ⟨_, rfl, HE.out⟩
end Go.Proofs.YtmdlpbgelgeiaaaDoor
