/-
  tetherlaw03.HdlcTakes: the state of a round; one piece through both lines.
  tetherlaw03.HdlcTakes: the frames are written over, one by one.
-/
import Derived.Test.YtmdlpbgelgeiaaaDoorHdRFeed
import Derived.Test.YtmdlpbgelgeiaaaDoorHdSameF
import Derived.Test.YtmdlpbgelgeiaaaDoorHdKnown
import Derived.Test.YtmdlpbgelgeiaaaDoorLent
import Derived.Test.YtmdlpbgelgeiaaaDoorKept
import Derived.Test.YtmdlpbgelgeiaaaDoorSpoilB
namespace Go.Proofs.YtmdlpbgelgeiaaaDoor
open Go.RowKit
set_option maxRecDepth 100000
set_option maxHeartbeats 2000000
set_option linter.unusedSimpArgs false
set_option linter.unusedVariables false

structure TkJ (w W : World) (b rb : Nat) (m a : Int) (M : Nat) (p q : Bool) (hv Bv : Value) (s : LSt) (r : RSt) (T : Nat) : Prop where
  ln : LnAt W b a M p q hv s
  rl : RLn W rb m a p q Bv r
  tie : Tie M s r
  bel : Below w.heap.size w W
  lo : w.heap.size ≤ b
  lt : b < rb
  h1 : hv.ownBlock ≠ some rb
  h2 : ∀ g, hv.ownBlock = some g → Bv.ownBlock ≠ some g
  rw : r.raw.length ≤ T
section
variable {w W V V' : World} {b rb : Nat} {m a : Int} {M : Nat} {p q : Bool} {hv Bv : Value} {s : LSt} {r : RSt} {T : Nat}
theorem TkJ.later (h : TkJ w W b rb m a M p q hv Bv s r T) (hB : Below W.heap.size W V) : TkJ w V b rb m a M p q hv Bv s r T :=
  ⟨h.ln.later hB, h.rl.later hB, h.tie, h.bel.trans (hB.mono h.bel.size), h.lo, h.lt, h.h1, h.h2, h.rw⟩
theorem TkJ.drewN (h : TkJ w W b rb m a M p q hv Bv s r T) (k : Nat) : TkJ w (W.drewN k) b rb m a M p q hv Bv s r T :=
  ⟨h.ln.drewN k, h.rl.drewN k, h.tie, below_drewN h.bel k, h.lo, h.lt, h.h1, h.h2, h.rw⟩
theorem TkJ.grown {row : Option Nat} (h : TkJ w W b rb m a M p q hv Bv s r T) (hg : W.grownBy V row) (hr : ∀ k, row = some k → w.heap.size ≤ k ∧ k ≠ b ∧ k ≠ rb ∧ hv.ownBlock ≠ some k ∧ Bv.ownBlock ≠ some k) : TkJ w V b rb m a M p q hv Bv s r T := by
  have nb : row ≠ some b := fun e => (hr b e).2.1 rfl
  have nr : row ≠ some rb := fun e => (hr rb e).2.2.1 rfl
  have nh : hv.ownBlock = none ∨ hv.ownBlock ≠ row := by
    rcases hx : hv.ownBlock with _ | k
    · exact .inl rfl
    · exact .inr (fun e => (hr k e.symm).2.2.2.1 hx)
  have nB : Bv.ownBlock = none ∨ Bv.ownBlock ≠ row := by
    rcases hx : Bv.ownBlock with _ | k
    · exact .inl rfl
    · exact .inr (fun e => (hr k e.symm).2.2.2.2 hx)
  exact ⟨⟨(hg.block b (Blk.lt h.ln.blk) (fun e => nb e.symm)).trans h.ln.blk, h.ln.own.grown hg nh, h.ln.len⟩, h.rl.grown hg nr nB, h.tie, h.bel.grown hg h.bel.size (fun k e => (hr k e).1), h.lo, h.lt, h.h1, h.h2, h.rw⟩
/-- one piece has gone through both -/
theorem TkJ.fed {hv' Bv' : Value} {l : List UInt8} (hM : 4 ≤ M) (h : TkJ w W b rb m a M p q hv Bv s r T) (t1 : Trn b hv hv' W V) (l1 : LnAt V b a M p q hv' (runS a M p q s l)) (t2 : Trn rb Bv Bv' V V') (l2 : RLn V' rb m a p q Bv' (rrun a M p q r l)) :
    TkJ w V' b rb m a M p q hv' Bv' (runS a M p q s l) (rrun a M p q r l) (T + l.length) ∧ frs a M p q s l = rfrs a M p q r l := by
  obtain ⟨y1, y2⟩ := Tie.run hM a p q l h.tie
  have lo := h.lo
  have lt := h.lt
  have bs := h.bel.size
  have rs := Blk.lt h.rl.blk
  have s1 := t1.size
  have s2 := t2.size
  have hl := h.ln.own.block
  have rl := h.rl.own.block
  have h1' : hv'.ownBlock ≠ some rb := fun e => by
    rcases t1.own rb e with x | x
    · exact h.h1 x
    · omega
  have h2' : ∀ g, hv'.ownBlock = some g → Bv.ownBlock ≠ some g := fun g e e2 => by
    have := (rl g e2).2
    rcases t1.own g e with x | x
    · exact h.h2 g x e2
    · omega
  have keep : ∀ g, hv'.ownBlock = some g → V'.heap[g]? = V.heap[g]? := fun g e => by
    have hg := l1.own.block g e
    refine t2.block g hg.2 (fun e3 => h1' (e3 ▸ e)) (h2' g e)
  refine ⟨⟨⟨(t2.block b (Blk.lt l1.blk) (by omega) (fun e => by have := (rl b e).1; omega)).trans l1.blk, own_same l1.own keep, l1.len⟩, l2, y1, ?_, lo, lt, h1', fun g e e2 => ?_, ?_⟩, y2⟩
  · have b1 : Below w.heap.size W V := t1.toBelow w.heap.size bs lo (fun g e => by have := (hl g e).1; omega)
    have b2 : Below w.heap.size V V' := t2.toBelow w.heap.size (by omega) (by omega) (fun g e => by have := (rl g e).1; omega)
    exact h.bel.trans (b1.trans b2)
  · rcases t2.own g e2 with x | x
    · exact h2' g e x
    · have := (l1.own.block g e).2; omega
  · have := rrun_len a M p q l r
    have := h.rw
    omega
theorem TkJ.reset {hv' : Value} (h : TkJ w W b rb m a M p q hv Bv s r T) (l1 : LnAt V b a M p q hv' (rstS s)) (g : W.grownBy V (some b)) (e : hv'.ownBlock = hv.ownBlock) :
    TkJ w (V.setCell ⟨rb, 4, none⟩ (.slice none 0 0)) b rb m a M p q hv' (.slice none 0 0) (rstS s) (rclr r) T := by
  have lt := h.lt
  have lo := h.lo
  have hb := (h.rl.own.block)
  have r1 : RLn V rb m a p q Bv r := h.rl.grown g (fun e => by injection e with e; omega) (by
    rcases hx : Bv.ownBlock with _ | k
    · exact .inl rfl
    · exact .inr (fun e => by injection e with e; have := (hb k hx).1; omega))
  refine ⟨⟨(Below.heap_setCell _ ⟨rb, 4, none⟩ _ b (by show b ≠ rb; omega)).trans l1.blk, l1.own.grown (only_set _) ?_, l1.len⟩, r1.put 4 _ rfl (Own.nil _ _), h.tie.clear, ?_, lo, lt, by rw [e]; exact h.h1, (fun g _ e2 => by cases e2), Nat.zero_le _⟩
  · rw [e]
    exact .inr h.h1
  · exact (h.bel.grown g h.bel.size (fun k e => by injection e with e; omega)).setCell (p := ⟨rb, 4, none⟩) (by show _ ≤ rb; omega) _
end
theorem own_init {W : World} {base g n cap : Nat} {l : List UInt8} {x : UInt8} (h : Own W base (.slice (some ⟨g, 0, none⟩) (n + 1) cap) (l ++ [x])) (hl : l.length = n) : Own W base (.slice (some ⟨g, 0, none⟩) n cap) l := by
  obtain ⟨h1, h2⟩ := h
  rcases h2 with ⟨e, _⟩ | ⟨g', cap', cur, e, hb, hh, hcc, hm, hz, ht⟩
  · cases e
  · injection e with e1 e2 e3
    injection e1 with e1
    injection e1 with e1
    subst e1 e3
    have h4 : (List.map cellOf (l ++ [x])).take l.length = List.map cellOf l := by
      rw [List.map_append]
      simp
    refine ⟨by simp, .inr ⟨g, cap, cur, congrArg (fun z => Value.slice (some ⟨g, 0, none⟩) z cap) hl.symm, hb, hh, ?_, hm, hz, ?_⟩⟩
    · simp at hcc; omega
    · calc List.take (l.length * 1) cur.toList = List.take l.length (List.take ((l ++ [x]).length * 1) cur.toList) := by
            rw [List.take_take]
            congr 1
            simp
        _ = List.take l.length (List.map cellOf (l ++ [x])) := by rw [ht]
        _ = _ := h4
/-- the calls on one piece -/
def TkC (w W : World) (b rb : Nat) (m a : Int) (M : Nat) (p q : Bool) (s : LSt) (r : RSt) (T : Nat) (A : Option Addr) (n c : Nat) (l : List UInt8) (P0 : Addr) : Prop :=
  Calls Tryd.prog 10 #[.slice A n c] W fun e w1 => ∃ g cap, e = .returned (.slice (some ⟨g, 0, none⟩) n cap) ∧
  Hid (Calls Tryd.prog 28 #[.pointer (some ⟨b, 0, none⟩), .slice (some ⟨g, 0, none⟩) n cap] w1 fun e w2 => ∃ A2 n2 c2, e = .returned (.slice A2 n2 c2) ∧ w2.cell? P0 = some (.slice A n c) ∧
  Hid (Calls Tryd.prog 29 #[.pointer (some ⟨rb, 0, none⟩), .slice A n c] w2.drew fun e w3 => ∃ A3 n3 c3, e = .returned (.slice A3 n3 c3) ∧ w3.cell? P0 = some (.slice A n c) ∧
  Hid (Calls Tryd.prog 24 #[.slice A2 n2 c2, .slice A3 n3 c3] w3 fun e w4 => e = .returned (.bool true) ∧ w4.cell? P0 = some (.slice A n c) ∧
  Hid (Calls Tryd.prog 20 #[.slice (some ⟨g, 0, none⟩) n cap, .slice A n c] w4 fun e w5 => e = .returned (.bool true) ∧ w5.cell? P0 = some (.slice A n c) ∧ ∃ x0 x1 x2 x3 x4 x5 : Int,
    (w5.cell? ⟨rb, 5, none⟩ = some (.int .i64 x0) ∧ w5.cell? ⟨rb, 6, none⟩ = some (.int .i64 x1) ∧ w5.cell? ⟨rb, 7, none⟩ = some (.int .i64 x2) ∧ w5.cell? ⟨rb, 8, none⟩ = some (.int .i64 x3) ∧ w5.cell? ⟨rb, 9, none⟩ = some (.int .i64 x4) ∧ w5.cell? ⟨rb, 10, none⟩ = some (.int .i64 x5)) ∧
  Hid (Calls Tryd.prog 31 #[.pointer (some ⟨b, 0, none⟩)] w5 fun e w6 => e = .returned (.agg #[.int .i64 x0, .int .i64 x1, .int .i64 x2, .int .i64 x3, .int .i64 x4, .int .i64 x5]) ∧ w6.cell? P0 = some (.slice A n c) ∧
    (w6.cell? ⟨rb, 5, none⟩ = some (.int .i64 x0) ∧ w6.cell? ⟨rb, 6, none⟩ = some (.int .i64 x1) ∧ w6.cell? ⟨rb, 7, none⟩ = some (.int .i64 x2) ∧ w6.cell? ⟨rb, 8, none⟩ = some (.int .i64 x3) ∧ w6.cell? ⟨rb, 9, none⟩ = some (.int .i64 x4) ∧ w6.cell? ⟨rb, 10, none⟩ = some (.int .i64 x5)) ∧
  Hid (Calls Tryd.prog 30 #[.agg #[.int .i64 x0, .int .i64 x1, .int .i64 x2, .int .i64 x3, .int .i64 x4, .int .i64 x5], .agg #[.int .i64 x0, .int .i64 x1, .int .i64 x2, .int .i64 x3, .int .i64 x4, .int .i64 x5]] w6 fun e w7 => e = .returned (.bool true) ∧ w7.cell? P0 = some (.slice A n c) ∧
  Hid (Calls Tryd.prog 19 #[.slice (some ⟨g, 0, none⟩) n cap] w7 fun e w8 => e = .returned (.tuple #[]) ∧
  Hid (∃ hv' Bv' L, TkJ w w8 b rb m a M p q hv' Bv' (runS a M p q s l) (rrun a M p q r l) (T + l.length) ∧ FL w8 W.heap.size (.slice A2 n2 c2) (frs a M p q s l) L ∧ (∀ i, L i → i ≠ b ∧ i ≠ rb ∧ hv'.ownBlock ≠ some i ∧ Bv'.ownBlock ≠ some i ∧ w.heap.size ≤ i ∧ i < w8.heap.size) ∧ W.heap.size ≤ w8.heap.size))))))))
theorem FL.base_leF {W : World} {base base' : Nat} {v : Value} {fs : List Frm} {L : Nat → Prop} (h : FL W base v fs L) (hb : base' ≤ base) : FL W base' v fs L := by
  obtain ⟨cs, h1, h2, h3, h4⟩ := h
  refine ⟨cs, ⟨h1.1, ?_⟩, h2, fun i hi => ?_, h4⟩
  · rcases h1.2 with h | ⟨g', cap, cur, x1, x2, x3⟩
    · exact .inl h
    · exact .inr ⟨g', cap, cur, x1, by omega, x3⟩
  · obtain ⟨a, E, k, c, b, o, l⟩ := h3 i hi
    exact ⟨a, E, k, c, b, own_lower o hb, l⟩
theorem FL.lowR {W : World} {base : Nat} {v : Value} {fs : List Frm} {L : Nat → Prop} (h : FL W base v fs L) : FL W base v fs (fun i => L i ∧ base ≤ i) := by
  obtain ⟨cs, h1, h2, h3, h4⟩ := h
  refine ⟨cs, h1, fun g e => ⟨h2 g e, (h1.block g e).1⟩, fun i hi => ?_, h4⟩
  obtain ⟨a, E, k, c, b, o, l⟩ := h3 i hi
  exact ⟨a, E, k, c, b, o, fun g e => ⟨l g e, (o.block g e).1⟩⟩
theorem tk_c (w W : World) (b rb : Nat) (m a : Int) (M : Nat) (p q : Bool) (hv Bv : Value) (s : LSt) (r : RSt) (T : Nat) (A : Option Addr) (n c : Nat) (l : List UInt8) (P0 : Addr) (h : TkJ w W b rb m a M p q hv Bv s r T) (hM : (M : Int) = m + 6) (hm0 : 64 ≤ m) (hm1 : m ≤ 16384) (h0 : 0 ≤ a) (h1 : a < 4294967296) (hT : Tab16 w)
    (hr : Rd w w.heap.size A n l) (hA : A = none → c = 0) (hnc : n ≤ c) (hn : n ≤ 1048576) (hTb : T ≤ 1048576) (hP : P0.block < w.heap.size) (hc : w.cell? P0 = some (.slice A n c)) : TkC w W b rb m a M p q s r T A n c l P0 := by
  have hl := hr.1
  have lo := h.lo
  have lt := h.lt
  have bs := h.bel.size
  have rs := Blk.lt h.rl.blk
  have hg0 := tab_lt hT
  have CL : ∀ V, Below w.heap.size w V → V.cell? P0 = some (.slice A n c) := fun V hV => (hV.cell hP).trans hc
  unfold TkC
  refine (lent_any A n c l W ((hr.below h.bel).wide bs) hA (by omega)).mono ?_
  rintro e w1 ⟨g, cap, rfl, o1, b1⟩
  have hlen : n + 1 = (l ++ [77]).length := by simp [hl]
  have hcap : n + 1 ≤ cap := by
    rcases o1.form with ⟨e, _⟩ | ⟨g', cap', e, _, _, h⟩
    · cases e
    · injection e with e1 e2 e3
      omega
  have rg := o1.rd hlen n (by omega)
  rw [List.take_append_of_le_length (by omega), List.take_of_length_le (by omega)] at rg
  have hgb := o1.block g rfl
  have j1 := h.later b1
  have s1 := b1.size
  refine ⟨g, cap, rfl, Lib.hid ?_⟩
  have hvb := h.ln.own.block
  have Bvb := h.rl.own.block
  refine (feed_any b a M p q (by omega) s hv (some ⟨g, 0, none⟩) n cap l w1 j1.ln (rg.wide (by first | exact Nat.le_refl _ | omega)) (by omega) (by omega) (hT.kept j1.bel) (by omega) (fun _ g' o' s' e => by
    injection e with e
    injection e with e
    subst e
    exact ⟨by omega, fun e => by have := (hvb _ e).2; omega⟩)).mono ?_
  rintro e w2 ⟨v2, hv', L, rfl, fl, hL, ln2, t2⟩
  obtain ⟨A2, c2, rfl⟩ := fl.own.shape
  have s2 := t2.size
  have B2 : Below w.heap.size w w2 := j1.bel.trans (t2.toBelow w.heap.size (by omega) (by omega) (fun g e => by have := (hvb g e).1; omega))
  have D2 : Below w.heap.size w w2.drew := below_drewN B2 1
  refine ⟨A2, _, c2, rfl, CL _ B2, Lib.hid ?_⟩
  have rl2 : RLn w2 rb m a p q Bv r := by
    refine ⟨(t2.block rb (Blk.lt j1.rl.blk) (by omega) h.h1).trans j1.rl.blk, own_same j1.rl.own (fun g' e => t2.block g' (j1.rl.own.block g' e).2 (by have := (Bvb g' e).1; omega) (fun e2 => h.h2 g' e2 e))⟩
  have hrw := h.rw
  refine (rfeed_any rb m a p q M Bv r A n c l w2.drew (rl2.drewN 1) ((hr.below D2).wide (by show _ ≤ w2.heap.size; omega)) (by omega) (by omega) hM hm0 hm1 h0 h1 (fun hn0 g' o' s' e => by
    obtain ⟨b', o'', e', hb', _⟩ := hr.2 hn0
    rw [e'] at e
    injection e with e
    injection e with e
    subst e
    exact ⟨by omega, fun e => by have := (Bvb _ e).1; omega⟩)).mono ?_
  rintro e w3 ⟨v3, rfl, Bv', L3, rl3, fl3, hL3, t3'⟩
  have t3 : Trn rb Bv Bv' w2 w3 := ⟨t3'.os, t3'.tape, t3'.output, t3'.size, t3'.block, t3'.own⟩
  obtain ⟨j3, hfr⟩ := j1.fed (by omega) t2 ln2 t3 rl3
  obtain ⟨A3, c3, rfl⟩ := fl3.own.shape
  refine ⟨A3, _, c3, rfl, CL _ j3.bel, Lib.hid ?_⟩
  have s3 := t3.size
  -- the frames that the program told, behind the reference's bytes
  have rl2b := rl2.own.block
  have hL2 : ∀ i, (L i ∧ w1.heap.size ≤ i) → i ≠ rb ∧ Bv.ownBlock ≠ some i := fun i hi => ⟨by have := Blk.lt j1.rl.blk; omega, fun e => by have := (j1.rl.own.block i e).2; omega⟩
  have fl' : FL w3 w1.heap.size (.slice A2 (frs a M p q s l).length c2) (frs a M p q s l) (fun i => L i ∧ w1.heap.size ≤ i) := fl.lowR.same (fun i hi => t3.block i (hL i hi.1).2.2 (hL2 i hi).1 (hL2 i hi).2)
  have hhl : s.held.length ≤ M + 1 := h.ln.len
  have fb : ∀ o ∈ frs a M p q s l, o.2.length ≤ 140737488351232 := fun o ho => by
    have := frs_bytes a M p q l s hhl o ho
    omega
  obtain ⟨_, _, e2, r2, _, _⟩ := fl'.own.rd fb
  injection e2 with e2a e2b e2c
  subst e2a e2c
  obtain ⟨_, _, e3, r3, _, _⟩ := fl3.own.rd (by rw [← hfr]; exact fb)
  injection e3 with e3a e3b e3c
  subst e3a e3c
  have k1 := frs_le a M p q l s
  have k2 := rfrs_le a M p q l r
  refine (sameframes_any A2 A3 _ _ c2 c3 w3.heap.size _ _ w3 r2 r3 (by omega) (by omega)).mono ?_
  rintro e w4 ⟨rfl, q4, rfl⟩
  have j4 := j3.drewN q4
  refine ⟨by rw [decide_eq_true hfr], CL _ j4.bel, Lib.hid ?_⟩
  -- own is as it was
  have og1 : ∀ g', (Value.slice (some ⟨g, 0, none⟩) (n + 1) cap).ownBlock = some g' → g' = g := fun g' e => by injection e with e; exact e.symm
  have o3 : Own w3 W.heap.size (.slice (some ⟨g, 0, none⟩) (n + 1) cap) (l ++ [77]) := by
    refine own_same (W := w2) (own_same (W' := w2) o1 (fun g' e => ?_)) (fun g' e => ?_)
    · rw [og1 g' e]
      exact t2.block g hgb.2 (by omega) (fun e => by have := (hvb g e).2; omega)
    · rw [og1 g' e]
      exact t3.block g (by omega) (by omega) (fun e => by have := (Bvb g e).2; omega)
  refine (kept_any A g n c cap W.heap.size w.heap.size l (w3.drewN q4) (o3.drewN q4) (hr.below j4.bel) (by omega)).mono ?_
  rintro e w5 ⟨rfl, q5, rfl⟩
  have j5 := j4.drewN q5
  have tj := j5.tie
  refine ⟨rfl, CL _ j5.bel, _, _, _, _, _, _, ⟨j5.rl.blk.cell 5, j5.rl.blk.cell 6, j5.rl.blk.cell 7, j5.rl.blk.cell 8, j5.rl.blk.cell 9, j5.rl.blk.cell 10⟩, Lib.hid ?_⟩
  refine (ucounts_any b a M p q hv' _ _ j5.ln).mono ?_
  rintro e w6 ⟨rfl, b6⟩
  have j6 := j5.later b6
  have ti := j6.tie
  refine ⟨by unfold cntV; rw [ti.fr, ti.ru, ti.gi, ti.su, ti.ab, ti.wr], CL _ j6.bel, ⟨j6.rl.blk.cell 5, j6.rl.blk.cell 6, j6.rl.blk.cell 7, j6.rl.blk.cell 8, j6.rl.blk.cell 9, j6.rl.blk.cell 10⟩, Lib.hid ?_⟩
  refine (counts_yes _ _ _ _ _ _ w6).mono ?_
  rintro e w7 ⟨rfl, b7⟩
  have j7 := j6.later b7
  refine ⟨rfl, CL _ j7.bel, Lib.hid ?_⟩
  have b37 : Below w3.heap.size w3 w7 := ((below_drewN (below_drewN (Below.refl w3.heap.size w3) q4) q5).trans b6).trans (b7.mono (by have := b6.size; exact this))
  have o7 : Own w7 W.heap.size (.slice (some ⟨g, 0, none⟩) (n + 1) cap) (l ++ [77]) := o3.later b37
  refine (spoil_row g n cap W.heap.size l w7 hl.symm (own_init o7 hl) (by have := b37.size; omega) (by have := b37.size; omega) (by omega)).mono ?_
  rintro e w8 ⟨rfl, g8⟩
  refine ⟨rfl, Lib.hid ?_⟩
  have hvg : hv'.ownBlock ≠ some g := fun e => by
    rcases t2.own g e with x | x
    · have := (hvb g x).2; omega
    · omega
  have bvg : Bv'.ownBlock ≠ some g := fun e => by
    rcases t3.own g e with x | x
    · have := (Bvb g x).2; omega
    · omega
  have s8 := g8.size
  have s37 := b37.size
  refine ⟨hv', Bv', _, j7.grown g8 (fun k e => by injection e with e; subst e; exact ⟨by omega, by omega, by omega, hvg, bvg⟩), (fl'.same (fun i hi => (g8.block i ?_ ?_).trans (b37.block i ?_))).base_leF (by omega), (fun i hi => ⟨(hL i hi.1).1, (hL2 i hi).1, (hL i hi.1).2.1, fun e => ?_, by omega, ?_⟩), by omega⟩
  · have := (hL i hi.1).2.2; omega
  · intro e; injection e with e; omega
  · have := (hL i hi.1).2.2; omega
  · rcases t3.own i e with x | x
    · exact (hL2 i hi).2 x
    · have := (hL i hi.1).2.2; omega
  · have := (hL i hi.1).2.2; omega
end Go.Proofs.YtmdlpbgelgeiaaaDoor
namespace Go.Proofs.YtmdlpbgelgeiaaaDoor
open Go.RowKit
set_option maxRecDepth 100000
set_option maxHeartbeats 2000000
set_option linter.unusedSimpArgs false
set_option linter.unusedVariables false

/-- the frames from k on are as they were -/
structure SpJ (w W8 V : World) (b rb : Nat) (m a : Int) (M : Nat) (p q : Bool) (hv Bv : Value) (s : LSt) (r : RSt) (T : Nat) (v : Value) (cs : List Value) (k : Nat) : Prop where
  tk : TkJ w V b rb m a M p q hv Bv s r T
  row : ∀ g, v.ownBlock = some g → V.heap[g]? = W8.heap[g]?
  inf : ∀ i x g, k ≤ i → cs[i * 2 + 1]? = some x → x.ownBlock = some g → V.heap[g]? = W8.heap[g]?
  sz : W8.heap.size ≤ V.heap.size
/-- the frames as they lie there -/
structure SpF (w W8 : World) (base b rb : Nat) (hv Bv v : Value) (fs : List Frm) (cs : List Value) : Prop where
  own : OwnFO W8 base v fs.length cs
  inf : ∀ i (h : i < fs.length), ∃ E k c, cs[i * 2 + 1]? = some (.slice E k c) ∧ Own W8 base (.slice E k c) fs[i].2 ∧ ∀ g, (Value.slice E k c).ownBlock = some g → g ≠ b ∧ g ≠ rb ∧ hv.ownBlock ≠ some g ∧ Bv.ownBlock ≠ some g ∧ w.heap.size ≤ g
  apart : ∀ i j, i < fs.length → j < fs.length → i ≠ j → ∀ x y, cs[i * 2 + 1]? = some x → cs[j * 2 + 1]? = some y → ∀ g, x.ownBlock = some g → y.ownBlock ≠ some g
  low : base ≤ W8.heap.size
  bytes : ∀ o ∈ fs, o.2.length ≤ 140737488351232
theorem sp_step {w W8 V : World} {base b rb : Nat} {m a : Int} {M : Nat} {p q : Bool} {hv Bv : Value} {s : LSt} {r : RSt} {T : Nat} {v : Value} {fs : List Frm} {cs : List Value} {k : Nat} (hF : SpF w W8 base b rb hv Bv v fs cs) (h : SpJ w W8 V b rb m a M p q hv Bv s r T v cs k) (hk : k < fs.length) :
    ∃ g2 cap E kk c, v = .slice (some ⟨g2, 0, none⟩) fs.length cap ∧ V.cell? ⟨g2, k * 2 + 1, none⟩ = some (.slice E kk c) ∧
      Calls Tryd.prog 19 #[.slice E kk c] V fun e V' => e = .returned (.tuple #[]) ∧ SpJ w W8 V' b rb m a M p q hv Bv s r T v cs (k + 1) := by
  obtain ⟨E, kk, c, hx, ho, hb⟩ := hF.inf k hk
  have hown := hF.own
  obtain ⟨g2, cap, rfl⟩ : ∃ g2 cap, v = .slice (some ⟨g2, 0, none⟩) fs.length cap := by
    rcases hown.2 with ⟨rfl, h0⟩ | ⟨g, cap, cur, e, _⟩
    · omega
    · exact ⟨g, cap, e⟩
  refine ⟨g2, cap, E, kk, c, rfl, ?_, ?_⟩
  · have h3 := World.ownsRow.cells hown (g := g2) rfl (k * 2 + 1) _ hx
    rw [addr_addF] at h3
    exact (World.cell?_of_block (a := ⟨g2, k * 2 + 1, none⟩) (h.row g2 rfl)).trans h3
  · have ho' : Own V base (.slice E kk c) fs[k].2 := own_same ho (fun g e => h.inf k _ g (Nat.le_refl _) hx e)
    have hle := hF.bytes _ (List.getElem_mem hk)
    refine (spoil_own _ base _ V ho' (Nat.le_trans hF.low h.sz) (by omega)).mono ?_
    rintro e V' ⟨rfl, g8⟩
    refine ⟨rfl, h.tk.grown g8 (fun g e => ?_), fun g e => ?_, fun i x g hi hxi e => ?_, Nat.le_trans h.sz g8.size⟩
    · obtain ⟨x1, x2, x3, x4, x5⟩ := hb g e
      exact ⟨x5, x1, x2, x3, x4⟩
    · have hlt := (hown.block g e).2
      have := h.sz
      refine (g8.block g (by omega) (fun e2 => ?_)).trans (h.row g e)
      rcases own_otherF hown ho with z | z
      · rw [z] at e2; cases e2
      · exact z (e2.symm.trans e.symm)
    · by_cases hil : i < fs.length
      · obtain ⟨E2, k2, c2, hx2, ho2, _⟩ := hF.inf i hil
        rw [hxi] at hx2
        injection hx2 with hx2
        subst hx2
        have hlt := (ho2.block g e).2
        have := h.sz
        refine (g8.block g (by omega) (fun e2 => ?_)).trans (h.inf i _ g (by omega) hxi e)
        exact hF.apart i k hil hk (by omega) _ _ hxi hx g e e2.symm
      · exfalso
        have := hown.1
        have h9 := (List.getElem?_eq_some_iff.1 hxi).1
        omega
theorem sp_start {w W8 : World} {base b rb : Nat} {m a : Int} {M : Nat} {p q : Bool} {hv Bv : Value} {s : LSt} {r : RSt} {T : Nat} {v : Value} {fs : List Frm} {L : Nat → Prop} (h : TkJ w W8 b rb m a M p q hv Bv s r T) (fl : FL W8 base v fs L) (hL : ∀ i, L i → i ≠ b ∧ i ≠ rb ∧ hv.ownBlock ≠ some i ∧ Bv.ownBlock ≠ some i ∧ w.heap.size ≤ i ∧ i < W8.heap.size) (hlow : base ≤ W8.heap.size) (hb : ∀ o ∈ fs, o.2.length ≤ 140737488351232) :
    ∃ cs, SpF w W8 base b rb hv Bv v fs cs ∧ SpJ w W8 W8 b rb m a M p q hv Bv s r T v cs 0 := by
  obtain ⟨cs, h1, h2, h3, h4⟩ := fl
  refine ⟨cs, ⟨h1, fun i hi => ?_, h4, hlow, hb⟩, h, fun _ _ => rfl, fun _ _ _ _ _ _ => rfl, Nat.le_refl _⟩
  obtain ⟨_, E, k, c, e, o, l⟩ := h3 i hi
  exact ⟨E, k, c, e, o, fun g hg => by obtain ⟨x1, x2, x3, x4, x5, _⟩ := hL g (l g hg); exact ⟨x1, x2, x3, x4, x5⟩⟩
end Go.Proofs.YtmdlpbgelgeiaaaDoor
