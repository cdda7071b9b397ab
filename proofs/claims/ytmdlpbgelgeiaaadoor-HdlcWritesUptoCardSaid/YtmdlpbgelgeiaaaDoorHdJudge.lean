/-
  hdlc.Line: judge.
-/
import Derived.Test.YtmdlpbgelgeiaaaDoorHdTake
import Derived.Deep.RegionHeld3
namespace Go.Proofs.YtmdlpbgelgeiaaaDoor
open Go.RowKit
set_option maxRecDepth 100000
set_option maxHeartbeats 2000000
set_option linter.unusedSimpArgs false
set_option linter.unusedVariables false

def inc (z : Int) : Int := wrap64 (z + 1)
/-- what becomes of bytes that can be a frame: 0 it is one, 1 another sum, 2 it can not be read -/
def jdK (p q : Bool) (l : List UInt8) : Nat := if crc P16 65535 l ≠ 61624 then 1 else if pE (l.take (l.length - 2)) p q ≠ 0 then 2 else 0
def jdS (p q : Bool) (s : LSt) (l : List UInt8) : LSt := if jdK p q l = 0 then { s with fr := inc s.fr } else if jdK p q l = 1 then { s with su := inc s.su } else { s with wr := inc s.wr }
def frP (l : List UInt8) : Int := pP (l.take (l.length - 2))
def frI (l : List UInt8) : List UInt8 := pI (l.take (l.length - 2))
/-- a frame of the call's own -/
def FrR (w W : World) (z : Int) (A : Option Addr) (m c : Nat) (P : Int) (I : List UInt8) : Prop := z = P ∧ m = I.length ∧ Own W w.heap.size (.slice A m c) I
def JdR (w W : World) (b : Nat) (a : Int) (M : Nat) (p q : Bool) (hv : Value) (s : LSt) (l : List UInt8) (e : Ending) : Prop :=
  ∃ z A m c, e = .returned (.tuple #[.agg #[.int .i64 z, .slice A m c], .bool (jdK p q l == 0)]) ∧ LnAt W b a M p q hv (jdS p q s l) ∧ Trn b hv hv w W ∧ (jdK p q l = 0 → FrR w W z A m c (frP l) (frI l)) ∧ (jdK p q l ≠ 0 → z = 0 ∧ m = 0 ∧ A = none ∧ c = 0)
theorem FrR.lower {w w' W : World} {z : Int} {A : Option Addr} {m c : Nat} {P : Int} {I : List UInt8} (h : FrR w W z A m c P I) (hs : w'.heap.size ≤ w.heap.size) : FrR w' W z A m c P I := ⟨h.1, h.2.1, own_lower h.2.2 hs⟩
theorem FrR.alloc {w W : World} {z : Int} {A : Option Addr} {m c : Nat} {P : Int} {I : List UInt8} (h : FrR w W z A m c P I) (o : Obj) : FrR w (W.alloc o) z A m c P I := ⟨h.1, h.2.1, h.2.2.alloc o⟩
theorem FrR.other {w W : World} {z : Int} {A : Option Addr} {m c : Nat} {P : Int} {I : List UInt8} (h : FrR w W z A m c P I) (k i : Nat) (u : Value) (hk : k < w.heap.size) : FrR w (W.setCell ⟨k, i, none⟩ u) z A m c P I := by
  refine ⟨h.1, h.2.1, h.2.2.grown (only_set _) ?_⟩
  rcases hg : (Value.slice A m c).ownBlock with _ | g
  · exact .inl rfl
  · exact .inr (fun e => by have := (h.2.2.block g hg).1; injection e with e; simp at e; omega)
theorem below_dS {B : Nat} {a w : World} (h : Below B a w) : Below B a w.drew := ⟨h.os, h.tape, h.output, h.size, h.block⟩
theorem new_neq (w : World) (p : Addr) {v : Value} (h : w.cell? p = some v) : w.heap.size ≠ p.block := by
  intro e
  have : w.heap[p.block]? = none := by rw [← e]; exact Array.getElem?_eq_none (Nat.le_refl _)
  simp [World.cell?, this] at h

theorem LnAt.other {W : World} {b : Nat} {a : Int} {M : Nat} {p q : Bool} {hv : Value} {s : LSt} (h : LnAt W b a M p q hv s) (k i : Nat) (u : Value) (hk : k ≠ b) (ho : hv.ownBlock ≠ some k) : LnAt (W.setCell ⟨k, i, none⟩ u) b a M p q hv s :=
  ⟨(Below.heap_setCell W ⟨k, i, none⟩ u b (Ne.symm hk)).trans h.blk, h.own.grown (only_set _) (.inr ho), h.len⟩
theorem Trn.fresh {b : Nat} {h1 h2 : Value} {A B : World} (h : Trn b h1 h2 A B) (k i : Nat) (u : Value) (hk : A.heap.size ≤ k) : Trn b h1 h2 A (B.setCell ⟨k, i, none⟩ u) :=
  ⟨h.os, h.tape, h.output, by have := h.size; simpa [World.setCell] using this, fun j hj hb hn => (Below.heap_setCell B ⟨k, i, none⟩ u j (by show j ≠ k; omega)).trans (h.block j hj hb hn), h.own⟩
/-- the counter is set, then the answer's frame is written -/
theorem jd_fin {W V : World} {b : Nat} {a : Int} {M : Nat} {p q : Bool} {hv : Value} {s s' : LSt} (h : LnAt W b a M p q hv s) (hV : Below W.heap.size W V) (i : Nat) (v x y : Value) (e : (lnT M p q hv s).set i v = lnT M p q hv s') (hs : s'.held = s.held) :
    LnAt (((V.setCell ⟨b, 256 + i, none⟩ v).setCell ⟨W.heap.size, 0, none⟩ x).setCell ⟨W.heap.size, 1, none⟩ y) b a M p q hv s' ∧ Trn b hv hv W (((V.setCell ⟨b, 256 + i, none⟩ v).setCell ⟨W.heap.size, 0, none⟩ x).setCell ⟨W.heap.size, 1, none⟩ y) := by
  have hb := Blk.lt h.blk
  have hL := h.later hV
  have hno : hv.ownBlock ≠ some W.heap.size := fun e => by have := (h.own.block _ e).2; omega
  have h1 : LnAt (V.setCell ⟨b, 256 + i, none⟩ v) b a M p q hv s' := hL.put i v e (by rw [hs]; exact hL.own) (by rw [hs]; exact hL.len)
  refine ⟨(h1.other _ 0 x (by omega) hno).other _ 1 y (by omega) hno, ?_⟩
  exact (((Trn.below hv hV).trans (Trn.set b hv V (256 + i) v)).fresh _ 0 x (Nat.le_refl _)).fresh _ 1 y (Nat.le_refl _)

theorem judge_sum (b : Nat) (a : Int) (M : Nat) (p q : Bool) (hv : Value) (s : LSt) (A : Option Addr) (n c B : Nat) (l : List UInt8) (W : World) (h : LnAt W b a M p q hv s) (hr : Rd W B A n l) (hB : B ≤ W.heap.size) (hc : n ≤ c) (hn : 4 ≤ n) (hm : n ≤ 140737488355328) (hT : Tab16 W) (hg : crc P16 65535 l ≠ 61624) :
    Calls Tryd.prog 54 #[.pointer (some ⟨b, 0, none⟩), .slice A n c] W fun e w' => JdR W w' b a M p q hv s l e := by
  obtain ⟨W1, hW1⟩ : ∃ W1, W.alloc (.cells #[.int .i64 0, .slice none 0 0] 24) = W1 := ⟨_, rfl⟩
  have hs1 : W1.heap.size = W.heap.size + 1 := by rw [← hW1]; simp
  have hb1 : Below W.heap.size W W1 := by rw [← hW1]; exact (Below.refl _ _).alloc (Nat.le_refl _) _
  have hk1 : Blk W1 W.heap.size 24 [.int .i64 0, .slice none 0 0] := by rw [← hW1]; exact blk_new W _ _
  have CC := Lib.hid (cut16_bad A n c B l W1 (hr.below (hb1.mono hB)) hc (by omega) (by unfold maxLen; omega) (hT.kept hb1) hg)
  have hL1 := h.later hb1
  have hj : jdK p q l = 1 := by unfold jdK; rw [if_pos hg]
  have HJ : Hid (∀ k, JdR W ((((W1.drewN k).setCell ⟨b, 265, none⟩ (.int .i64 (wrap64 (s.su + 1)))).setCell ⟨W.heap.size, 0, none⟩ (.int .i64 0)).setCell ⟨W.heap.size, 1, none⟩ (.slice none 0 0)) b a M p q hv s l (.returned (.tuple #[.agg #[.int .i64 0, .slice none 0 0], .bool false]))) := by
    show ∀ k, _
    intro k
    obtain ⟨x1, x2⟩ := jd_fin (s' := { s with su := inc s.su }) h (below_drewN hb1 k) 9 (.int .i64 (wrap64 (s.su + 1))) (.int .i64 0) (.slice none 0 0) rfl rfl
    refine ⟨0, none, 0, 0, by rw [hj]; rfl, ?_, x2, fun e => by omega, fun _ => ⟨rfl, rfl, rfl, rfl⟩⟩
    have e : jdS p q s l = { s with su := inc s.su } := by unfold jdS; rw [if_neg (by omega), if_pos hj]
    rw [e]
    exact x1
  have z0 : W.heap.size < W1.heap.size := by omega
  have zb := Blk.lt h.blk
  have c265 : W1.cell? ⟨b, 265, none⟩ = some (.int .i64 s.su) := hL1.cell 9
  have f265 := hL1.blk.frozen 265
  have c0 : W1.cell? ⟨W.heap.size, 0, none⟩ = some (.int .i64 0) := hk1.cell 0
  have c1 : W1.cell? ⟨W.heap.size, 1, none⟩ = some (.slice none 0 0) := hk1.cell 1
  have f0 := hk1.frozen 0
  have f1 := hk1.frozen 1
  have HW1 := Lib.hid hW1
  have HL1 := Lib.hid hL1
  have HB1 := Lib.hid hb1
  have HS1 := Lib.hid hs1
  have hne : ¬ W.heap.size = b := by omega
  have hne2 : ¬ b = W.heap.size := by omega
  clear hW1 hs1 hb1 hk1 hL1 h hr hT hg hj
  go_enter Tryd.func54, Tryd.ntmps54
  go_upto_region 1 with (fail)
  rw [HW1.out]
  go_wp2_with (go_at_call 56; refine CC.out.mono ?_; rintro e w2 ⟨rfl, k, rfl⟩)
  exact bodyPost_ret (v := .tuple #[.agg #[.int .i64 0, .slice none 0 0], .bool false]) (by simp [results, Tryd.results54, go_sem, c0, c1]) rfl (HJ.out k)

theorem judge_read (b : Nat) (a : Int) (M : Nat) (p q : Bool) (hv : Value) (s : LSt) (A : Option Addr) (n c B : Nat) (l : List UInt8) (W : World) (h : LnAt W b a M p q hv s) (hr : Rd W B A n l) (hB : B ≤ W.heap.size) (hc : n ≤ c) (hn : 4 ≤ n) (hm : n ≤ 140737488355328) (hT : Tab16 W) (hg : crc P16 65535 l = 61624) :
    Calls Tryd.prog 54 #[.pointer (some ⟨b, 0, none⟩), .slice A n c] W fun e w' => JdR W w' b a M p q hv s l e := by
  obtain ⟨W1, hW1⟩ : ∃ W1, W.alloc (.cells #[.int .i64 0, .slice none 0 0] 24) = W1 := ⟨_, rfl⟩
  have hs1 : W1.heap.size = W.heap.size + 1 := by rw [← hW1]; simp
  have hb1 : Below W.heap.size W W1 := by rw [← hW1]; exact (Below.refl _ _).alloc (Nat.le_refl _) _
  have hk1 : Blk W1 W.heap.size 24 [.int .i64 0, .slice none 0 0] := by rw [← hW1]; exact blk_new W _ _
  have hl := hr.1
  have hL1 := h.later hb1
  have zb := Blk.lt h.blk
  obtain ⟨m, hmm⟩ : ∃ m, m = l.take (l.length - 2) := ⟨_, rfl⟩
  obtain ⟨n2, hn2⟩ : ∃ n2, n2 = n - 2 := ⟨_, rfl⟩
  obtain ⟨E, hE⟩ : ∃ E, E = pE m p q := ⟨_, rfl⟩
  have hjk : jdK p q l = if E ≠ 0 then 2 else 0 := by unfold jdK; rw [if_neg (by rw [hg]; simp), ← hmm, ← hE]
  -- what Parse answers, in any later world
  have CC := (cut16_ok A n c B l W1 (hr.below (hb1.mono hB)) (by omega) hc (by omega) hm (hT.kept hb1) hg).mono (R' := fun e w2 => ∃ g, e = .returned (.tuple #[.slice (some ⟨g, 0, none⟩) n2 n2, .int .i64 0]) ∧ Below W1.heap.size W1 w2 ∧ w2.cell? ⟨b, 257, none⟩ = some (.bool p) ∧ w2.cell? ⟨b, 258, none⟩ = some (.bool q) ∧
      Hid (∀ X, Below w2.heap.size w2 X → Calls Tryd.prog 22 #[.slice (some ⟨g, 0, none⟩) n2 n2, .bool p, .bool q] X fun e w4 => ∃ z A4 m4 c4, e = .returned (.tuple #[.agg #[.int .i64 z, .slice A4 m4 c4], .int .i64 E]) ∧ Below X.heap.size X w4 ∧ Hid (Below W1.heap.size W1 w4) ∧ Hid (E = 0 → FrR X w4 z A4 m4 c4 (frP l) (frI l)))) (by
    rintro e w2 ⟨g, rfl, ho2, hb2⟩
    have hL2 := hL1.later hb2
    rw [← hn2] at ho2
    refine ⟨g, by rw [hn2], hb2, hL2.cell 1, hL2.cell 2, ?_⟩
    show ∀ X, _
    intro X hX
    have hmt : l.take n2 = m := by rw [hmm, hl, hn2]
    have ln : n2 = m.length := by rw [hmm, List.length_take, hn2]; omega
    rw [hmt] at ho2
    have hrd := ho2.rd ln n2 (Nat.le_refl _)
    rw [ln, List.take_length, ← ln] at hrd
    have hs2 := hb2.size
    refine (parse_any (some ⟨g, 0, none⟩) n2 n2 w2.heap.size m p q X (hrd.later (Nat.le_refl _) hX) hX.size (Nat.le_refl _) (by simp) (by omega)).mono ?_
    rintro e w4 ⟨v, rfl, hpr, hb4⟩
    unfold PrsR at hpr
    rw [← hE] at hpr
    have hsx := hX.size
    have hf : Below W1.heap.size W1 w4 := (hb2.trans (hX.mono hs2)).trans (hb4.mono (by omega))
    by_cases hz : E = 0
    · rw [if_pos hz] at hpr
      obtain ⟨A4, m4, c4, rfl, hm4, ho4⟩ := hpr
      refine ⟨pP m, A4, m4, c4, by rw [← hE], hb4, hf, fun _ => ⟨by rw [hmm]; rfl, by rw [hm4, hmm]; rfl, ?_⟩⟩
      rw [hmm] at ho4
      exact ho4
    · rw [if_neg hz] at hpr
      subst hpr
      exact ⟨0, none, 0, 0, by rw [← hE], hb4, hf, fun e => absurd e hz⟩)
  have HC := Lib.hid CC
  have z0 : W.heap.size < W1.heap.size := by omega
  have HW1 := Lib.hid hW1
  have HL1 := Lib.hid hL1
  have HB1 := Lib.hid hb1
  have HK1 := Lib.hid hk1
  have HS1 := Lib.hid hs1
  have HH := Lib.hid h
  have HJK := Lib.hid hjk
  clear hW1 hs1 hb1 hk1 hL1 h hr hT hg hl hmm hE hjk CC hn2
  go_enter Tryd.func54, Tryd.ntmps54
  go_upto_region 1 with (fail)
  rw [HW1.out]
  go_upto_region 5 with (go_at_call 56; refine HC.out.mono ?_; rintro e w2 ⟨g, rfl, hb2, q0, q1, PC⟩; have HB2 := Lib.hid hb2; clear hb2)
  go_cut [7, 8] from 8 (fun u7 u8 W5 => ∃ k z A4 m4 c4, u7 = .int .i64 E ∧ u8 = .pointer (some ⟨k, 0, none⟩) ∧ W5.cell? ⟨k, 0, none⟩ = some (.int .i64 z) ∧ W5.cell? ⟨k, 1, none⟩ = some (.slice A4 m4 c4) ∧ Hid (Below W1.heap.size W1 W5) ∧ Hid (E = 0 → FrR W1 W5 z A4 m4 c4 (frP l) (frI l)))
  case first =>
    have hA1 : Below w2.heap.size w2 w2.drew := below_dS (Below.refl _ _)
    have hA2 : Below w2.heap.size w2 (w2.alloc (.cells #[.int .i64 0, .slice none 0 0] 24)).drew := below_dS ((Below.refl _ _).alloc (Nat.le_refl _) _)
    have n1 : Blk (w2.alloc (.cells #[.int .i64 0, .slice none 0 0] 24)).drew w2.heap.size 24 [.int .i64 0, .slice none 0 0] := heap_alloc_new w2 _
    have HA1 := Lib.hid hA1
    have HA2 := Lib.hid hA2
    have N1 := Lib.hid n1
    clear hA1 hA2 n1
    have t0 := World.new_ne w2 _ q0
    have t1 := World.new_ne w2 _ q1
    go_region_held3 (fun w' => w'.cell? ⟨b, 257, none⟩ = some (.bool p) ∧ w'.cell? ⟨b, 258, none⟩ = some (.bool q)) (go_keep) (first
      | (go_at_call 22; ((with_reducible refine (PC.out _ HA1.out).mono ?_); rintro e w4 ⟨z, A4, m4, c4, rfl, bb, HB4, HF4⟩; have r0 := (bb.cell (p := ⟨b, 257, none⟩) (by show b < _; have := HA1.out.size; have := HB2.out.size; omega)).trans q0; have r1 := (bb.cell (p := ⟨b, 258, none⟩) (by show b < _; have := HA1.out.size; have := HB2.out.size; omega)).trans q1; have t5 := World.new_ne w4 _ r0; clear bb))
      | (go_at_call 22; ((with_reducible refine (PC.out _ HA2.out).mono ?_); rintro e w4 ⟨z, A4, m4, c4, rfl, bb, HB4, HF4⟩; have r0 := (bb.cell (p := ⟨b, 257, none⟩) (by show b < _; have := HA2.out.size; have := HB2.out.size; omega)).trans ((HA2.out.cell (p := ⟨b, 257, none⟩) (by show b < _; have := HB2.out.size; omega)).trans q0); have r1 := (bb.cell (p := ⟨b, 258, none⟩) (by show b < _; have := HA2.out.size; have := HB2.out.size; omega)).trans ((HA2.out.cell (p := ⟨b, 258, none⟩) (by show b < _; have := HB2.out.size; omega)).trans q1); have n2 : Blk w4 w2.heap.size 24 [.int .i64 0, .slice none 0 0] := (bb.block _ (Blk.lt N1.out)).trans N1.out; have p0 := Blk.cell n2 0; have p1 := Blk.cell n2 1; have g0 := Blk.frozen n2 0; have g1 := Blk.frozen n2 1; have N2 := Lib.hid n2; clear bb n2)))
    all_goals
      go_wp2
      go_meet
      case rel =>
        first
          | exact ⟨_, z, A4, m4, c4, rfl, rfl, (blk_new w4 24 [.int .i64 z, .slice A4 m4 c4]).cell 0, (blk_new w4 24 [.int .i64 z, .slice A4 m4 c4]).cell 1, HB4.out.alloc HB4.out.size _, fun e => ((HF4.out e).lower HB2.out.size).alloc _⟩
          | exact ⟨_, z, A4, m4, c4, rfl, rfl, ((N2.out.set_ 0 (.int .i64 z)).set_ 1 (.slice A4 m4 c4)).cell 0, ((N2.out.set_ 0 (.int .i64 z)).set_ 1 (.slice A4 m4 c4)).cell 1, (HB4.out.setCell (p := ⟨w2.heap.size, 0, none⟩) HB2.out.size _).setCell (p := ⟨w2.heap.size, 1, none⟩) HB2.out.size _, fun e => (((HF4.out e).other w2.heap.size 0 _ (by simp [World.drew])).other w2.heap.size 1 _ (by simp [World.drew])).lower (by have := HB2.out.size; simp [World.drew]; omega)⟩
  case rest =>
    obtain ⟨k, z, A4, m4, c4, rfl, rfl, y0, y1, HB5, HF5⟩ := hcut
    rename World => W5
    have hV : Below W.heap.size W W5 := HB1.out.trans (HB5.out.mono (by have := HS1.out; omega))
    have hL5 := HL1.out.later HB5.out
    have k5 : Blk W5 W.heap.size 24 [.int .i64 0, .slice none 0 0] := (HB5.out.block _ z0).trans HK1.out
    have x0 := k5.cell 0
    have x1 := k5.cell 1
    have f0 := k5.frozen 0
    have f1 := k5.frozen 1
    have c262 : W5.cell? ⟨b, 262, none⟩ = some (.int .i64 s.fr) := hL5.cell 6
    have c267 : W5.cell? ⟨b, 267, none⟩ = some (.int .i64 s.wr) := hL5.cell 11
    have f262 := hL5.blk.frozen 262
    have f267 := hL5.blk.frozen 267
    have hne : ¬ W.heap.size = b := by omega
    have hne2 : ¬ b = W.heap.size := by omega
    by_cases hE : E = 0
    · have hj : jdK p q l = 0 := by rw [HJK.out, if_neg (by simpa using hE)]
      have e2 : jdS p q s l = { s with fr := inc s.fr } := by unfold jdS; rw [if_pos hj]
      obtain ⟨w1', w2'⟩ := jd_fin (s' := { s with fr := inc s.fr }) HH.out hV 6 (.int .i64 (wrap64 (s.fr + 1))) (.int .i64 z) (.slice A4 m4 c4) rfl rfl
      have hfr := HF5.out hE
      have hs1 := HS1.out
      have FIN : Hid (JdR W (((W5.setCell ⟨b, 262, none⟩ (.int .i64 (wrap64 (s.fr + 1)))).setCell ⟨W.heap.size, 0, none⟩ (.int .i64 z)).setCell ⟨W.heap.size, 1, none⟩ (.slice A4 m4 c4)) b a M p q hv s l (.returned (.tuple #[.agg #[.int .i64 z, .slice A4 m4 c4], .bool true]))) := by
        refine ⟨z, A4, m4, c4, by rw [hj]; rfl, by rw [e2]; exact w1', w2', fun _ => ?_, fun e => absurd hj e⟩
        exact ((((hfr.other b 262 _ (by omega)).other W.heap.size 0 _ (by omega)).other W.heap.size 1 _ (by omega))).lower (by omega)
      have q5 := (k5.set_ 0 (.int .i64 z)).set_ 1 (.slice A4 m4 c4)
      have hE2 : E = 0 := hE
      subst hE2
      clear w1' w2' hfr hs1 HF5 HB5 hL5 k5 hV e2 hj
      go_wp2
      exact bodyPost_ret (v := .tuple #[.agg #[.int .i64 z, .slice A4 m4 c4], .bool true]) (by simp [results, Tryd.results54, go_sem, x0, x1]) rfl FIN.out
    · have hj : jdK p q l = 2 := by rw [HJK.out, if_pos (by simpa using hE)]
      have e2 : jdS p q s l = { s with wr := inc s.wr } := by unfold jdS; rw [if_neg (by omega), if_neg (by omega)]
      obtain ⟨w1', w2'⟩ := jd_fin (s' := { s with wr := inc s.wr }) HH.out hV 11 (.int .i64 (wrap64 (s.wr + 1))) (.int .i64 0) (.slice none 0 0) rfl rfl
      have FIN : Hid (JdR W (((W5.setCell ⟨b, 267, none⟩ (.int .i64 (wrap64 (s.wr + 1)))).setCell ⟨W.heap.size, 0, none⟩ (.int .i64 0)).setCell ⟨W.heap.size, 1, none⟩ (.slice none 0 0)) b a M p q hv s l (.returned (.tuple #[.agg #[.int .i64 0, .slice none 0 0], .bool false]))) := by
        refine ⟨0, none, 0, 0, by rw [hj]; rfl, by rw [e2]; exact w1', w2', fun e => by omega, fun _ => ⟨rfl, rfl, rfl, rfl⟩⟩
      have hne3 : (E != 0) = true := by simpa using hE
      clear w1' w2' HF5 HB5 hL5 k5 hV e2 hj hE y0 y1
      go_wp2
      exact bodyPost_ret (v := .tuple #[.agg #[.int .i64 0, .slice none 0 0], .bool false]) (by simp [results, Tryd.results54, go_sem, x0, x1]) rfl FIN.out
end Go.Proofs.YtmdlpbgelgeiaaaDoor
