/-
  tetherlaw03.HdlcWrites.
-/
import Derived.Test.YtmdlpbgelgeiaaaDoorHdREnc
import Derived.Test.YtmdlpbgelgeiaaaDoorHdEncU
import Derived.Test.YtmdlpbgelgeiaaaDoorHdKnown
import Derived.Test.YtmdlpbgelgeiaaaDoorSameB
import Derived.Test.YtmdlpbgelgeiaaaDoorLent
import Derived.Test.YtmdlpbgelgeiaaaDoorKept
import Derived.Test.YtmdlpbgelgeiaaaDoorSpoilB
import Derived.Deep.RegionHeld3
namespace Go.Proofs.YtmdlpbgelgeiaaaDoor
open Go.RowKit
set_option maxRecDepth 100000
set_option maxHeartbeats 2000000
set_option linter.unusedSimpArgs false
set_option linter.unusedVariables false

def bodX (P : Int) (n : Nat) (a : Int) (p q : Bool) (l : List UInt8) : List UInt8 := if bodyE P n a = 0 then bodyL P p q l else []
theorem bodX_len (P : Int) (n : Nat) (a : Int) (p q : Bool) (l : List UInt8) (hl : l.length = n) : (bodX P n a p q l).length ≤ 40000 := by
  unfold bodX
  by_cases he : bodyE P n a = 0
  · rw [if_pos he]
    have h1 := bodyL_len (p := p) (q := q) hl he
    omega
  · rw [if_neg he]; simp
theorem rencode_un (P : Int) (A : Option Addr) (n c B : Nat) (l : List UInt8) (a : Int) (p q : Bool) (w : World) (hr : Rd w B A n l) (hB : B ≤ w.heap.size) (hnil : A = none → c = 0) :
    Calls Tryd.prog 13 #[.agg #[.int .i64 P, .slice A n c], .agg #[.int .i64 a, .bool p, .bool q]] w (AnsB w (bodyE P n a) (encX P n a p q l)) := by
  unfold encX
  by_cases he : bodyE P n a = 0
  · rw [if_pos he]
    refine (rencode_ok P A n c B l a p q w hr hB hnil he).mono ?_
    rintro e w' ⟨v, rfl, o, b⟩
    obtain ⟨A2, n2, c2, rfl⟩ := o.asSlice
    exact ⟨A2, n2, c2, by rw [he], o, b⟩
  · rw [if_neg he]
    refine (rencode_bad P A n c a p q w he).mono ?_
    rintro e w' ⟨rfl, b⟩
    exact ⟨none, 0, 0, rfl, Own.nil _ _, b⟩
theorem body_un (P : Int) (A : Option Addr) (n c B : Nat) (l : List UInt8) (a : Int) (p q : Bool) (w : World) (hr : Rd w B A n l) (hB : B ≤ w.heap.size) (hnil : A = none → c = 0) (hnc : n ≤ c) (hT : Tab16 w) :
    Calls Tryd.prog 14 #[.agg #[.int .i64 P, .slice A n c], .agg #[.int .i64 a, .bool p, .bool q]] w (AnsB w (bodyE P n a) (bodX P n a p q l)) := by
  unfold bodX
  by_cases he : bodyE P n a = 0
  · rw [if_pos he]
    refine (body_ok P A n c B l a p q w hr hB hnil hnc he hT).mono ?_
    rintro e w' ⟨g, m, rfl, _, o, b⟩
    exact ⟨_, _, _, by rw [he], o, b⟩
  · rw [if_neg he]
    refine (body_bad P A n c a p q w he).mono ?_
    rintro e w' ⟨rfl, b⟩
    exact ⟨none, 0, 0, rfl, Own.nil _ _, b⟩
theorem rbody_un (P : Int) (A : Option Addr) (n c B : Nat) (l : List UInt8) (a : Int) (p q : Bool) (w : World) (hr : Rd w B A n l) (hB : B ≤ w.heap.size) (hnil : A = none → c = 0) :
    Calls Tryd.prog 15 #[.agg #[.int .i64 P, .slice A n c], .agg #[.int .i64 a, .bool p, .bool q]] w (AnsB w (bodyE P n a) (bodX P n a p q l)) := by
  unfold bodX
  by_cases he : bodyE P n a = 0
  · rw [if_pos he]
    refine (rbody_ok P A n c B l a p q w hr hB hnil he).mono ?_
    rintro e w' ⟨v, rfl, o, b⟩
    obtain ⟨A2, n2, c2, rfl⟩ := o.asSlice
    exact ⟨A2, n2, c2, by rw [he], o, b⟩
  · rw [if_neg he]
    refine (rbody_bad P A n c a p q w he).mono ?_
    rintro e w' ⟨rfl, b⟩
    exact ⟨none, 0, 0, rfl, Own.nil _ _, b⟩
def esK (a : Int) : Int := if mapB a = true then 0 else 1
def esL (a : Int) (l : List UInt8) : List UInt8 := if mapB a = true then escL a l else []
theorem esL_len (a : Int) (l : List UInt8) : (esL a l).length ≤ 2 * l.length := by
  unfold esL
  split
  · exact escL_le a l
  · simp
theorem escape_un (A : Option Addr) (n c B : Nat) (l : List UInt8) (a : Int) (w : World) (hr : Rd w B A n l) (hB : B ≤ w.heap.size) (hn : 2 * n ≤ 140737488355328) :
    Calls Tryd.prog 16 #[.slice A n c, .int .i64 a] w (AnsB w (esK a) (esL a l)) := by
  refine (escape_any A n c l a w (hr.wide hB) hn).mono ?_
  rintro e w' ⟨v, rfl, o, b⟩
  obtain ⟨A2, n2, c2, rfl⟩ := o.asSlice
  exact ⟨A2, n2, c2, rfl, o, b⟩
theorem rescape_un (A : Option Addr) (n c B : Nat) (l : List UInt8) (a : Int) (w : World) (hr : Rd w B A n l) (hB : B ≤ w.heap.size) (hn : 2 * n ≤ 140737488355328) :
    Calls Tryd.prog 17 #[.slice A n c, .int .i64 a] w (AnsB w (esK a) (esL a l)) := by
  refine (rescape_any A n c l a w (hr.wide hB) hn).mono ?_
  rintro e w' ⟨v, rfl, o, b⟩
  obtain ⟨A2, n2, c2, rfl⟩ := o.asSlice
  exact ⟨A2, n2, c2, rfl, o, b⟩

def Cf (V : World) (k : Nat) (P : Int) (A : Option Addr) (n c : Nat) : Prop := V.cell? ⟨k, 0, none⟩ = some (.int .i64 P) ∧ V.cell? ⟨k, 1, none⟩ = some (.slice A n c)
def Cs (V : World) (k : Nat) (a : Int) (p q : Bool) : Prop := V.cell? ⟨k, 0, none⟩ = some (.int .i64 a) ∧ V.cell? ⟨k, 1, none⟩ = some (.bool p) ∧ V.cell? ⟨k, 2, none⟩ = some (.bool q)
/-- what stays in sight -/
structure WI (w V : World) (b8 : Nat) (P : Int) (A : Option Addr) (n c : Nat) (l : List UInt8) (a : Int) (p q : Bool) (g cap : Nat) : Prop where
  f : Blk V w.heap.size 24 [.int .i64 P, .slice A n c]
  s : Blk V (w.heap.size + 1) 26 [.int .i64 a, .bool p, .bool q]
  k : Blk V b8 24 [.int .i64 P, .slice (some ⟨g, 0, none⟩) n cap]
  o : Own V (w.heap.size + 2) (.slice (some ⟨g, 0, none⟩) (n + 1) cap) (l ++ [77])
  bel : Below w.heap.size w V
  lo : w.heap.size + 2 ≤ b8
  hi : b8 < V.heap.size
  gl : g < b8
section
variable {w V V' : World} {b8 : Nat} {P : Int} {A : Option Addr} {n c : Nat} {l : List UInt8} {a : Int} {p q : Bool} {g cap : Nat}
theorem WI.later (h : WI w V b8 P A n c l a p q g cap) (hB : Below V.heap.size V V') : WI w V' b8 P A n c l a p q g cap := by
  have hi := h.hi
  have lo := h.lo
  have s := hB.size
  exact ⟨(hB.block _ (by omega)).trans h.f, (hB.block _ (by omega)).trans h.s, (hB.block _ hi).trans h.k, h.o.later hB, h.bel.trans (hB.mono (by omega)), lo, by omega, h.gl⟩
theorem WI.drewN (h : WI w V b8 P A n c l a p q g cap) (k : Nat) : WI w (V.drewN k) b8 P A n c l a p q g cap := ⟨h.f, h.s, h.k, h.o.drewN k, below_drewN h.bel k, h.lo, h.hi, h.gl⟩
theorem WI.grown {r : Option Nat} (h : WI w V b8 P A n c l a p q g cap) (hg : V.grownBy V' r) (hr : ∀ k, r = some k → b8 < k) : WI w V' b8 P A n c l a p q g cap := by
  have hi := h.hi
  have lo := h.lo
  have gl := h.gl
  have s := hg.size
  refine ⟨(hg.block _ (by omega) (fun e => by have := hr _ e.symm; omega)).trans h.f, (hg.block _ (by omega) (fun e => by have := hr _ e.symm; omega)).trans h.s, (hg.block _ hi (fun e => by have := hr _ e.symm; omega)).trans h.k, h.o.grown hg (.inr fun e => ?_), h.bel.grown hg (by omega) (fun k e => by have := hr k e; omega), lo, by omega, gl⟩
  have := hr g (by rw [← e]; rfl)
  omega
theorem WI.cf (h : WI w V b8 P A n c l a p q g cap) : Cf V w.heap.size P A n c := ⟨h.f.cell 0, h.f.cell 1⟩
theorem WI.cs (h : WI w V b8 P A n c l a p q g cap) : Cs V (w.heap.size + 1) a p q := ⟨h.s.cell 0, h.s.cell 1, h.s.cell 2⟩
theorem WI.ck (h : WI w V b8 P A n c l a p q g cap) : Cf V b8 P (some ⟨g, 0, none⟩) n cap := ⟨h.k.cell 0, h.k.cell 1⟩
theorem WI.rd (h : WI w V b8 P A n c l a p q g cap) (hl : l.length = n) : Rd V V.heap.size (some ⟨g, 0, none⟩) n l := by
  have hlen : n + 1 = (l ++ [77]).length := by simp [hl]
  have rg := h.o.rd hlen n (by omega)
  rwa [List.take_append_of_le_length (by omega), List.take_of_length_le (by omega)] at rg
end
abbrev fV (P : Int) (A : Option Addr) (n c : Nat) : Value := .agg #[.int .i64 P, .slice A n c]
abbrev sV (a : Int) (p q : Bool) : Value := .agg #[.int .i64 a, .bool p, .bool q]
/-- the law's calls behind the box -/
def WrC (w V3 : World) (b8 : Nat) (P : Int) (A : Option Addr) (n c : Nat) (a : Int) (p q : Bool) (g cap : Nat) (B : Option Addr) (nb cb : Nat) (E K : Int) : Prop :=
  Calls Tryd.prog 12 #[.agg #[.int .i64 a, .bool p, .bool q]] V3.drew fun e V4 => e = .returned (.agg #[.int .i64 a, .bool p, .bool q]) ∧ Cf V4 b8 P (some ⟨g, 0, none⟩) n cap ∧ Cs V4 (w.heap.size + 1) a p q ∧
  Hid (Calls Tryd.prog 11 #[.agg #[.int .i64 P, .slice (some ⟨g, 0, none⟩) n cap], .agg #[.int .i64 a, .bool p, .bool q]] V4 fun e V5 => ∃ A1 n1 c1, e = .returned (.tuple #[.slice A1 n1 c1, .int .i64 E]) ∧ Cf V5 b8 P (some ⟨g, 0, none⟩) n cap ∧ Cf V5 w.heap.size P A n c ∧ Cs V5 (w.heap.size + 1) a p q ∧
  Hid (Calls Tryd.prog 13 #[.agg #[.int .i64 P, .slice A n c], .agg #[.int .i64 a, .bool p, .bool q]] V5 fun e V6 => ∃ A2 n2 c2, e = .returned (.tuple #[.slice A2 n2 c2, .int .i64 E]) ∧ Cf V6 b8 P (some ⟨g, 0, none⟩) n cap ∧ Cs V6 (w.heap.size + 1) a p q ∧
  Hid (Calls Tryd.prog 12 #[.agg #[.int .i64 a, .bool p, .bool q]] V6.drew fun e V7 => e = .returned (.agg #[.int .i64 a, .bool p, .bool q]) ∧ Cf V7 b8 P (some ⟨g, 0, none⟩) n cap ∧ Cs V7 (w.heap.size + 1) a p q ∧
  Hid (Calls Tryd.prog 14 #[.agg #[.int .i64 P, .slice (some ⟨g, 0, none⟩) n cap], .agg #[.int .i64 a, .bool p, .bool q]] V7 fun e V8 => ∃ A3 n3 c3, e = .returned (.tuple #[.slice A3 n3 c3, .int .i64 E]) ∧ Cf V8 b8 P (some ⟨g, 0, none⟩) n cap ∧ Cf V8 w.heap.size P A n c ∧ Cs V8 (w.heap.size + 1) a p q ∧
  Hid (Calls Tryd.prog 15 #[.agg #[.int .i64 P, .slice A n c], .agg #[.int .i64 a, .bool p, .bool q]] V8 fun e V9 => ∃ A4 n4 c4, e = .returned (.tuple #[.slice A4 n4 c4, .int .i64 E]) ∧ Cs V9 (w.heap.size + 1) a p q ∧
  Hid (Calls Tryd.prog 16 #[.slice B nb cb, .int .i64 a] V9 fun e V10 => ∃ A5 n5 c5, e = .returned (.tuple #[.slice A5 n5 c5, .int .i64 K]) ∧ Cs V10 (w.heap.size + 1) a p q ∧
  Hid (Calls Tryd.prog 17 #[.slice B nb cb, .int .i64 a] V10 fun e V11 => ∃ A6 n6 c6, e = .returned (.tuple #[.slice A6 n6 c6, .int .i64 K]) ∧
  Hid (Calls Tryd.prog 18 #[.slice A1 n1 c1, .slice A2 n2 c2] V11 fun e U1 => e = .returned (.bool true) ∧
  Hid (Calls Tryd.prog 18 #[.slice A3 n3 c3, .slice A4 n4 c4] U1 fun e U2 => e = .returned (.bool true) ∧
  Hid (Calls Tryd.prog 18 #[.slice A5 n5 c5, .slice A6 n6 c6] U2 fun e U3 => e = .returned (.bool true) ∧
  Hid (Calls Tryd.prog 19 #[.slice A1 n1 c1] U3 fun e U4 => e = .returned (.tuple #[]) ∧
  Hid (Calls Tryd.prog 19 #[.slice A3 n3 c3] U4 fun e U5 => e = .returned (.tuple #[]) ∧ Cf U5 w.heap.size P A n c ∧
  Hid (Calls Tryd.prog 20 #[.slice (some ⟨g, 0, none⟩) n cap, .slice A n c] U5 fun e U6 => e = .returned (.bool true) ∧
  Hid (Calls Tryd.prog 21 #[] U6 fun e U7 => e = .returned (.bool true) ∧ Hid (Below w.heap.size w U7)))))))))))))))
theorem wr_c (w V3 : World) (b8 : Nat) (P : Int) (A : Option Addr) (n c : Nat) (l : List UInt8) (a : Int) (p q : Bool) (g cap : Nat) (B : Option Addr) (nb cb : Nat) (m : List UInt8) (h3 : WI w V3 b8 P A n c l a p q g cap) (hr : Rd w w.heap.size A n l) (hA : A = none → c = 0) (hnc : n ≤ c) (hn : n ≤ 140737488351232)
    (hcap : n ≤ cap) (hb : Rd w w.heap.size B nb m) (hnb : 2 * nb ≤ 140737488355328) (hT : Tab16 w) : WrC w V3 b8 P A n c a p q g cap B nb cb (bodyE P n a) (esK a) := by
  have hl := hr.1
  have hbl := hb.1
  have lx := encX_len P n a p q l hl
  have lb := bodX_len P n a p q l hl
  have le := esL_len a m
  unfold WrC
  refine (send_any a p q V3.drew).mono ?_
  rintro e V4 ⟨rfl, b4⟩
  have B4 : Below V3.heap.size V3 V4 := ⟨b4.os, b4.tape, b4.output, b4.size, fun i hi => b4.block i hi⟩
  have h4 := h3.later B4
  refine ⟨rfl, h4.ck, h4.cs, Lib.hid ?_⟩
  refine (encode_un P _ n cap V4.heap.size l a p q V4 (h4.rd hl) (Nat.le_refl _) (fun e => by cases e) hcap (hT.kept h4.bel)).mono ?_
  rintro e V5 ⟨A1, n1, c1, rfl, o1, b5⟩
  have h5 := h4.later b5
  refine ⟨A1, n1, c1, rfl, h5.ck, h5.cf, h5.cs, Lib.hid ?_⟩
  refine (rencode_un P A n c w.heap.size l a p q V5 (hr.below h5.bel) h5.bel.size hA).mono ?_
  rintro e V6 ⟨A2, n2, c2, rfl, o2, b6⟩
  have h6 := h5.later b6
  refine ⟨A2, n2, c2, rfl, h6.ck, h6.cs, Lib.hid ?_⟩
  refine (send_any a p q V6.drew).mono ?_
  rintro e V7 ⟨rfl, b7⟩
  have B7 : Below V6.heap.size V6 V7 := ⟨b7.os, b7.tape, b7.output, b7.size, fun i hi => b7.block i hi⟩
  have h7 := h6.later B7
  refine ⟨rfl, h7.ck, h7.cs, Lib.hid ?_⟩
  refine (body_un P _ n cap V7.heap.size l a p q V7 (h7.rd hl) (Nat.le_refl _) (fun e => by cases e) hcap (hT.kept h7.bel)).mono ?_
  rintro e V8 ⟨A3, n3, c3, rfl, o3, b8'⟩
  have h8 := h7.later b8'
  refine ⟨A3, n3, c3, rfl, h8.ck, h8.cf, h8.cs, Lib.hid ?_⟩
  refine (rbody_un P A n c w.heap.size l a p q V8 (hr.below h8.bel) h8.bel.size hA).mono ?_
  rintro e V9 ⟨A4, n4, c4, rfl, o4, b9⟩
  have h9 := h8.later b9
  refine ⟨A4, n4, c4, rfl, h9.cs, Lib.hid ?_⟩
  refine (escape_un B nb cb w.heap.size m a V9 (hb.below h9.bel) h9.bel.size hnb).mono ?_
  rintro e V10 ⟨A5, n5, c5, rfl, o5, b10⟩
  have h10 := h9.later b10
  refine ⟨A5, n5, c5, rfl, h10.cs, Lib.hid ?_⟩
  refine (rescape_un B nb cb w.heap.size m a V10 (hb.below h10.bel) h10.bel.size hnb).mono ?_
  rintro e V11 ⟨A6, n6, c6, rfl, o6, b11⟩
  have h11 := h10.later b11
  refine ⟨A6, n6, c6, rfl, Lib.hid ?_⟩
  have t4 := B4.size
  have t5 := b5.size
  have t6 := b6.size
  have t7 := B7.size
  have t8 := b8'.size
  have t9 := b9.size
  have t10 := b10.size
  have t11 := b11.size
  have d10 : Below V10.heap.size V10 V11 := b11
  have d9 : Below V9.heap.size V9 V11 := b10.trans (d10.mono (by omega))
  have d8 : Below V8.heap.size V8 V11 := b9.trans (d9.mono (by omega))
  have d7 : Below V7.heap.size V7 V11 := b8'.trans (d8.mono (by omega))
  have d6 : Below V6.heap.size V6 V11 := B7.trans (d7.mono (by omega))
  have d5 : Below V5.heap.size V5 V11 := b6.trans (d6.mono (by omega))
  have O1 := o1.later d5
  have O2 := o2.later d6
  have O3 := o3.later d8
  have O4 := o4.later d9
  have O5 := o5.later d10
  have f1 := O1.lenF.1
  have f2 := O2.lenF.1
  have f3 := O3.lenF.1
  have f4 := O4.lenF.1
  have f5 := O5.lenF.1
  have f6 := o6.lenF.1
  refine (same_any _ _ n1 n2 c1 c2 _ _ V11 V11.heap.size O1.rdAllF O2.rdAllF (by unfold maxLen; omega) (by unfold maxLen; omega)).mono ?_
  rintro e U1 ⟨rfl, q1, rfl⟩
  refine ⟨by rw [decide_eq_true rfl], Lib.hid ?_⟩
  refine (same_any _ _ n3 n4 c3 c4 _ _ (V11.drewN q1) V11.heap.size (O3.rdAllF.drewN q1) (O4.rdAllF.drewN q1) (by unfold maxLen; omega) (by unfold maxLen; omega)).mono ?_
  rintro e U2 ⟨rfl, q2, rfl⟩
  refine ⟨by rw [decide_eq_true rfl], Lib.hid ?_⟩
  refine (same_any _ _ n5 n6 c5 c6 _ _ ((V11.drewN q1).drewN q2) V11.heap.size ((O5.rdAllF.drewN q1).drewN q2) ((o6.rdAllF.drewN q1).drewN q2) (by unfold maxLen; omega) (by unfold maxLen; omega)).mono ?_
  rintro e U3 ⟨rfl, q3, rfl⟩
  refine ⟨by rw [decide_eq_true rfl], Lib.hid ?_⟩
  have hU3 := ((h11.drewN q1).drewN q2).drewN q3
  have O1' : Own (((V11.drewN q1).drewN q2).drewN q3) V4.heap.size (.slice A1 n1 c1) (encX P n a p q l) := ((O1.drewN q1).drewN q2).drewN q3
  have O3' : Own (((V11.drewN q1).drewN q2).drewN q3) V7.heap.size (.slice A3 n3 c3) (bodX P n a p q l) := ((O3.drewN q1).drewN q2).drewN q3
  refine (spoil_own _ V4.heap.size _ _ O1' (by show _ ≤ V11.heap.size; omega) (by omega)).mono ?_
  rintro e U4 ⟨rfl, g4⟩
  refine ⟨rfl, Lib.hid ?_⟩
  have hi3 := h3.hi
  have k1 : ∀ k, (Value.slice A1 n1 c1).ownBlock = some k → V4.heap.size ≤ k ∧ k < V5.heap.size := fun k e => o1.block k e
  have k3 : ∀ k, (Value.slice A3 n3 c3).ownBlock = some k → V7.heap.size ≤ k ∧ k < V8.heap.size := fun k e => o3.block k e
  have hU4 := hU3.grown g4 (fun k e => by have := k1 k e; omega)
  have O34 := O3'.grown g4 (by
    rcases hv : (Value.slice A3 n3 c3).ownBlock with _ | k
    · exact .inl rfl
    · refine .inr fun e => ?_
      have x3 := k3 k hv
      have x1 := k1 k e.symm
      omega)
  have t12 : V11.heap.size ≤ U4.heap.size := g4.size
  refine (spoil_own _ V7.heap.size _ U4 O34 (by omega) (by omega)).mono ?_
  rintro e U5 ⟨rfl, g5⟩
  have hU5 := hU4.grown g5 (fun k e => by have := k3 k e; omega)
  refine ⟨rfl, hU5.cf, Lib.hid ?_⟩
  refine (kept_any A g n c cap _ w.heap.size l U5 hU5.o (hr.below hU5.bel) hn).mono ?_
  rintro e U6 ⟨rfl, q6, rfl⟩
  refine ⟨rfl, Lib.hid ?_⟩
  have hU6 := hU5.drewN q6
  refine (known_any _ (hT.kept hU6.bel)).mono ?_
  rintro e U7 ⟨rfl, b7⟩
  exact ⟨rfl, Lib.hid (hU6.bel.trans (b7.mono hU6.bel.size))⟩
theorem writes_walk (P : Int) (A : Option Addr) (n c : Nat) (l : List UInt8) (a : Int) (p q : Bool) (B : Option Addr) (nb cb : Nat) (m : List UInt8) (w : World) (hr : Rd w w.heap.size A n l) (hA : A = none → c = 0) (hnc : n ≤ c) (hn : n ≤ 140737488351232)
    (hb : Rd w w.heap.size B nb m) (hnb : 2 * nb ≤ 140737488355328) (hT : Tab16 w) :
    Calls Tryd.prog 3 #[.agg #[.int .i64 P, .slice A n c], .agg #[.int .i64 a, .bool p, .bool q], .slice B nb cb] w fun e w' => e = .returned (.bool true) ∧ Below w.heap.size w w' := by
  obtain ⟨W1, hW1⟩ : ∃ W1, (w.alloc (.cells #[.int .i64 P, .slice A n c] 24)).alloc (.cells #[.int .i64 a, .bool p, .bool q] 26) = W1 := ⟨_, rfl⟩
  have s1 : W1.heap.size = w.heap.size + 2 := by rw [← hW1]; simp
  have b1 : Below w.heap.size w W1 := by rw [← hW1]; exact ((Below.refl _ _).alloc (Nat.le_refl _) _).alloc (by simp) _
  have a1 : Blk W1 w.heap.size 24 [.int .i64 P, .slice A n c] := by rw [← hW1]; exact (Below.heap_alloc _ _ _ (by simp)).trans (blk_new w _ _)
  have a2 : Blk W1 (w.heap.size + 1) 26 [.int .i64 a, .bool p, .bool q] := by
    have h := blk_new (w.alloc (.cells #[.int .i64 P, .slice A n c] 24)) 26 [.int .i64 a, .bool p, .bool q]
    rw [World.size_alloc] at h
    rw [← hW1]; exact h
  have LC : Hid (Calls Tryd.prog 10 #[.slice A n c] W1 fun e w2 => ∃ g cap, e = .returned (.slice (some ⟨g, 0, none⟩) n cap) ∧ w2.cell? ⟨w.heap.size, 0, none⟩ = some (.int .i64 P) ∧ ∃ V3, Hid (w2.alloc (.cells #[.int .i64 P, .slice (some ⟨g, 0, none⟩) n cap] 24) = V3) ∧ Cf V3 w2.heap.size P (some ⟨g, 0, none⟩) n cap ∧ Cs V3 (w.heap.size + 1) a p q ∧
      Hid (WrC w V3 w2.heap.size P A n c a p q g cap B nb cb (bodyE P n a) (esK a))) := by
    refine (lent_any A n c l W1 ((hr.below b1).wide (by omega)) hA hn).mono ?_
    rintro e w2 ⟨g, cap, rfl, o2, b2⟩
    have hl := hr.1
    have hcap : n + 1 ≤ cap := by
      rcases o2.form with ⟨e, _⟩ | ⟨g', cap', e, _, _, h⟩
      · cases e
      · injection e with e1 e2 e3
        simp at h
        omega
    have t2 := b2.size
    have gb := o2.block g rfl
    have e1 : Blk w2 w.heap.size 24 [.int .i64 P, .slice A n c] := (b2.block _ (by omega)).trans a1
    have e2 : Blk w2 (w.heap.size + 1) 26 [.int .i64 a, .bool p, .bool q] := (b2.block _ (by omega)).trans a2
    obtain ⟨V3, hV3⟩ : ∃ V3, w2.alloc (.cells #[.int .i64 P, .slice (some ⟨g, 0, none⟩) n cap] 24) = V3 := ⟨_, rfl⟩
    have t3 : V3.heap.size = w2.heap.size + 1 := by rw [← hV3]; simp
    have b3 : Below w2.heap.size w2 V3 := by rw [← hV3]; exact (Below.refl _ _).alloc (Nat.le_refl _) _
    have k3 : Blk V3 w2.heap.size 24 [.int .i64 P, .slice (some ⟨g, 0, none⟩) n cap] := by rw [← hV3]; exact blk_new w2 _ _
    have h3 : WI w V3 w2.heap.size P A n c l a p q g cap := ⟨(b3.block _ (by omega)).trans e1, (b3.block _ (by omega)).trans e2, k3, own_lower (o2.later b3) (by omega), b1.trans ((b2.mono (by omega)).trans (b3.mono (by omega))), by omega, by omega, by omega⟩
    exact ⟨g, cap, rfl, e1.cell 0, V3, Lib.hid hV3, h3.ck, h3.cs, Lib.hid (wr_c w V3 w2.heap.size P A n c l a p q g cap B nb cb m h3 hr hA hnc hn (by omega) hb hnb hT)⟩
  obtain ⟨E, hE⟩ : ∃ E, E = bodyE P n a := ⟨_, rfl⟩
  obtain ⟨K, hK⟩ : ∃ K, K = esK a := ⟨_, rfl⟩
  rw [← hE, ← hK] at LC
  have hne : (E != E) = false := by simp
  have hnk : (K != K) = false := by simp
  have x0 := a1.cell 0
  have x1 := a1.cell 1
  have HW := Lib.hid hW1
  clear hW1 s1 b1 a1 a2 hr hA hnc hn hb hnb hT hE hK
  go_enter Tryd.func3, Tryd.ntmps3
  go_upto_region 1 with (fail)
  rw [HW.out]
  go_upto_region 3 with (first
    | (go_at_call 10; refine LC.out.mono ?_; rintro e w2 ⟨g, cap, rfl, y0, V3, HV3, ⟨c0, c1⟩, ⟨d0, d1, d2⟩, C3⟩)
    | (rw [HV3.out]))
  have C3' : Hid _ := Lib.hid C3.out
  unfold WrC at C3'
  go_region_held3 (fun w' => w'.cell? ⟨w2.heap.size, 0, none⟩ = some (.int .i64 P) ∧ w'.cell? ⟨w2.heap.size, 1, none⟩ = some (.slice (some ⟨g, 0, none⟩) n cap) ∧ w'.cell? ⟨w.heap.size + 1, 0, none⟩ = some (.int .i64 a) ∧ w'.cell? ⟨w.heap.size + 1, 1, none⟩ = some (.bool p) ∧ w'.cell? ⟨w.heap.size + 1, 2, none⟩ = some (.bool q)) (go_keep) (first
    | (go_at_call 12; ((with_reducible refine C3'.out.mono ?_); rintro e V4 ⟨rfl, ⟨e0, e1⟩, ⟨e2, e3, e4⟩, C4⟩))
    | (go_at_call 11; ((with_reducible refine C4.out.mono ?_); rintro e V5 ⟨A1, n1, c1', rfl, ⟨f0, f1⟩, ⟨f2, f3⟩, ⟨f4, f5, f6⟩, C5⟩)))
  all_goals
    clear c0 c1 d0 d1 d2 e0 e1 e2 e3 e4
    go_upto_region 5 with (go_at_call 13; (with_reducible refine C5.out.mono ?_); rintro e V6 ⟨A2, n2, c2, rfl, ⟨g0, g1⟩, ⟨g2, g3, g4⟩, C6⟩)
    go_region_held3 (fun w' => w'.cell? ⟨w2.heap.size, 0, none⟩ = some (.int .i64 P) ∧ w'.cell? ⟨w2.heap.size, 1, none⟩ = some (.slice (some ⟨g, 0, none⟩) n cap) ∧ w'.cell? ⟨w.heap.size + 1, 0, none⟩ = some (.int .i64 a) ∧ w'.cell? ⟨w.heap.size + 1, 1, none⟩ = some (.bool p) ∧ w'.cell? ⟨w.heap.size + 1, 2, none⟩ = some (.bool q)) (go_keep) (first
      | (go_at_call 12; ((with_reducible refine C6.out.mono ?_); rintro e V7 ⟨rfl, ⟨h0, h1⟩, ⟨h2, h3, h4⟩, C7⟩))
      | (go_at_call 14; ((with_reducible refine C7.out.mono ?_); rintro e V8 ⟨A3, n3, c3, rfl, ⟨i0, i1⟩, ⟨i2, i3⟩, ⟨i4, i5, i6⟩, C8⟩)))
    all_goals
      clear f0 f1 f2 f3 f4 f5 f6 g0 g1 g2 g3 g4 h0 h1 h2 h3 h4
      go_wp2_with (first
        | (go_at_call 15; (with_reducible refine C8.out.mono ?_); rintro e V9 ⟨A4, n4, c4, rfl, ⟨j0, j1, j2⟩, C9⟩)
        | (go_at_call 16; (with_reducible refine C9.out.mono ?_); rintro e V10 ⟨A5, n5, c5, rfl, ⟨k0, k1, k2⟩, C10⟩)
        | (go_at_call 17; (with_reducible refine C10.out.mono ?_); rintro e V11 ⟨A6, n6, c6, rfl, C11⟩)
        | (go_at_call 18; (with_reducible refine C11.out.mono ?_); rintro e U1 ⟨rfl, C12⟩)
        | (go_at_call 18; (with_reducible refine C12.out.mono ?_); rintro e U2 ⟨rfl, C13⟩)
        | (go_at_call 18; (with_reducible refine C13.out.mono ?_); rintro e U3 ⟨rfl, C14⟩)
        | (go_at_call 19; (with_reducible refine C14.out.mono ?_); rintro e U4 ⟨rfl, C15⟩)
        | (go_at_call 19; (with_reducible refine C15.out.mono ?_); rintro e U5 ⟨rfl, ⟨l0, l1⟩, C16⟩)
        | (go_at_call 20; (with_reducible refine C16.out.mono ?_); rintro e U6 ⟨rfl, C17⟩)
        | (go_at_call 21; (with_reducible refine C17.out.mono ?_); rintro e U7 ⟨rfl, HB⟩))
      go_ret
      exact ⟨rfl, HB.out⟩
end Go.Proofs.YtmdlpbgelgeiaaaDoor
