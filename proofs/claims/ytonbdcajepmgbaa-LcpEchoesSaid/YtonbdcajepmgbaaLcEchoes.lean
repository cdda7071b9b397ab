/-
  LcpEchoes: what is called, one behind the other.
-/
import Derived.Test.YtonbdcajepmgbaaLcREcho
import Derived.Test.YtonbdcajepmgbaaLcBack
import Derived.Test.YtonbdcajepmgbaaOpSameP
import Derived.Test.YtonbdcajepmgbaaKept
namespace Go.Proofs.Ytonbdcajepmgbaa
open Go.RowKit
set_option maxRecDepth 100000
set_option maxHeartbeats 4000000
set_option linter.unusedSimpArgs false
set_option linter.unusedVariables false

def PkC (w : World) (b : Nat) (C I : Int) (S : Value) : Prop := w.cell? ⟨b, 0, none⟩ = some (.int .i64 C) ∧ w.cell? ⟨b, 1, none⟩ = some (.int .i64 I) ∧ w.cell? ⟨b, 2, none⟩ = some S
theorem PkC.of {w : World} {b : Nat} {C I : Int} {S : Value} (h : Blk w b 54 [.int .i64 C, .int .i64 I, S]) : PkC w b C I S := ⟨h.cell 0, h.cell 1, h.cell 2⟩
theorem PkC.same {w w' : World} {b : Nat} {C I : Int} {S : Value} (h : PkC w b C I S) (hb : w'.heap[b]? = w.heap[b]?) : PkC w' b C I S :=
  ⟨(World.cell?_of_block (a := ⟨b, 0, none⟩) hb).trans h.1, (World.cell?_of_block (a := ⟨b, 1, none⟩) hb).trans h.2.1, (World.cell?_of_block (a := ⟨b, 2, none⟩) hb).trans h.2.2⟩
theorem PkC.later {w w' : World} {b : Nat} {C I : Int} {S : Value} (h : PkC w b C I S) (hg : b < w.heap.size) (hB : Below w.heap.size w w') : PkC w' b C I S := h.same (hB.block b hg)
theorem cells6_same {w w' : World} {b : Nat} {o : LOpts} (h : cells6 w b o) (hb : w'.heap[b]? = w.heap[b]?) : cells6 w' b o := by
  obtain ⟨h0, h1, h2, h3, h4, h5⟩ := h
  have k : ∀ i, w'.cell? ⟨b, i, none⟩ = w.cell? ⟨b, i, none⟩ := fun i => World.cell?_of_block (a := ⟨b, i, none⟩) hb
  exact ⟨(k 0).trans h0, (k 1).trans h1, (k 2).trans h2, (k 3).trans h3, (k 4).trans h4, (k 5).trans h5⟩
theorem own_same {W W' : World} {base g n cap : Nat} {l : List UInt8} (h : Own W base (.slice (some ⟨g, 0, none⟩) n cap) l) (hb : W'.heap[g]? = W.heap[g]?) : Own W' base (.slice (some ⟨g, 0, none⟩) n cap) l := by
  refine ⟨h.1, ?_⟩
  rcases h.2 with ⟨e, _⟩ | ⟨g', cap', cur, e, h1, h2, h3⟩
  · cases e
  · injection e with e1 e2 e3
    injection e1 with e1
    injection e1 with e1
    subst e1
    exact .inr ⟨g, cap', cur, by rw [e2, e3], h1, hb.trans h2, h3⟩
/-- what the law's variables hold: the packet, what this end has, the packet that lends its bytes -/
structure EI (w W : World) (M b g cap : Nat) (C I : Int) (A : Option Addr) (n c : Nat) (l : List UInt8) (o : LOpts) : Prop where
  p : PkC W w.heap.size C I (.slice A n c)
  m : cells6 W (w.heap.size + 1) o
  q : PkC W b C I (.slice (some ⟨g, 0, none⟩) n cap)
  own : Own W w.heap.size (.slice (some ⟨g, 0, none⟩) (n + 1) cap) (l ++ [77])
  bel : Below w.heap.size w W
  m1 : w.heap.size + 1 < M
  m2 : b < M
  m3 : g < M
  m4 : M ≤ W.heap.size
section
variable {w W W' : World} {M b g cap : Nat} {C I : Int} {A : Option Addr} {n c : Nat} {l : List UInt8} {o : LOpts}
theorem EI.kept (h : EI w W M b g cap C I A n c l o) (hk : ∀ i, i < M → W'.heap[i]? = W.heap[i]?) (hB : Below w.heap.size w W') (hs : W.heap.size ≤ W'.heap.size) : EI w W' M b g cap C I A n c l o :=
  ⟨h.p.same (hk _ (by have := h.m1; omega)), cells6_same h.m (hk _ h.m1), h.q.same (hk _ h.m2), own_same h.own (hk _ h.m3), hB, h.m1, h.m2, h.m3, Nat.le_trans h.m4 hs⟩
theorem EI.later (h : EI w W M b g cap C I A n c l o) (hB : Below W.heap.size W W') : EI w W' M b g cap C I A n c l o :=
  h.kept (fun i hi => hB.block i (by have := h.m4; omega)) (h.bel.trans (hB.mono h.bel.size)) hB.size
theorem EI.grown (h : EI w W M b g cap C I A n c l o) {row : Option Nat} (hg : W.grownBy W' row) (hr : ∀ q, row = some q → M ≤ q) : EI w W' M b g cap C I A n c l o :=
  h.kept (fun i hi => hg.block i (by have := h.m4; omega) (fun e => by have := hr _ e.symm; omega)) (h.bel.grown hg h.bel.size (fun q e => by have := hr q e; have := h.m1; omega)) hg.size
theorem EI.fits (h : EI w W M b g cap C I A n c l o) : n ≤ cap := by
  have := h.own.len.2.2
  omega
theorem EI.lentRd (h : EI w W M b g cap C I A n c l o) (hl : l.length = n) : Rd W W.heap.size (some ⟨g, 0, none⟩) n l := by
  have r := h.own.rd (by simp [hl]) n (by omega)
  rw [List.take_left' hl] at r
  exact r
end
/-- the packet's bytes, as they came in -/
def PArg (w : World) (A : Option Addr) (n c : Nat) (l : List UInt8) : Prop := Rd w w.heap.size A n l ∧ (A = none → c = 0) ∧ n ≤ c ∧ c ≤ 140737488351232
/-- behind Rejected: what the law ends with -/
def EC6 (w W : World) (g cap : Nat) (A : Option Addr) (n c : Nat) : Prop :=
  Calls Try.prog 61 #[.slice (some ⟨g, 0, none⟩) n cap, .slice A n c] W fun e w1 => e = .returned (.bool true) ∧
    Calls Try.prog 38 #[] w1 fun e w2 => e = .returned (.bool true) ∧ Below w.heap.size w w2
def EC5 (w W : World) (g cap : Nat) (C I : Int) (A : Option Addr) (n c : Nat) : Prop :=
  Calls Try.prog 59 #[.agg #[.int .i64 C, .int .i64 I, .slice (some ⟨g, 0, none⟩) n cap]] W fun e w1 => ∃ N J, e = .returned (.tuple #[.int .i64 N, .int .i64 J]) ∧ PkC w1 w.heap.size C I (.slice A n c) ∧
    Calls Try.prog 60 #[.agg #[.int .i64 C, .int .i64 I, .slice A n c]] w1 fun e w2 => e = .returned (.tuple #[.int .i64 N, .int .i64 J]) ∧ PkC w2 w.heap.size C I (.slice A n c) ∧ EC6 w w2 g cap A n c
/-- behind the first half: Reply, beside the reference's -/
def EC4 (w W : World) (b g cap : Nat) (code : Int) (magic : Int) (C I : Int) (A : Option Addr) (n c : Nat) : Prop :=
  Calls Try.prog 57 #[.int .i64 code, .int .i64 I, .int .u32 magic, .slice (some ⟨g, 0, none⟩) n cap] W fun e w1 => ∃ P1 P2 D k d E W1, e = .returned (.tuple #[.agg #[.int .i64 P1, .int .i64 P2, .slice D k d], .int .i64 E]) ∧
    w1.alloc (.cells #[.int .i64 P1, .int .i64 P2, .slice D k d] 54) = W1 ∧ PkC W1 w.heap.size C I (.slice A n c) ∧
    Calls Try.prog 58 #[.int .i64 code, .int .i64 I, .int .u32 magic, .slice A n c] W1 fun e w2 => ∃ F f W2, e = .returned (.tuple #[.agg #[.int .i64 P1, .int .i64 P2, .slice F k f], .int .i64 E]) ∧
      w2.alloc (.cells #[.int .i64 P1, .int .i64 P2, .slice F k f] 54) = W2 ∧ PkC W2 w1.heap.size P1 P2 (.slice D k d) ∧ PkC W2 w2.heap.size P1 P2 (.slice F k f) ∧
      Calls Try.prog 29 #[.agg #[.int .i64 P1, .int .i64 P2, .slice D k d], .agg #[.int .i64 P1, .int .i64 P2, .slice F k f]] W2 fun e w3 => e = .returned (.bool true) ∧ PkC w3 w1.heap.size P1 P2 (.slice D k d) ∧
        Calls Try.prog 51 #[.slice D k d] w3 fun e w4 => e = .returned (.tuple #[]) ∧ PkC w4 b C I (.slice (some ⟨g, 0, none⟩) n cap) ∧ EC5 w w4 g cap C I A n c
def EC3 (w W : World) (b a g cap : Nat) (code magic : Int) (C I : Int) (A : Option Addr) (n c : Nat) (o : LOpts) (P1 P2 : Int) (D : Option Addr) (k d : Nat) (ok : Bool) (E : Int) : Prop :=
  Calls Try.prog 56 #[.agg #[.int .i64 C, .int .i64 I, .slice A n c], .agg #[.int .i64 o.mru, .int .i64 o.accm, .int .i64 o.auth, .int .u32 o.magic, .bool o.pfc, .bool o.acfc]] W fun e w1 => ∃ F f W1, e = .returned (.tuple #[.agg #[.int .i64 P1, .int .i64 P2, .slice F k f], .bool ok, .int .i64 E]) ∧
    w1.alloc (.cells #[.int .i64 P1, .int .i64 P2, .slice F k f] 54) = W1 ∧ PkC W1 a P1 P2 (.slice D k d) ∧ PkC W1 w1.heap.size P1 P2 (.slice F k f) ∧
    Calls Try.prog 29 #[.agg #[.int .i64 P1, .int .i64 P2, .slice D k d], .agg #[.int .i64 P1, .int .i64 P2, .slice F k f]] W1 fun e w2 => e = .returned (.bool true) ∧ PkC w2 a P1 P2 (.slice D k d) ∧
      Calls Try.prog 51 #[.slice D k d] w2 fun e w3 => e = .returned (.tuple #[]) ∧ PkC w3 w.heap.size C I (.slice A n c) ∧ EC4 w w3 b g cap code magic C I A n c
section
variable {w W : World} {M b g cap : Nat} {C I : Int} {A : Option Addr} {n c : Nat} {l : List UInt8} {o : LOpts} (h : EI w W M b g cap C I A n c l o) (ha : PArg w A n c l)
include h ha
theorem ec6 : EC6 w W g cap A n c := by
  obtain ⟨hr, hnil, hnc, hn⟩ := ha
  have hl := hr.1
  refine (kept_any A g n c cap w.heap.size w.heap.size l W h.own (hr.below h.bel) (by omega)).mono ?_
  rintro e w1 ⟨rfl, k, rfl⟩
  refine ⟨rfl, (known11_any _).mono ?_⟩
  rintro e w2 ⟨rfl, hb⟩
  have B1 := below_drewN h.bel k
  exact ⟨rfl, B1.trans (hb.mono B1.size)⟩
theorem ec5 : EC5 w W g cap C I A n c := by
  have ha0 := ha
  obtain ⟨hr, hnil, hnc, hn⟩ := ha
  have hl := hr.1
  have hcap := h.fits
  refine (rejected_any C I _ n cap W.heap.size l W (h.lentRd hl) (Nat.le_refl _) hcap (by omega)).mono ?_
  rintro e w1 ⟨rfl, hb⟩
  have h1 := h.later hb
  refine ⟨_, _, rfl, h1.p, (rrejected_any C I A n c w.heap.size l w1 (hr.below h1.bel) h1.bel.size hnc (by omega)).mono ?_⟩
  rintro e w2 ⟨rfl, hb2⟩
  have h2 := h1.later hb2
  exact ⟨rfl, h2.p, ec6 h2 ha0⟩
theorem ec4 (code magic : Int) (hm0 : 0 ≤ magic) (hm1 : magic < 4294967296) : EC4 w W b g cap code magic C I A n c := by
  have ha0 := ha
  obtain ⟨hr, hnil, hnc, hn⟩ := ha
  have hl := hr.1
  have hcap := h.fits
  refine (reply_any code I magic _ n cap W.heap.size l W (h.lentRd hl) (Nat.le_refl _) (fun e => by cases e) (by omega) hm0 hm1).mono ?_
  rintro e w1 ⟨D, k, d, rfl, ho, hb⟩
  have hk := ho.len.1
  have h1 := h.later hb
  have BA : Below w1.heap.size w1 (w1.alloc (.cells #[.int .i64 (rpC code I l.length), .int .i64 (rpI code I l.length), .slice D k d] 54)) := (Below.refl _ _).alloc (Nat.le_refl _) _
  have hn1 := blk_new w1 54 [.int .i64 (rpC code I l.length), .int .i64 (rpI code I l.length), .slice D k d]
  obtain ⟨W1, hW1⟩ : ∃ V, V = w1.alloc (.cells #[.int .i64 (rpC code I l.length), .int .i64 (rpI code I l.length), .slice D k d] 54) := ⟨_, rfl⟩
  have hp1 : PkC W1 w1.heap.size (rpC code I l.length) (rpI code I l.length) (.slice D k d) := by rw [hW1]; exact PkC.of hn1
  rw [← hW1] at BA
  have s1 : w1.heap.size < W1.heap.size := by rw [hW1]; simp
  have h2 := h1.later BA
  refine ⟨_, _, D, k, d, _, W1, rfl, hW1.symm, h2.p, (rreply_any code I magic A n c w.heap.size l W1 (hr.below h2.bel) h2.bel.size hnil (by omega) hm0 hm1).mono ?_⟩
  rintro e w2 ⟨F, k', f, rfl, ho2, hb2⟩
  have hk' : k' = k := by rw [hk]; exact ho2.len.1
  subst hk'
  have h3 := h2.later hb2
  have hp2 := hp1.later s1 hb2
  have BA2 : Below w2.heap.size w2 (w2.alloc (.cells #[.int .i64 (rpC code I l.length), .int .i64 (rpI code I l.length), .slice F k' f] 54)) := (Below.refl _ _).alloc (Nat.le_refl _) _
  have hn2 := blk_new w2 54 [.int .i64 (rpC code I l.length), .int .i64 (rpI code I l.length), .slice F k' f]
  obtain ⟨W2, hW2⟩ : ∃ V, V = w2.alloc (.cells #[.int .i64 (rpC code I l.length), .int .i64 (rpI code I l.length), .slice F k' f] 54) := ⟨_, rfl⟩
  have hq2 : PkC W2 w2.heap.size (rpC code I l.length) (rpI code I l.length) (.slice F k' f) := by rw [hW2]; exact PkC.of hn2
  rw [← hW2] at BA2
  have s2 := hb2.size
  have h4 := h3.later BA2
  have hp3 := hp2.later (by omega) BA2
  have B14 : Below w1.heap.size w1 W2 := BA.trans ((hb2.trans (BA2.mono s2)).mono (by omega))
  have hoW2 := ho.later B14
  have ho2W2 := ho2.later BA2
  have hlen : (rpL code I magic l).length ≤ l.length + 4 := by
    unfold rpL
    split
    · rw [List.length_append, putB_length]; omega
    · simp
  refine ⟨F, f, W2, rfl, hW2.symm, hp3, hq2, (samePacket_yes D F k' d f W2.heap.size _ _ _ W2 hoW2.rdAll ho2W2.rdAll (Nat.le_refl _) (by omega)).mono ?_⟩
  rintro e w3 ⟨rfl, hb3⟩
  have h5 := h4.later hb3
  refine ⟨rfl, hp3.later (by have := BA2.size; omega) hb3, (spoil_own _ W.heap.size (rpL code I magic l) w3 (hoW2.later hb3) ?_ (by omega)).mono ?_⟩
  · have := hb.size; have := BA.size; have := BA2.size; have := hb3.size; omega
  rintro e w4 ⟨rfl, hG⟩
  have h6 := h5.grown hG (fun q hq => by have := (ho.block q hq).1; have := h.m4; omega)
  exact ⟨rfl, h6.q, ec5 h6 ha0⟩
theorem ec3 (code magic : Int) (hm0 : 0 ≤ magic) (hm1 : magic < 4294967296) (ho : 0 ≤ o.magic ∧ o.magic < 4294967296) (a base : Nat) (D : Option Addr) (k d : Nat) (hq : PkC W a (ecV C I o.magic l).1 (ecV C I o.magic l).2.1 (.slice D k d)) (haW : a < W.heap.size) (hbase : M ≤ base) (hbW : base ≤ W.heap.size) (hown : Own W base (.slice D k d) (ecV C I o.magic l).2.2.1) :
    EC3 w W b a g cap code magic C I A n c o (ecV C I o.magic l).1 (ecV C I o.magic l).2.1 D k d (ecV C I o.magic l).2.2.2.1 (ecV C I o.magic l).2.2.2.2 := by
  have ha0 := ha
  obtain ⟨hr, hnil, hnc, hn⟩ := ha
  have hl := hr.1
  have hlen : (ecV C I o.magic l).2.2.1.length ≤ l.length := by
    unfold ecV
    split
    · simp
    · split
      · simp
      · split
        · simp
        · split
          · simp
          · show (rpL 10 I o.magic (l.drop 4)).length ≤ _
            unfold rpL
            split
            · rw [List.length_append, putB_length, List.length_drop]; omega
            · simp
  refine (recho_any C I o A n c w.heap.size l W ho (hr.below h.bel) h.bel.size hnil hnc (by omega)).mono ?_
  generalize ecV C I o.magic l = x at *
  rintro e w1 ⟨F, k', f, rfl, ho1, hb1⟩
  have hk := hown.len.1
  have hk' : k' = k := by rw [hk]; exact ho1.len.1
  subst hk'
  have h1 := h.later hb1
  have BA : Below w1.heap.size w1 (w1.alloc (.cells #[.int .i64 x.1, .int .i64 x.2.1, .slice F k' f] 54)) := (Below.refl _ _).alloc (Nat.le_refl _) _
  have hn1 := blk_new w1 54 [.int .i64 x.1, .int .i64 x.2.1, .slice F k' f]
  obtain ⟨W1, hW1⟩ : ∃ V, V = w1.alloc (.cells #[.int .i64 x.1, .int .i64 x.2.1, .slice F k' f] 54) := ⟨_, rfl⟩
  have hp1 : PkC W1 w1.heap.size x.1 x.2.1 (.slice F k' f) := by rw [hW1]; exact PkC.of hn1
  rw [← hW1] at BA
  have h2 := h1.later BA
  have s1 := hb1.size
  have B01 : Below W.heap.size W W1 := hb1.trans (BA.mono s1)
  have ha1 := hq.later haW B01
  have hoD := hown.later B01
  have hoF := ho1.later BA
  refine ⟨F, f, W1, rfl, hW1.symm, ha1, hp1, (samePacket_yes D F k' d f W1.heap.size _ _ _ W1 hoD.rdAll hoF.rdAll (Nat.le_refl _) (by omega)).mono ?_⟩
  rintro e w2 ⟨rfl, hb2⟩
  have h3 := h2.later hb2
  have s2 := B01.size
  refine ⟨rfl, ha1.later (by omega) hb2, (spoil_own _ base x.2.2.1 w2 (hoD.later hb2) (by have := hb2.size; omega) (by omega)).mono ?_⟩
  rintro e w3 ⟨rfl, hG⟩
  have h4 := h3.grown hG (fun q hq => by have := (hown.block q hq).1; omega)
  exact ⟨rfl, h4.p, ec4 h4 ha0 code magic hm0 hm1⟩
end
end Go.Proofs.Ytonbdcajepmgbaa
