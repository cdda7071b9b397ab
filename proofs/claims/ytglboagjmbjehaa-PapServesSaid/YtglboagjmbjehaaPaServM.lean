/-
  PapServes: what both authenticators do at a call.
-/
import Derived.Test.YtglboagjmbjehaaPaRSrv
import Derived.Test.YtglboagjmbjehaaPaKept
import Derived.Test.YtglboagjmbjehaaPaOps
import Derived.Test.YtglboagjmbjehaaSeCopy
import Derived.Test.YtglboagjmbjehaaSeROne
namespace Go.Proofs.Ytglboagjmbjehaa
open Go.RowKit Go.Shelf
set_option maxRecDepth 100000
set_option maxHeartbeats 4000000
set_option linter.unusedSimpArgs false
set_option linter.unusedVariables false

/-- an authenticator stays as it was where another block is written -/
theorem SvJ.apart {W W' : World} {g tb gp t : Nat} {name : ByteArray} {ss : List Sec} {v : Option (Bool × ByteArray)} {cs : List Value} (h : SvJ W g tb name ss v) (hg : g < gp) (hb : Blk W gp t cs) (hl : cs.length ≠ 1) (k : W.grownBy W' (some gp)) : SvJ W' g tb name ss v := by
  have key : ∀ {st : Int} {who : ByteArray} {ans : Value}, SvAt W g tb name ss st who ans → SvAt W' g tb name ss st who ans := fun h =>
    ⟨blk_off h.blk k (by omega), h.tab.same fun i hi => k.block i (Nat.lt_trans hi (Blk.lt h.blk)) (by intro e; injection e with e; omega)⟩
  have ne : ∀ {x t' : Nat} {u : Value}, Blk W x t' [u] → x ≠ gp := fun hx e => by
    subst e
    unfold Blk at hx hb
    rw [hb] at hx
    injection hx with hx
    injection hx with hx
    have := congrArg Array.size hx
    simp at this
    exact hl this
  match v, h with
  | none, h => exact key h
  | some (ok, who), ⟨x, y, h, hx, hy⟩ => exact ⟨x, y, key h, blk_off hx k (ne hx), blk_off hy k (ne hy)⟩
/-- both authenticators are there, and have decided the same -/
structure ServJ (w W : World) (g tb h : Nat) (name : ByteArray) (A : Option Addr) (n c : Nat) (ss : List Sec) (v : Option (Bool × ByteArray)) : Prop where
  bel : Below w.heap.size w W
  lo : w.heap.size ≤ g ∧ tb < g ∧ g < h
  sv : SvJ W g tb name ss v
  rv : RSv W h name A n c v
  sec : SecRd w w.heap.size A n ss
  nm : name.size ≤ maxLen
theorem ServJ.later {w W W' : World} {g tb h : Nat} {name : ByteArray} {A : Option Addr} {n c : Nat} {ss : List Sec} {v : Option (Bool × ByteArray)} (j : ServJ w W g tb h name A n c ss v) (hB : Below W.heap.size W W') : ServJ w W' g tb h name A n c ss v :=
  ⟨j.bel.trans (hB.mono j.bel.size), j.lo, j.sv.later hB, (hB.block _ (Blk.lt j.rv)).trans j.rv, j.sec, j.nm⟩
def KeptC (w W : World) (g tb h o : Nat) (ocs : List Value) (name : ByteArray) (A : Option Addr) (n c : Nat) (ss : List Sec) (v : Option (Bool × ByteArray)) (C I : Int) (D : Option Addr) (k d gq cap bq : Nat) : Prop :=
  Blk W bq 38 [.int .i64 C, .int .i64 I, .slice (some ⟨gq, 0, none⟩) k cap] ∧ Blk W o 40 ocs ∧
  Calls Try.prog 16 #[.agg #[.int .i64 C, .int .i64 I, .slice (some ⟨gq, 0, none⟩) k cap], .agg #[.int .i64 C, .int .i64 I, .slice D k d]] W fun e W5 => e = .returned (.bool true) ∧ ServJ w W5 g tb h name A n c ss v
def SameC (w W : World) (g tb h o : Nat) (ocs : List Value) (name : ByteArray) (A : Option Addr) (n c : Nat) (ss : List Sec) (v : Option (Bool × ByteArray)) (C I : Int) (D : Option Addr) (k d gq cap bq : Nat) (C' I' : Int) (D1 : Option Addr) (k1 d1 ba : Nat) (D2 : Option Addr) (k2 d2 bb : Nat) : Prop :=
  Blk W ba 38 [.int .i64 C', .int .i64 I', .slice D1 k1 d1] ∧ Blk W bb 38 [.int .i64 C', .int .i64 I', .slice D2 k2 d2] ∧
  Calls Try.prog 15 #[.agg #[.int .i64 C', .int .i64 I', .slice D1 k1 d1], .agg #[.int .i64 C', .int .i64 I', .slice D2 k2 d2]] W fun e W4 => e = .returned (.bool true) ∧ KeptC w W4 g tb h o ocs name A n c ss v C I D k d gq cap bq
def RTakC (w W : World) (g tb h o : Nat) (ocs : List Value) (name : ByteArray) (A : Option Addr) (n c : Nat) (ss : List Sec) (v : Option (Bool × ByteArray)) (C I : Int) (D : Option Addr) (k d gq cap bq : Nat) (C' I' : Int) (D1 : Option Addr) (k1 d1 ba : Nat) (b : Bool) (er : Int) : Prop :=
  Blk W o 40 ocs ∧
  Calls Try.prog 14 #[.pointer (some ⟨h, 0, none⟩), .agg #[.int .i64 C, .int .i64 I, .slice D k d]] W fun e W3 => ∃ D2 k2 d2, e = .returned (.tuple #[.agg #[.int .i64 C', .int .i64 I', .slice D2 k2 d2], .bool b, .int .i64 er]) ∧
    ∃ X3, W3.alloc (.cells #[.int .i64 C', .int .i64 I', .slice D2 k2 d2] 38) = X3 ∧ SameC w X3 g tb h o ocs name A n c ss v C I D k d gq cap bq C' I' D1 k1 d1 ba D2 k2 d2 W3.heap.size
def STakC (w W : World) (g tb h o : Nat) (ocs : List Value) (name : ByteArray) (A : Option Addr) (n c : Nat) (ss : List Sec) (v : Option (Bool × ByteArray)) (C I : Int) (D : Option Addr) (k d gq cap bq : Nat) : Prop :=
  Blk W bq 38 [.int .i64 C, .int .i64 I, .slice (some ⟨gq, 0, none⟩) k cap] ∧
  Calls Try.prog 13 #[.pointer (some ⟨g, 0, none⟩), .agg #[.int .i64 C, .int .i64 I, .slice (some ⟨gq, 0, none⟩) k cap]] W fun e W2 => ∃ (C' I' : Int) (D1 : Option Addr) (k1 d1 : Nat) (b : Bool) (er : Int), e = .returned (.tuple #[.agg #[.int .i64 C', .int .i64 I', .slice D1 k1 d1], .bool b, .int .i64 er]) ∧
    ∃ X2, W2.alloc (.cells #[.int .i64 C', .int .i64 I', .slice D1 k1 d1] 38) = X2 ∧ RTakC w X2 g tb h o ocs name A n c ss v C I D k d gq cap bq C' I' D1 k1 d1 W2.heap.size b er
def LentC (w W : World) (g tb h o : Nat) (ocs : List Value) (name : ByteArray) (A : Option Addr) (n c : Nat) (ss : List Sec) (v : Option (Bool × ByteArray)) (C I : Int) (D : Option Addr) (k d : Nat) : Prop :=
  Calls Try.prog 12 #[.agg #[.int .i64 C, .int .i64 I, .slice D k d]] W fun e W1 => ∃ gq cap, e = .returned (.agg #[.int .i64 C, .int .i64 I, .slice (some ⟨gq, 0, none⟩) k cap]) ∧
    ∃ X1, W1.alloc (.cells #[.int .i64 C, .int .i64 I, .slice (some ⟨gq, 0, none⟩) k cap] 38) = X1 ∧ STakC w X1 g tb h o ocs name A n c ss v C I D k d gq cap W1.heap.size
theorem take_alike {W1 : World} {C I : Int} {l : List UInt8} {v : Option (Bool × ByteArray)} {V1 : World} {e : Ending} (h : TakeA V1 C I l v e W1) :
    ∃ (C' I' : Int) (D1 : Option Addr) (k1 d1 : Nat) (b : Bool) (er : Int) (m : List UInt8), e = .returned (.tuple #[.agg #[.int .i64 C', .int .i64 I', .slice D1 k1 d1], .bool b, .int .i64 er]) ∧ Own W1 V1.heap.size (.slice D1 k1 d1) m ∧
      ∀ V2 W2 e2, TakeA V2 C I l v e2 W2 → ∃ D2 k2 d2, e2 = .returned (.tuple #[.agg #[.int .i64 C', .int .i64 I', .slice D2 k2 d2], .bool b, .int .i64 er]) ∧ Own W2 V2.heap.size (.slice D2 k2 d2) m := by
  rcases h with ⟨h1, rfl⟩ | ⟨h1, ok, who, D, k, d, rfl, rfl, hO⟩
  · refine ⟨_, _, _, _, _, _, _, [], rfl, Own.nil _ _, fun V2 W2 e2 h2 => ?_⟩
    rcases h2 with ⟨_, rfl⟩ | ⟨h3, _⟩
    · exact ⟨_, _, _, rfl, Own.nil _ _⟩
    · exact absurd h3 h1
  · refine ⟨_, _, _, _, _, _, _, _, rfl, hO, fun V2 W2 e2 h2 => ?_⟩
    rcases h2 with ⟨h3, _⟩ | ⟨_, ok', who', D', k', d', e3, rfl, hO'⟩
    · exact absurd h1 h3
    · injection e3 with e3
      injection e3 with e3 e4
      subst e3
      exact ⟨_, _, _, rfl, hO'⟩
theorem lent_rd {W : World} {base n g cap : Nat} {l : List UInt8} (h : LentAt W base l n g cap) (hl : l.length = n) : Rd W W.heap.size (some ⟨g, 0, none⟩) n l := by
  have h1 := h.1.rd (by simp [hl]) n (by omega)
  rw [List.take_left' hl] at h1
  exact h1
theorem LentAt.off {W W' : World} {base n g cap q : Nat} {l : List UInt8} (h : LentAt W base l n g cap) (k : W.grownBy W' (some q)) (hq : q < base) : LentAt W' base l n g cap :=
  ⟨h.1.grown k (.inr fun e => by have := (h.1.block q e).1; omega), h.2⟩
theorem LentAt.later {W W' : World} {base n g cap : Nat} {l : List UInt8} (h : LentAt W base l n g cap) (k : Below W.heap.size W W') : LentAt W' base l n g cap := ⟨h.1.later k, h.2⟩
theorem serve_any {w W : World} {g tb h o : Nat} {ocs : List Value} {name : ByteArray} {A : Option Addr} {n c : Nat} {ss : List Sec} {v : Option (Bool × ByteArray)} (j : ServJ w W g tb h name A n c ss v) (hx : Blk W o 40 ocs) (ho : o ≠ g ∧ o ≠ h)
    (C I : Int) (D : Option Addr) (k d : Nat) (l : List UInt8) (hr : Rd W w.heap.size D k l) (hkd : k ≤ d) (hnil : D = none → d = 0) (hd : d ≤ 140737488351232) :
    LentC w W g tb h o ocs name A n c ss (takeV name ss v C I l) C I D k d := by
  obtain ⟨jl1, jl2, jl3⟩ := j.lo
  have hgl := Blk.lt j.rv
  have hll := hr.1
  refine (lent_pk C I D k d w.heap.size l W hr j.bel.size hnil (by omega)).mono ?_
  rintro e W1 ⟨gq, cap, rfl, hL, b1⟩
  have hBa := (Below.refl W1.heap.size W1).alloc (Nat.le_refl _) (.cells #[.int .i64 C, .int .i64 I, .slice (some ⟨gq, 0, none⟩) k cap] 38)
  obtain ⟨X1, hX1⟩ : ∃ X, W1.alloc (.cells #[.int .i64 C, .int .i64 I, .slice (some ⟨gq, 0, none⟩) k cap] 38) = X := ⟨_, rfl⟩
  have n1 : Blk X1 W1.heap.size 38 [.int .i64 C, .int .i64 I, .slice (some ⟨gq, 0, none⟩) k cap] := by rw [← hX1]; exact heap_alloc_new W1 _
  rw [hX1] at hBa
  have hL1 := hL.later hBa
  have j1 := (j.later b1).later hBa
  have x1 : Blk X1 o _ ocs := past_same (past_same hx b1) hBa
  have rd1 := (hr.later j.bel.size b1).later (Nat.le_trans j.bel.size b1.size) hBa
  have z1 := b1.size
  have z2 := hBa.size
  refine ⟨gq, cap, rfl, X1, hX1, n1, ?_⟩
  refine (take_any g tb name ss v C I (some ⟨gq, 0, none⟩) k cap X1.heap.size l X1 j1.sv jl2 j.nm (lent_rd hL1 hll) (Nat.le_refl _) (by have := hL1.2; omega) (fun e => by cases e)).mono ?_
  rintro e W2 ⟨g2, s2, hT⟩
  -- behind the authenticator's answer
  have j2b : Below w.heap.size w W2 := below_row j1.bel g2 jl1
  have r2 : RSv W2 h name A n c v := blk_off j1.rv g2 (by omega)
  have rd2 : Rd W2 w.heap.size D k l := rd1.grown g2 j1.bel.size (fun q e => by injection e with e; omega)
  have x2 := blk_off x1 g2 ho.1
  have q2 := blk_off n1 g2 (by omega)
  have hL2 := hL1.off g2 (by omega)
  have zz2 := g2.size
  obtain ⟨C', I', D1, k1, d1, b, er, m, rfl, hO1, hAl⟩ := take_alike hT
  refine ⟨C', I', D1, k1, d1, b, er, rfl, ?_⟩
  have hBb := (Below.refl W2.heap.size W2).alloc (Nat.le_refl _) (.cells #[.int .i64 C', .int .i64 I', .slice D1 k1 d1] 38)
  obtain ⟨X2, hX2⟩ : ∃ X, W2.alloc (.cells #[.int .i64 C', .int .i64 I', .slice D1 k1 d1] 38) = X := ⟨_, rfl⟩
  have n2 : Blk X2 W2.heap.size 38 [.int .i64 C', .int .i64 I', .slice D1 k1 d1] := by rw [← hX2]; exact heap_alloc_new W2 _
  rw [hX2] at hBb
  have zb := hBb.size
  have s3 := s2.later hBb
  have r3 : Blk X2 h 47 _ := past_same r2 hBb
  have rd3 := rd2.later j2b.size hBb
  have x3 := past_same x2 hBb
  have q3 := past_same q2 hBb
  have hL3 := hL2.later hBb
  have hO3 := hO1.later hBb
  have j3b : Below w.heap.size w X2 := j2b.trans (hBb.mono j2b.size)
  refine ⟨X2, hX2, x3, ?_⟩
  refine (rtakeS_any h name A n c w.heap.size ss v C I D k d w.heap.size l X2 r3 (j.sec.below j3b (Nat.le_refl _)) (by omega) rd3 j3b.size hkd hnil (by unfold maxLen; omega)).mono ?_
  rintro e W3 ⟨g4, r4, hT2⟩
  obtain ⟨D2, k2, d2, rfl, hO2⟩ := hAl _ _ e hT2
  have hBc := (Below.refl W3.heap.size W3).alloc (Nat.le_refl _) (.cells #[.int .i64 C', .int .i64 I', .slice D2 k2 d2] 38)
  obtain ⟨X3, hX3⟩ : ∃ X, W3.alloc (.cells #[.int .i64 C', .int .i64 I', .slice D2 k2 d2] 38) = X := ⟨_, rfl⟩
  have n3 : Blk X3 W3.heap.size 38 [.int .i64 C', .int .i64 I', .slice D2 k2 d2] := by rw [← hX3]; exact heap_alloc_new W3 _
  rw [hX3] at hBc
  have zc := hBc.size
  have zz4 := g4.size
  have hne : (Value.slice D1 k1 d1).ownBlock = none ∨ (Value.slice D1 k1 d1).ownBlock ≠ some h := .inr fun e => by have := (hO1.block h e).1; omega
  have hOa := (hO3.grown g4 hne).later hBc
  have hOb := hO2.later hBc
  have j4b : Below w.heap.size w W3 := below_row j3b g4 (by omega)
  have rd4 : Rd X3 w.heap.size D k l := (rd3.grown g4 j3b.size (fun q e => by injection e with e; omega)).later j4b.size hBc
  have a4 : Blk X3 W2.heap.size 38 _ := past_same (blk_off n2 g4 (by omega)) hBc
  have q4 : Blk X3 W1.heap.size 38 _ := past_same (blk_off q3 g4 (by omega)) hBc
  have x4 : Blk X3 o _ ocs := past_same (blk_off x3 g4 ho.2) hBc
  have hL4 := (hL3.off g4 (by omega)).later hBc
  have j4 : ServJ w X3 g tb h name A n c ss (takeV name ss v C I l) :=
    ⟨j4b.trans (hBc.mono j4b.size), ⟨jl1, jl2, jl3⟩, (s3.apart jl3 r3 (by simp) g4).later hBc, past_same r4 hBc, j.sec, j.nm⟩
  refine ⟨D2, k2, d2, rfl, X3, hX3, a4, n3, ?_⟩
  refine (same_any C' I' C' I' D1 D2 k1 d1 k2 d2 X3.heap.size m m X3 (own_rd hOa).1 (own_rd hOb).1 (Nat.le_refl _)).mono ?_
  rintro e W4 ⟨rfl, b4⟩
  have j5 := j4.later b4
  refine ⟨by rw [same_self], past_same q4 b4, past_same x4 b4, ?_⟩
  refine (kept_pk C I D k d w.heap.size W.heap.size gq cap l W4 (hL4.later b4) (rd4.later j4.bel.size b4) j5.bel.size hkd (by omega)).mono ?_
  rintro e W5 ⟨rfl, b5⟩
  exact ⟨rfl, j5.later b5⟩
theorem serve_reset {w W : World} {g tb h o : Nat} {ocs : List Value} {name : ByteArray} {A : Option Addr} {n c : Nat} {ss : List Sec} {v : Option (Bool × ByteArray)} (j : ServJ w W g tb h name A n c ss v) :
    Calls Try.prog 10 #[.pointer (some ⟨g, 0, none⟩)] W fun e W1 => e = .returned (.tuple #[]) ∧
      Calls Try.prog 11 #[.pointer (some ⟨h, 0, none⟩)] W1 fun e W2 => e = .returned (.tuple #[]) ∧ ServJ w W2 g tb h name A n c ss none := by
  obtain ⟨jl1, jl2, jl3⟩ := j.lo
  have key : ∃ st who ans, SvAt W g tb name ss st who ans := by
    have h := j.sv
    match v, h with
    | none, h => exact ⟨_, _, _, h⟩
    | some (ok, who), ⟨x, y, h, _⟩ => exact ⟨_, _, _, h⟩
  obtain ⟨st, who, ans, hs⟩ := key
  refine (pserverReset_any g tb name ss st who ans W hs).mono ?_
  rintro e W1 ⟨rfl, g1, h1⟩
  have b1 := below_row j.bel g1 jl1
  have r1 : RSv W1 h name A n c v := blk_off j.rv g1 (by omega)
  refine ⟨rfl, (rserverReset_any h name A n c v W1 r1).mono ?_⟩
  rintro e W2 ⟨rfl, g2, r2⟩
  have s1 : SvJ W1 g tb name ss none := h1
  exact ⟨rfl, below_row b1 g2 (by omega), j.lo, s1.apart jl3 r1 (by simp) g2, r2, j.sec, j.nm⟩
theorem serve_state {w W : World} {g tb h : Nat} {name : ByteArray} {A : Option Addr} {n c : Nat} {ss : List Sec} {v : Option (Bool × ByteArray)} (j : ServJ w W g tb h name A n c ss v) :
    Calls Try.prog 17 #[.pointer (some ⟨g, 0, none⟩)] W (fun e w' => e = .returned (.int .i64 (stV v)) ∧ W = w') ∧
    Calls Try.prog 18 #[.pointer (some ⟨g, 0, none⟩)] W (fun e w' => e = .returned (.string (whoV v)) ∧ W = w') := by
  have h := j.sv
  match v, h with
  | none, h => exact ⟨serverState_any g tb name ss _ _ _ W h, who_any g tb name ss _ _ _ W h⟩
  | some (ok, who), ⟨x, y, h, _⟩ => exact ⟨serverState_any g tb name ss _ _ _ W h, who_any g tb name ss _ _ _ W h⟩
theorem ServJ.drewN {w W : World} {g tb h : Nat} {name : ByteArray} {A : Option Addr} {n c : Nat} {ss : List Sec} {v : Option (Bool × ByteArray)} (j : ServJ w W g tb h name A n c ss v) (q : Nat) : ServJ w (W.drewN q) g tb h name A n c ss v := j.later (below_drewS (Below.refl _ _) q)
end Go.Proofs.Ytglboagjmbjehaa
