/-
  PapAsks: what both peers do at a call.
-/
import Derived.Test.YtglboagjmbjehaaPaMeth
import Derived.Test.YtglboagjmbjehaaPaSame
import Derived.Test.YtglboagjmbjehaaPaStep
namespace Go.Proofs.Ytglboagjmbjehaa
open Go.RowKit Go.Shelf
set_option maxRecDepth 100000
set_option maxHeartbeats 4000000
set_option linter.unusedSimpArgs false
set_option linter.unusedVariables false

theorem PrOk.sends {p : Pr} (h : PrOk p) : PrOk p.sends.1 := by
  obtain ⟨h1, h2, h3, h4, h5, h6, h7⟩ := h
  unfold Pr.sends
  split
  · exact ⟨h1, h2, h3, h4, h5, h6, h7⟩
  · split
    · exact ⟨h1, h2, h3, h4, h5, h6, h7⟩
    · exact ⟨h1, h2, h3, by show 0 ≤ p.sent + 1; omega, by show p.sent + 1 ≤ 255; omega, by show 0 ≤ (p.last + 1) % 256; omega, by show (p.last + 1) % 256 ≤ 255; omega⟩
theorem PrOk.take {p : Pr} (h : PrOk p) (code id : Int) (l : List UInt8) : PrOk (p.take code id l).1 := by
  obtain ⟨h1, h2, h3, h4, h5, h6, h7⟩ := h
  unfold Pr.take
  split
  · exact ⟨h1, h2, h3, h4, h5, h6, h7⟩
  · split
    · exact ⟨h1, h2, h3, h4, h5, h6, h7⟩
    · split
      · exact ⟨h1, h2, h3, h4, h5, h6, h7⟩
      · exact ⟨h1, h2, h3, h4, h5, h6, h7⟩
theorem PrOk.reset {p : Pr} (h : PrOk p) : PrOk p.reset := by
  obtain ⟨h1, h2, h3, h4, h5, h6, h7⟩ := h
  exact ⟨h1, h2, h3, by show (0 : Int) ≤ 0; omega, by show (0 : Int) ≤ 255; omega, h6, h7⟩
/-- both peers are there, and hold the same -/
structure AskJ (w W : World) (g h : Nat) (p : Pr) : Prop where
  bel : Below w.heap.size w W
  lo : w.heap.size ≤ g ∧ w.heap.size ≤ h ∧ g ≠ h
  one : Blk W g 81 p.cells
  two : Blk W h 60 p.cells
  ok : PrOk p
theorem AskJ.later {w W W' : World} {g h : Nat} {p : Pr} (j : AskJ w W g h p) (hB : Below W.heap.size W W') : AskJ w W' g h p :=
  ⟨j.bel.trans (hB.mono j.bel.size), j.lo, (hB.block _ (Blk.lt j.one)).trans j.one, (hB.block _ (Blk.lt j.two)).trans j.two, j.ok⟩
theorem below_row {w W W' : World} {g : Nat} (h : Below w.heap.size w W) (k : W.grownBy W' (some g)) (hg : w.heap.size ≤ g) : Below w.heap.size w W' :=
  ⟨k.os.trans h.os, k.tape.trans h.tape, k.output.trans h.output, Nat.le_trans h.size k.size, fun i hi => (k.block i (Nat.lt_of_lt_of_le hi h.size) (by intro e; injection e with e; omega)).trans (h.block i hi)⟩
theorem blk_off {W W' : World} {g i t : Nat} {cs : List Value} (h : Blk W i t cs) (k : W.grownBy W' (some g)) (hne : i ≠ g) : Blk W' i t cs :=
  (k.block i (Blk.lt h) (by intro e; injection e with e; omega)).trans h
/-- a box for a packet -/
def boxP (W : World) (C I : Int) (D : Option Addr) (k d : Nat) : World := W.alloc (.cells #[.int .i64 C, .int .i64 I, .slice D k d] 38)
theorem rd_nil (w : World) (B : Nat) : Rd w B none 0 [] := Rd.nil
def SendC (w W : World) (g h o : Nat) (ocs : List Value) (p : Pr) : Prop :=
  Calls Try.prog 21 #[.pointer (some ⟨g, 0, none⟩)] W fun e W1 => ∃ (C I : Int) (D : Option Addr) (k d : Nat) (b : Bool) (er : Int), e = .returned (.tuple #[.agg #[.int .i64 C, .int .i64 I, .slice D k d], .bool b, .int .i64 er]) ∧
    Calls Try.prog 22 #[.pointer (some ⟨h, 0, none⟩)] (W1.alloc (.cells #[.int .i64 C, .int .i64 I, .slice D k d] 38)) fun e W2 => ∃ (D' : Option Addr) (k' d' : Nat), e = .returned (.tuple #[.agg #[.int .i64 C, .int .i64 I, .slice D' k' d'], .bool b, .int .i64 er]) ∧
      Blk W2 W1.heap.size 38 [.int .i64 C, .int .i64 I, .slice D k d] ∧
      Calls Try.prog 15 #[.agg #[.int .i64 C, .int .i64 I, .slice D k d], .agg #[.int .i64 C, .int .i64 I, .slice D' k' d']] (W2.alloc (.cells #[.int .i64 C, .int .i64 I, .slice D' k' d'] 38)) fun e W3 => e = .returned (.bool true) ∧ AskJ w W3 g h p.sends.1 ∧ Blk W3 o 40 ocs
theorem same_self (C I : Int) (l : List UInt8) : sameP C I l C I l = true := sameP_iff.2 ⟨rfl, rfl, rfl⟩
theorem send_both {w W : World} {g h o : Nat} {ocs : List Value} {p : Pr} (j : AskJ w W g h p) (hx : Blk W o 40 ocs) (ho : o ≠ g ∧ o ≠ h) : SendC w W g h o ocs p := by
  obtain ⟨jl1, jl2, jne⟩ := j.lo
  refine (ppeerSend_any g p W j.one j.ok).mono ?_
  rintro e W1 ⟨g1, b1, hr⟩
  have h1 : Blk W1 h 60 p.cells := blk_off j.two g1 (by omega)
  have x1 := blk_off hx g1 ho.1
  have B1 := below_row j.bel g1 jl1
  rcases hr with ⟨hf, rfl⟩ | ⟨hf, D, k, d, rfl, hO⟩
  · refine ⟨_, _, _, _, _, _, _, rfl, ?_⟩
    obtain ⟨V, hV⟩ : ∃ V, W1.alloc (.cells #[.int .i64 0, .int .i64 0, .slice none 0 0] 38) = V := ⟨_, rfl⟩
    have bV : Below W1.heap.size W1 V := by rw [← hV]; exact (Below.refl _ _).alloc (Nat.le_refl _) _
    have nV : Blk V W1.heap.size 38 [.int .i64 0, .int .i64 0, .slice none 0 0] := by rw [← hV]; exact heap_alloc_new W1 _
    rw [hV]
    refine (rpeerSend_any h p V ((bV.block _ (Blk.lt h1)).trans h1) j.ok).mono ?_
    rintro e W2 ⟨g2, b2, hr2⟩
    have zz := Blk.lt h1
    obtain ⟨-, rfl⟩ := hr2.resolve_right (fun ⟨hf2, _⟩ => by rw [hf] at hf2; cases hf2)
    refine ⟨_, _, _, rfl, blk_off nV g2 (by omega), ?_⟩
    refine (same_any 0 0 0 0 none none 0 0 0 0 0 [] [] _ (rd_nil _ _) (rd_nil _ _) (Nat.zero_le _)).mono ?_
    rintro e W3 ⟨rfl, b3⟩
    have bA : Below W2.heap.size W2 W3 := ((Below.refl _ _).alloc (Nat.le_refl _) _).trans (b3.mono (by simp))
    refine ⟨by rw [same_self], ⟨?_, j.lo, ?_, ?_, j.ok.sends⟩, ?_⟩
    · exact (below_row (B1.trans (bV.mono B1.size)) g2 jl2).trans (bA.mono (by have := B1.size; have := bV.size; have := g2.size; omega))
    · have q := blk_off ((bV.block _ (Blk.lt b1)).trans b1) g2 jne
      exact (bA.block _ (Blk.lt q)).trans q
    · exact (bA.block _ (Blk.lt b2)).trans b2
    · have q := blk_off ((bV.block _ (Blk.lt x1)).trans x1) g2 ho.2
      exact (bA.block _ (Blk.lt q)).trans q
  · refine ⟨_, _, _, _, _, _, _, rfl, ?_⟩
    obtain ⟨V, hV⟩ : ∃ V, W1.alloc (.cells #[.int .i64 1, .int .i64 p.sends.1.last, .slice D k d] 38) = V := ⟨_, rfl⟩
    have bV : Below W1.heap.size W1 V := by rw [← hV]; exact (Below.refl _ _).alloc (Nat.le_refl _) _
    have nV : Blk V W1.heap.size 38 [.int .i64 1, .int .i64 p.sends.1.last, .slice D k d] := by rw [← hV]; exact heap_alloc_new W1 _
    rw [hV]
    refine (rpeerSend_any h p V ((bV.block _ (Blk.lt h1)).trans h1) j.ok).mono ?_
    rintro e W2 ⟨g2, b2, hr2⟩
    have zz := Blk.lt h1
    obtain ⟨-, D', k', d', rfl, hO2⟩ := hr2.resolve_left (fun ⟨hf2, _⟩ => by rw [hf] at hf2; cases hf2)
    refine ⟨_, _, _, rfl, blk_off nV g2 (by omega), ?_⟩
    have hOb : (Value.slice D k d).ownBlock = none ∨ (Value.slice D k d).ownBlock ≠ some h := by
      refine .inr fun e => ?_
      have := (hO.block h e).1
      have := Blk.lt j.two
      omega
    have hO3 := ((hO.later bV).grown g2 hOb).alloc (.cells #[.int .i64 1, .int .i64 p.sends.1.last, .slice D' k' d'] 38)
    have hO4 := hO2.alloc (.cells #[.int .i64 1, .int .i64 p.sends.1.last, .slice D' k' d'] 38)
    refine (same_any _ _ _ _ D D' k d k' d' _ _ _ _ (own_rd hO3).1 (own_rd hO4).1 (Nat.le_refl _)).mono ?_
    rintro e W3 ⟨rfl, b3⟩
    have bA : Below W2.heap.size W2 W3 := ((Below.refl _ _).alloc (Nat.le_refl _) _).trans (b3.mono (by simp))
    refine ⟨by rw [same_self], ⟨?_, j.lo, ?_, ?_, j.ok.sends⟩, ?_⟩
    · exact (below_row (B1.trans (bV.mono B1.size)) g2 jl2).trans (bA.mono (by have := B1.size; have := bV.size; have := g2.size; omega))
    · have q := blk_off ((bV.block _ (Blk.lt b1)).trans b1) g2 jne
      exact (bA.block _ (Blk.lt q)).trans q
    · exact (bA.block _ (Blk.lt b2)).trans b2
    · have q := blk_off ((bV.block _ (Blk.lt x1)).trans x1) g2 ho.2
      exact (bA.block _ (Blk.lt q)).trans q
theorem both_take {w W : World} {g h o : Nat} {ocs : List Value} {p : Pr} (j : AskJ w W g h p) (hx : Blk W o 40 ocs) (ho : o ≠ g ∧ o ≠ h) (code id : Int) (D : Option Addr) (k d B : Nat) (l : List UInt8) (hr : Rd W B D k l) (hB : B ≤ w.heap.size) (hkd : k ≤ d) (hnil : D = none → d = 0) (hm : k ≤ maxLen) :
    Calls Try.prog 23 #[.pointer (some ⟨g, 0, none⟩), .agg #[.int .i64 code, .int .i64 id, .slice D k d]] W fun e W1 => ∃ (b : Bool) (er : Int), e = .returned (.tuple #[.bool b, .int .i64 er]) ∧ Blk W1 o 40 ocs ∧
      Calls Try.prog 24 #[.pointer (some ⟨h, 0, none⟩), .agg #[.int .i64 code, .int .i64 id, .slice D k d]] W1 fun e W2 => e = .returned (.tuple #[.bool b, .int .i64 er]) ∧ AskJ w W2 g h (p.take code id l).1 ∧ Blk W2 o 40 ocs := by
  obtain ⟨jl1, jl2, jne⟩ := j.lo
  refine (ppeerTake_any g p code id D k d B l W j.one hr (Nat.le_trans hB j.bel.size) hkd hnil hm).mono ?_
  rintro e W1 ⟨g1, b1, rfl⟩
  have h1 : Blk W1 h 60 p.cells := blk_off j.two g1 (by omega)
  have B1 := below_row j.bel g1 jl1
  have x1 := blk_off hx g1 ho.1
  refine ⟨_, _, rfl, x1, ?_⟩
  have hr1 : Rd W1 B D k l := hr.grown g1 (Nat.le_trans hB j.bel.size) (fun q e => by injection e with e; omega)
  refine (rpeerTake_any h p code id D k d B l W1 h1 hr1 (Nat.le_trans hB B1.size) hkd hnil hm).mono ?_
  rintro e W2 ⟨g2, b2, rfl⟩
  exact ⟨rfl, ⟨below_row B1 g2 jl2, j.lo, blk_off b1 g2 jne, b2, j.ok.take _ _ _⟩, blk_off x1 g2 ho.2⟩
theorem both_reset {w W : World} {g h o : Nat} {ocs : List Value} {p : Pr} (j : AskJ w W g h p) (hx : Blk W o 40 ocs) (ho : o ≠ g ∧ o ≠ h) :
    Calls Try.prog 25 #[.pointer (some ⟨g, 0, none⟩)] W fun e W1 => e = .returned (.tuple #[]) ∧
      Calls Try.prog 26 #[.pointer (some ⟨h, 0, none⟩)] W1 fun e W2 => e = .returned (.tuple #[]) ∧ AskJ w W2 g h p.reset ∧ Blk W2 o 40 ocs := by
  obtain ⟨jl1, jl2, jne⟩ := j.lo
  refine (ppeerReset_any g p W j.one).mono ?_
  rintro e W1 ⟨rfl, g1, b1⟩
  have h1 : Blk W1 h 60 p.cells := blk_off j.two g1 (by omega)
  have B1 := below_row j.bel g1 jl1
  have x1 := blk_off hx g1 ho.1
  refine ⟨rfl, (rpeerReset_any h p W1 h1).mono ?_⟩
  rintro e W2 ⟨rfl, g2, b2⟩
  exact ⟨rfl, ⟨below_row B1 g2 jl2, j.lo, blk_off b1 g2 jne, b2, j.ok.reset⟩, blk_off x1 g2 ho.2⟩
end Go.Proofs.Ytglboagjmbjehaa
