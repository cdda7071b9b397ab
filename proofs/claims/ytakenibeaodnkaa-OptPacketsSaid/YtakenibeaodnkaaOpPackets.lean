/-
  OptPackets: what is called, one after the other.
-/
import Derived.Test.YtakenibeaodnkaaOpKnownW
import Derived.Test.YtakenibeaodnkaaOpRPack
import Derived.Test.YtakenibeaodnkaaLent
import Derived.Test.YtakenibeaodnkaaKept
namespace Go.Proofs.Ytakenibeaodnkaa
open Go.RowKit
set_option maxRecDepth 100000
set_option maxHeartbeats 4000000
set_option linter.unusedSimpArgs false
set_option linter.unusedVariables false

theorem own_rdv {w : World} {base : Nat} {v : Value} {l : List UInt8} (h : Own w base v l) : ∃ A c, v = .slice A l.length c ∧ Rd w w.heap.size A l.length l ∧ (∀ q, v.ownBlock = some q → base ≤ q) := by
  have hb : ∀ q, v.ownBlock = some q → base ≤ q := fun q hq => (h.block q hq).1
  rcases h.form with ⟨rfl, rfl⟩ | ⟨g, cap, rfl, h1, h2, h3⟩
  · exact ⟨none, 0, rfl, Rd.nil, hb⟩
  · have r := h.rd rfl l.length (Nat.le_refl _)
    rw [List.take_length] at r
    exact ⟨_, _, rfl, r, hb⟩
theorem pkO_le (C I : Int) (l : List UInt8) : (pkO C I l).length ≤ l.length + 4 := by
  unfold pkO
  split
  · unfold pkB
    rw [List.length_append, List.length_append, putB_length]
    simp
    omega
  · simp
def PkC (w : World) (b : Nat) (C I : Int) (S : Value) : Prop := w.cell? ⟨b, 0, none⟩ = some (.int .i64 C) ∧ w.cell? ⟨b, 1, none⟩ = some (.int .i64 I) ∧ w.cell? ⟨b, 2, none⟩ = some S
theorem PkC.new (w : World) (C I : Int) (S : Value) : PkC (w.alloc (.cells #[.int .i64 C, .int .i64 I, S] 24)) w.heap.size C I S := by
  have h := blk_new w 24 [.int .i64 C, .int .i64 I, S]
  exact ⟨h.cell 0, h.cell 1, h.cell 2⟩
theorem PkC.later {w w' : World} {b : Nat} {C I : Int} {S : Value} (h : PkC w b C I S) (hg : b < w.heap.size) (hB : Below w.heap.size w w') : PkC w' b C I S := ⟨(hB.cell hg).trans h.1, (hB.cell hg).trans h.2.1, (hB.cell hg).trans h.2.2⟩
/-- the first half: Pack, beside the reference's -/
def PkH (w : World) (C I : Int) (A0 : Option Addr) (n0 c0 : Nat) : Prop :=
  Calls Try.prog 6 #[.slice A0 n0 c0] (w.alloc (.cells #[.int .i64 C, .int .i64 I, .slice A0 n0 c0] 24)) fun e w2 => ∃ g5 cap, e = .returned (.slice (some ⟨g5, 0, none⟩) n0 cap) ∧ PkC w2 w.heap.size C I (.slice A0 n0 c0) ∧
    Calls Try.prog 7 #[.agg #[.int .i64 C, .int .i64 I, .slice (some ⟨g5, 0, none⟩) n0 cap]] (w2.alloc (.cells #[.int .i64 C, .int .i64 I, .slice (some ⟨g5, 0, none⟩) n0 cap] 24)) fun e w4 => ∃ A n c E, e = .returned (.tuple #[.slice A n c, .int .i64 E]) ∧ PkC w4 w.heap.size C I (.slice A0 n0 c0) ∧
      Calls Try.prog 8 #[.agg #[.int .i64 C, .int .i64 I, .slice A0 n0 c0]] w4 fun e w5 => ∃ F d, e = .returned (.tuple #[.slice F n d, .int .i64 E]) ∧
        Calls Try.prog 9 #[.slice A n c, .slice F n d] w5 fun e w6 => e = .returned (.bool true) ∧ PkC w6 w.heap.size C I (.slice A0 n0 c0) ∧
          Calls Try.prog 10 #[.slice (some ⟨g5, 0, none⟩) n0 cap, .slice A0 n0 c0] w6 fun e w7 => e = .returned (.bool true) ∧
            Calls Try.prog 11 #[.slice A n c] w7 fun e w8 => e = .returned (.tuple #[]) ∧ Below w.heap.size w w8
theorem pk_half (A0 : Option Addr) (n0 c0 : Nat) (l : List UInt8) (C I : Int) (w : World) (hr : Rd w w.heap.size A0 n0 l) (hnil : A0 = none → c0 = 0) (hn : n0 ≤ c0) (hc : c0 ≤ 140737488351232) : PkH w C I A0 n0 c0 := by
  have hl := hr.1
  have B1 : Below w.heap.size w (w.alloc (.cells #[.int .i64 C, .int .i64 I, .slice A0 n0 c0] 24)) := (Below.refl _ _).alloc (Nat.le_refl _) _
  have p1 := PkC.new w C I (.slice A0 n0 c0)
  have s1 : (w.alloc (.cells #[.int .i64 C, .int .i64 I, .slice A0 n0 c0] 24)).heap.size = w.heap.size + 1 := by simp
  unfold PkH
  generalize w.alloc (.cells #[.int .i64 C, .int .i64 I, .slice A0 n0 c0] 24) = W1 at B1 p1 s1 ⊢
  refine (lent_any A0 n0 c0 l W1 ((hr.below B1).wide (by omega)) hnil (by omega)).mono ?_
  rintro e w2 ⟨g5, cap, rfl, ho, hB2⟩
  have s2 := hB2.size
  have p2 := p1.later (by omega) hB2
  refine ⟨g5, cap, rfl, p2, ?_⟩
  have hl5 : n0 + 1 = (l ++ [77]).length := by simp [hl]
  have r5 := ho.rd hl5 n0 (by omega)
  rw [List.take_left' hl] at r5
  have B3 : Below w2.heap.size w2 (w2.alloc (.cells #[.int .i64 C, .int .i64 I, .slice (some ⟨g5, 0, none⟩) n0 cap] 24)) := (Below.refl _ _).alloc (Nat.le_refl _) _
  generalize w2.alloc (.cells #[.int .i64 C, .int .i64 I, .slice (some ⟨g5, 0, none⟩) n0 cap] 24) = W3 at B3 ⊢
  have s3 := B3.size
  refine (pack_any _ n0 cap w2.heap.size l C I W3 (r5.below B3) s3 (fun e => by cases e) (by omega)).mono ?_
  rintro e w4 ⟨v, rfl, hv, hB4⟩
  have s4 := hB4.size
  have B24 : Below w2.heap.size w2 w4 := B3.trans (hB4.mono s3)
  have p4 := p2.later (by omega) B24
  have B04 : Below w.heap.size w w4 := B1.trans ((hB2.mono (by omega)).trans (B24.mono (by omega)))
  obtain ⟨A, c, rfl, rv, bv⟩ := own_rdv hv
  refine ⟨A, _, c, _, rfl, p4, (rpack_any A0 n0 c0 w.heap.size l C I w4 (hr.below B04) (by omega) hnil (by omega)).mono ?_⟩
  rintro e w5 ⟨u, rfl, hu, hB5⟩
  have s5 := hB5.size
  obtain ⟨F, d, rfl, ru, _⟩ := own_rdv hu
  have rv5 := (rv.later (Nat.le_refl _) hB5).wide s5
  have p5 := p4.later (by omega) hB5
  have B05 : Below w.heap.size w w5 := B04.trans (hB5.mono (by omega))
  have o5 : Own w5 W1.heap.size (.slice (some ⟨g5, 0, none⟩) (n0 + 1) cap) (l ++ [77]) := (ho.later B24).later hB5
  refine ⟨F, d, rfl, (same_yes A F _ c d (pkO C I l) w5 w5.heap.size rv5 ru ?_).mono ?_⟩
  · have := pkO_le C I l
    unfold maxLen
    omega
  rintro e w6 ⟨rfl, k, rfl⟩
  refine ⟨rfl, p5, (kept_any A0 g5 n0 c0 cap W1.heap.size w.heap.size l _ (o5.drewN k) ((hr.below B05).below (below_drewN (Below.refl _ _) k)) (by omega)).mono ?_⟩
  rintro e w7 ⟨rfl, k2, rfl⟩
  refine ⟨rfl, (spoil_own _ W3.heap.size (pkO C I l) _ (((hv.later hB5).drewN k).drewN k2) (by show _ ≤ w5.heap.size; omega) ?_).mono ?_⟩
  · have := pkO_le C I l
    omega
  rintro e w8 ⟨rfl, hG⟩
  exact ⟨rfl, (below_drewN (below_drewN B05 k) k2).grown hG (by show _ ≤ w5.heap.size; omega) (fun q hq => by have := bv q hq; omega)⟩
end Go.Proofs.Ytakenibeaodnkaa
