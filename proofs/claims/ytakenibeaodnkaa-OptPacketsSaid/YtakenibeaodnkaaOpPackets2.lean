/-
  OptPackets: the second half: Unpack, beside the reference's.
-/
import Derived.Test.YtakenibeaodnkaaOpPackets
import Derived.Test.YtakenibeaodnkaaOpBoth
namespace Go.Proofs.Ytakenibeaodnkaa
open Go.RowKit
set_option maxRecDepth 100000
set_option maxHeartbeats 4000000
set_option linter.unusedSimpArgs false
set_option linter.unusedVariables false

def UpH (w w8 : World) (A1 : Option Addr) (n1 c1 : Nat) : Prop :=
  Calls Try.prog 6 #[.slice A1 n1 c1] w8 fun e w9 => ∃ g cap, e = .returned (.slice (some ⟨g, 0, none⟩) n1 cap) ∧
    Calls Try.prog 12 #[.slice (some ⟨g, 0, none⟩) n1 cap] w9 fun e wa => ∃ P0 P1 D m cc E, e = .returned (.tuple #[.agg #[.int .i64 P0, .int .i64 P1, .slice D m cc], .int .i64 E]) ∧
      Calls Try.prog 13 #[.slice A1 n1 c1] (wa.alloc (.cells #[.int .i64 P0, .int .i64 P1, .slice D m cc] 24)) fun e wb => ∃ F mm, e = .returned (.tuple #[.agg #[.int .i64 P0, .int .i64 P1, .slice F m mm], .int .i64 E]) ∧ wa.heap.size < wb.heap.size ∧ PkC wb wa.heap.size P0 P1 (.slice D m cc) ∧
        Calls Try.prog 14 #[.agg #[.int .i64 P0, .int .i64 P1, .slice D m cc], .agg #[.int .i64 P0, .int .i64 P1, .slice F m mm]] (wb.alloc (.cells #[.int .i64 P0, .int .i64 P1, .slice F m mm] 24)) fun e wc => e = .returned (.bool true) ∧ PkC wc wa.heap.size P0 P1 (.slice D m cc) ∧
          Calls Try.prog 11 #[.slice D m cc] wc fun e wd => e = .returned (.tuple #[]) ∧
            Calls Try.prog 10 #[.slice (some ⟨g, 0, none⟩) n1 cap, .slice A1 n1 c1] wd fun e we => e = .returned (.bool true) ∧
              Calls Try.prog 15 #[] we fun e wf => e = .returned (.bool true) ∧ Below w.heap.size w wf
/-- what both give: the same two numbers and the same bytes -/
theorem up_forms {w w' : World} {C I : Int} {l : List UInt8} {E : Int} {e : Ending} (h : UpPost w C I l E e w') :
    ∃ P0 P1 D cc, (P0 = if E = 0 then C else 0) ∧ (P1 = if E = 0 then I else 0) ∧ e = .returned (.tuple #[.agg #[.int .i64 P0, .int .i64 P1, .slice D (if E = 0 then (l.drop 4).take (upN l - 4).toNat else []).length cc], .int .i64 E]) ∧ Below w.heap.size w w' ∧ Own w' w.heap.size (.slice D (if E = 0 then (l.drop 4).take (upN l - 4).toNat else []).length cc) (if E = 0 then (l.drop 4).take (upN l - 4).toNat else []) := by
  obtain ⟨P, rfl, hB, h1, h2⟩ := h
  by_cases hE : E = 0
  · obtain ⟨D, m, cc, rfl, ho⟩ := h2 hE
    rw [if_pos hE, if_pos hE, if_pos hE]
    obtain ⟨A, c, hv, _⟩ := own_rdv ho
    injection hv with e1 e2 e3
    subst e2
    exact ⟨C, I, D, cc, rfl, rfl, rfl, hB, ho⟩
  · rw [h1 hE, if_neg hE, if_neg hE, if_neg hE]
    exact ⟨0, 0, none, 0, rfl, rfl, rfl, hB, Own.nil _ _⟩
theorem up_half (A1 : Option Addr) (n1 c1 : Nat) (l : List UInt8) (w w8 : World) (hr : Rd w w.heap.size A1 n1 l) (hnil : A1 = none → c1 = 0) (hn : n1 ≤ c1) (hc : c1 ≤ 140737488351232) (hB8 : Below w.heap.size w w8) : UpH w w8 A1 n1 c1 := by
  have hl := hr.1
  have s8 := hB8.size
  unfold UpH
  refine (lent_any A1 n1 c1 l w8 ((hr.below hB8).wide s8) hnil (by omega)).mono ?_
  rintro e w9 ⟨g, cap, rfl, ho, hB9⟩
  have s9 := hB9.size
  have hl5 : n1 + 1 = (l ++ [77]).length := by simp [hl]
  have r5 := ho.rd hl5 n1 (by omega)
  rw [List.take_left' hl] at r5
  refine ⟨g, cap, rfl, (unpack_any _ n1 cap _ l w9 r5 (Nat.le_refl _) (by omega)).mono ?_⟩
  rintro e wa hU
  obtain ⟨P0, P1, D, cc, hP0, hP1, rfl, hBa, hoa⟩ := up_forms hU
  have sa := hBa.size
  have p1 := PkC.new wa P0 P1 (.slice D (if upE l = 0 then (l.drop 4).take (upN l - 4).toNat else []).length cc)
  have B1 : Below wa.heap.size wa (wa.alloc (.cells #[.int .i64 P0, .int .i64 P1, .slice D (if upE l = 0 then (l.drop 4).take (upN l - 4).toNat else []).length cc] 24)) := (Below.refl _ _).alloc (Nat.le_refl _) _
  have sx : (wa.alloc (.cells #[.int .i64 P0, .int .i64 P1, .slice D (if upE l = 0 then (l.drop 4).take (upN l - 4).toNat else []).length cc] 24)).heap.size = wa.heap.size + 1 := by simp
  refine ⟨P0, P1, D, _, cc, _, rfl, ?_⟩
  generalize wa.alloc (.cells #[.int .i64 P0, .int .i64 P1, .slice D (if upE l = 0 then (l.drop 4).take (upN l - 4).toNat else []).length cc] 24) = W1 at p1 B1 sx ⊢
  have B01 : Below w.heap.size w W1 := (hB8.trans (hB9.mono s8)).trans ((hBa.mono (by omega)).trans (B1.mono (by omega)))
  refine (runpack_any A1 n1 c1 w.heap.size l W1 (hr.below B01) B01.size (by omega) hn).mono ?_
  rintro e wb hV
  obtain ⟨Q0, Q1, F, mm, hQ0, hQ1, rfl, hBb, hob⟩ := up_forms hV
  rw [← hP0] at hQ0
  rw [← hP1] at hQ1
  subst hQ0 hQ1
  have sb := hBb.size
  have p2 := p1.later (by omega) hBb
  refine ⟨F, mm, rfl, by omega, p2, ?_⟩
  have hlen : (if upE l = 0 then (l.drop 4).take (upN l - 4).toNat else []).length ≤ l.length := by
    split
    · rw [List.length_take, List.length_drop]; omega
    · simp
  generalize (if upE l = 0 then (l.drop 4).take (upN l - 4).toNat else []) = L at hoa hob p1 p2 hlen ⊢
  have B2 : Below wb.heap.size wb (wb.alloc (.cells #[.int .i64 Q0, .int .i64 Q1, .slice F L.length mm] 24)) := (Below.refl _ _).alloc (Nat.le_refl _) _
  generalize wb.alloc (.cells #[.int .i64 Q0, .int .i64 Q1, .slice F L.length mm] 24) = W2 at B2 ⊢
  have s2 := B2.size
  have Bab : Below wa.heap.size wa wb := B1.trans (hBb.mono (by omega))
  have oa2 : Own W2 w9.heap.size (.slice D L.length cc) L := (hoa.later Bab).later B2
  have ob2 : Own W2 W1.heap.size (.slice F L.length mm) L := hob.later B2
  have o92 : Own W2 w8.heap.size (.slice (some ⟨g, 0, none⟩) (n1 + 1) cap) (l ++ [77]) := ((ho.later hBa).later Bab).later B2
  obtain ⟨A', c', e1, ra, ba⟩ := own_rdv oa2
  injection e1 with e1 e2 e3
  subst e1 e3
  obtain ⟨A', c', e1, rb, bb⟩ := own_rdv ob2
  injection e1 with e1 e2 e3
  subst e1 e3
  have p3 := p2.later (by omega) B2
  refine (samePacket_yes D F L.length cc mm W2.heap.size L Q0 Q1 W2 ra rb (Nat.le_refl _) (by omega)).mono ?_
  rintro e wc ⟨rfl, hBc⟩
  have sc := hBc.size
  have oc := oa2.later hBc
  refine ⟨rfl, p3.later (by omega) hBc, (spoil_own _ w9.heap.size L wc oc (by omega) (by omega)).mono ?_⟩
  rintro e wd ⟨rfl, hG⟩
  have sd := hG.size
  have B0c : Below w.heap.size w wc := (B01.trans (hBb.mono (by have := B01.size; omega))).trans ((B2.mono (by omega)).trans (hBc.mono (by omega)))
  have B0d : Below w.heap.size w wd := B0c.grown hG B0c.size (fun q hq => by have := ba q hq; omega)
  have od : Own wd w8.heap.size (.slice (some ⟨g, 0, none⟩) (n1 + 1) cap) (l ++ [77]) := (o92.later hBc).grown hG (by
    have hg9 := (ho.block g rfl).2
    rcases e : (Value.slice D L.length cc).ownBlock with _ | q
    · exact .inr (by simp [Value.ownBlock])
    · have := ba q e
      exact .inr (fun e => by simp [Value.ownBlock] at e; omega))
  refine ⟨rfl, (kept_any A1 g n1 c1 cap w8.heap.size w.heap.size l wd od (hr.below B0d) (by omega)).mono ?_⟩
  rintro e we ⟨rfl, k, rfl⟩
  refine ⟨rfl, (known_yes _).mono ?_⟩
  rintro e wf ⟨rfl, hBf⟩
  exact ⟨rfl, (below_drewN B0d k).trans (hBf.mono (by show _ ≤ wd.heap.size; omega))⟩
end Go.Proofs.Ytakenibeaodnkaa
