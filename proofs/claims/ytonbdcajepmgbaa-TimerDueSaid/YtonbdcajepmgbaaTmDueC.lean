/-
  TimerDue: what is called behind the loops, one behind the other.
-/
import Derived.Test.YtonbdcajepmgbaaTmOb
import Derived.Test.YtonbdcajepmgbaaTmAwake
namespace Go.Proofs.Ytonbdcajepmgbaa
open Go.RowKit Go.Shelf
set_option maxRecDepth 100000
set_option maxHeartbeats 2000000
set_option linter.unusedSimpArgs false
set_option linter.unusedVariables false

def DEnd (w W : World) (P S : Nat) (lo hi : Int) (one want : Value) (m : Nat) : Prop :=
  Calls Try.prog 24 #[.pointer (some ⟨S, 0, none⟩), .int .i64 lo] W fun e W1 => ∃ V1, e = .returned V1 ∧
    Calls Try.prog 24 #[.pointer (some ⟨S, 0, none⟩), .int .i64 hi] W1 fun e W2 => ∃ V2 V3 W3, e = .returned V2 ∧
      (Builtin.append_ #[41, 41] 41 #[V1, V2]).run Try.prog W2 = .ok V3 W3 ∧
        Calls Try.prog 23 #[one, want] W3 fun e W4 => e = .returned (.bool true) ∧
          Calls Try.prog 23 #[V3, want] W4 fun e W5 => e = .returned (.bool true) ∧
            Calls Try.prog 24 #[.pointer (some ⟨P, 0, none⟩), .int .i64 hi] W5 fun e W6 => ∃ A c, e = .returned (.slice A 0 c) ∧
              Calls Try.prog 26 #[.pointer (some ⟨P, 0, none⟩)] W6 fun e W7 => e = .returned (.int .i64 m) ∧
                Calls Try.prog 21 #[] W7 fun e W8 => e = .returned (.bool true) ∧ Below w.heap.size w W8
theorem dend_any (w W : World) (P S bp bs b1 b2 : Nat) (lo hi : Int) (hl : lo ≤ hi) (xs : List T2) (vp vs one want : Value) (hw : Below w.heap.size w W) (hx : xs.length ≤ 64)
    (hP : Qs W bp P (xs.drop (cnt hi xs)) vp) (hS : Qs W bs S xs vs) (hone : OwnI W b1 one ((xs.take (cnt hi xs)).map Prod.fst)) (hwant : OwnI W b2 want ((xs.take (cnt hi xs)).map Prod.fst))
    (p0 : w.heap.size ≤ P) (p1 : w.heap.size ≤ bp) (p2 : bp ≤ W.heap.size) (s0 : w.heap.size ≤ S) (s1 : w.heap.size ≤ bs) (s2 : bs ≤ W.heap.size)
    (d1 : S ∉ P :: vp.ownBlock.toList ∧ ∀ i, vs.ownBlock = some i → i ∉ P :: vp.ownBlock.toList) (d2 : S ∉ one.ownBlock.toList ∧ ∀ i, vs.ownBlock = some i → i ∉ one.ownBlock.toList) (d3 : S ∉ want.ownBlock.toList ∧ ∀ i, vs.ownBlock = some i → i ∉ want.ownBlock.toList) :
    DEnd w W P S lo hi one want (xs.drop (cnt hi xs)).length := by
  have oP := hP.ob
  have o1 := hone.ob
  have o2 := hwant.ob
  have hSl := Blk.lt hS.blk
  have hsb := hS.own.block
  have hs0 := hw.size
  have hll : ((xs.take (cnt hi xs)).map Prod.fst).length ≤ 64 := by rw [List.length_map, List.length_take]; omega
  refine (due_any bs S xs vs lo W hS s2 hx).mono ?_
  rintro e W1 ⟨V1, vs', rfl, hV1, hS1, t1, e1⟩
  have z1 := t1.size
  have oP1 := oP.tm t1 d1.1 d1.2
  have o11 := o1.tm t1 d2.1 d2.2
  have o21 := o2.tm t1 d3.1 d3.2
  have B1 : Below w.heap.size w W1 := hw.trans (t1.below hs0 s0 (fun i h => Nat.le_trans s1 (hsb i h).1))
  refine ⟨V1, rfl, (due_any bs S (xs.drop (cnt lo xs)) vs' hi W1 hS1 (by omega) (by rw [List.length_drop]; omega)).mono ?_⟩
  rintro e W2 ⟨V2, vs'', rfl, hV2, hS2, t2, e2⟩
  have z2 := t2.size
  have hv1b := hV1.form.2
  have hV1' := hV1.tm t2 (fun h => by have := (hv1b _ h).1; omega) (fun i h h2 => by
    rw [e1] at h2
    have h3 := (hsb i h2).2
    have h4 := (hv1b i h).1
    omega)
  have oP2 := oP1.tm t2 d1.1 (by rw [e1]; exact d1.2)
  have o12 := o11.tm t2 d2.1 (by rw [e1]; exact d2.2)
  have o22 := o21.tm t2 d3.1 (by rw [e1]; exact d3.2)
  have B2 : Below w.heap.size w W2 := B1.trans (t2.below B1.size s0 (fun i h => by rw [e1] at h; exact Nat.le_trans s1 (hsb i h).1))
  have n1 : ((xs.take (cnt lo xs)).map Prod.fst).length ≤ 64 := by rw [List.length_map, List.length_take]; omega
  have n2 : (((xs.drop (cnt lo xs)).take (cnt hi (xs.drop (cnt lo xs)))).map Prod.fst).length ≤ 64 := by rw [List.length_map, List.length_take, List.length_drop]; omega
  obtain ⟨V3, W3, hrun, hV3, hg3, -⟩ := appI_all hV1' hV2 (by omega) (by omega)
  rw [← List.map_append, due_both hl] at hV3
  have z3 := hg3.size
  have hnew : ∀ {L : List Nat}, (∀ i ∈ L, i < W.heap.size) → ∀ i, V1.ownBlock = some i → i ∉ L := fun hL i h h2 => by
    have := hL i h2
    have := (hv1b i h).1
    omega
  have oP3 := oP2.grown hg3 (hnew oP.lt)
  have o13 := o12.grown hg3 (hnew o1.lt)
  have o23 := o22.grown hg3 (hnew o2.lt)
  have B3 : Below w.heap.size w W3 := B2.grown hg3 B2.size (fun i h => by have := (hv1b i h).1; omega)
  refine ⟨V2, V3, W3, rfl, hrun, (ids_yes one want _ b1 b2 W3 o13.get o23.get (by omega)).mono ?_⟩
  rintro e W4 ⟨rfl, b4⟩
  have z4 := b4.size
  have oP4 := oP3.below b4
  have o24 := o23.below b4
  have hV4 := hV3.ob.below b4
  have B4 := B3.trans (b4.mono B3.size)
  refine ⟨rfl, (ids_yes V3 want _ W.heap.size b2 W4 hV4.get o24.get (by omega)).mono ?_⟩
  rintro e W5 ⟨rfl, b5⟩
  have z5 := b5.size
  have oP5 := oP4.below b5
  have B5 := B4.trans (b5.mono B4.size)
  have hP5 := oP5.get
  refine ⟨rfl, (due_any bp P (xs.drop (cnt hi xs)) vp hi W5 hP5 (by omega) (by rw [List.length_drop]; omega)).mono ?_⟩
  rintro e W6 ⟨V6, vp', rfl, hV6, hP6, t6, e6⟩
  rw [due_rest, List.take_zero] at hV6
  rw [due_rest, List.drop_zero] at hP6
  obtain ⟨A, c, rfl, -⟩ := hV6.form.1
  have B6 : Below w.heap.size w W6 := B5.trans (t6.below B5.size p0 (fun i h => Nat.le_trans p1 (hP5.own.block i h).1))
  refine ⟨A, c, rfl, (tmlen_any bp P _ vp' W6 hP6).mono ?_⟩
  rintro e W7 ⟨rfl, rfl⟩
  refine ⟨rfl, (awake_any W6).mono ?_⟩
  rintro e W8 ⟨rfl, b8⟩
  exact ⟨rfl, B6.trans (b8.mono B6.size)⟩
end Go.Proofs.Ytonbdcajepmgbaa
