/-
  TimerDue: three queues filled alike, apart.
-/
import Derived.Test.YtonbdcajepmgbaaTmDueC
namespace Go.Proofs.Ytonbdcajepmgbaa
open Go.RowKit Go.Shelf
set_option maxRecDepth 100000
set_option maxHeartbeats 2000000
set_option linter.unusedSimpArgs false
set_option linter.unusedVariables false

/-- a queue that lies between two sizes -/
structure Q1 (W : World) (a b g : Nat) (xs : List T2) (v : Value) : Prop where
  q : Qs W a g xs v
  lo : a ≤ g
  hi : g < b
  own : ∀ i, v.ownBlock = some i → a ≤ i ∧ i < b
  le : b ≤ W.heap.size
theorem Q1.later {W W' : World} {a b g d : Nat} {xs : List T2} {v : Value} (h : Q1 W a b g xs v) (hB : Below d W W') (hd : b ≤ d) : Q1 W' a b g xs v := by
  refine ⟨h.q.ob.next hB.size (fun i hi => hB.block i ?_) |>.get, h.lo, h.hi, h.own, Nat.le_trans h.le hB.size⟩
  rcases List.mem_cons.1 hi with rfl | hi
  · have := h.hi; omega
  · have := (h.own i (mem_own.1 hi)).2; omega
/-- what the three filled leave -/
structure D0 (w W : World) (b c d : Nat) (P Q S : Nat) (vp vq vs : Value) (xs : List T2) (A : Option Addr) (m k : Nat) : Prop where
  p : Q1 W w.heap.size b P xs vp
  q : Q1 W b c Q xs vq
  s : Q1 W c d S xs vs
  all : OwnR W w.heap.size (.slice A m k) xs
  len : xs.length = m
  bel : Below w.heap.size w W
  ab : w.heap.size ≤ b
  bc : b ≤ c
  cd : c ≤ d
  size : W.heap.size = d
theorem fill3 (A : Option Addr) (n c : Nat) (f : Nat → Int × Int × Int × Int) (w : World) (h : Ops4 w w.heap.size A n f) (hn : n ≤ 8796093021952) :
    Calls Try.prog 22 #[.slice A n c] w fun e w1 => ∃ P A1 m k1, e = .returned (.tuple #[.pointer (some ⟨P, 0, none⟩), .slice A1 m k1]) ∧
      Calls Try.prog 22 #[.slice A n c] w1 fun e w2 => ∃ Q A2 m2 k2, e = .returned (.tuple #[.pointer (some ⟨Q, 0, none⟩), .slice A2 m2 k2]) ∧
        Calls Try.prog 22 #[.slice A n c] w2 fun e w3 => ∃ S A3 m3 k3, e = .returned (.tuple #[.pointer (some ⟨S, 0, none⟩), .slice A3 m3 k3]) ∧
          ∃ vp vq vs, D0 w w3 w1.heap.size w2.heap.size w3.heap.size P Q S vp vq vs (fq f (min n 300)) A1 m k1 := by
  refine (filled_any A n c f w h hn).mono ?_
  rintro e w1 ⟨P, vp, A1, m, k1, rfl, hp, hall, p0, b1⟩
  have z1 := b1.size
  have x1 : Q1 w1 w.heap.size w1.heap.size P (fq f (min n 300)) vp := ⟨hp, p0, Blk.lt hp.blk, fun i hi => hp.own.block i hi, Nat.le_refl _⟩
  refine ⟨P, A1, m, k1, rfl, (filled_any A n c f w1 (fun h0 => by
    obtain ⟨b, off, e, hl, hc⟩ := h.below b1 (Nat.le_refl _) h0
    exact ⟨b, off, e, by omega, hc⟩) hn).mono ?_⟩
  rintro e w2 ⟨Q, vq, A2, m2, k2, rfl, hq, -, q0, b2⟩
  have z2 := b2.size
  have B2 := b1.trans (b2.mono z1)
  have x2 : Q1 w2 w1.heap.size w2.heap.size Q (fq f (min n 300)) vq := ⟨hq, q0, Blk.lt hq.blk, fun i hi => hq.own.block i hi, Nat.le_refl _⟩
  refine ⟨Q, A2, m2, k2, rfl, (filled_any A n c f w2 (fun h0 => by
    obtain ⟨b, off, e, hl, hc⟩ := h.below B2 (Nat.le_refl _) h0
    exact ⟨b, off, e, by omega, hc⟩) hn).mono ?_⟩
  rintro e w3 ⟨S, vs, A3, m3, k3, rfl, hs, -, s0, b3⟩
  have z3 := b3.size
  have B3 := B2.trans (b3.mono (by omega))
  have x3 : Q1 w3 w2.heap.size w3.heap.size S (fq f (min n 300)) vs := ⟨hs, s0, Blk.lt hs.blk, fun i hi => hs.own.block i hi, Nat.le_refl _⟩
  obtain ⟨A', k', e, -⟩ := hall.slice
  injection e with e1 e2 e3
  exact ⟨S, A3, m3, k3, rfl, vp, vq, vs, (x1.later b2 (Nat.le_refl _)).later b3 z2, x2.later b3 (Nat.le_refl _), x3, (hall.later b2).later b3, e2.symm, B3, z1, z2, z3, rfl⟩
/-- behind the first loop: what is due of the first queue -/
theorem due1 {w W3 W : World} {b c d P Q S : Nat} {vp vq vs want : Value} {xs : List T2} {A : Option Addr} {m k : Nat} (h : D0 w W3 b c d P Q S vp vq vs xs A m k) (hB : Below d W3 W) (hi : Int) (hx : xs.length ≤ 64)
    (hw : OwnI W d want ((xs.take (cnt hi xs)).map Prod.fst)) :
    Calls Try.prog 24 #[.pointer (some ⟨P, 0, none⟩), .int .i64 hi] W fun e W5 => ∃ V, e = .returned V ∧
      Calls Try.prog 23 #[V, want] W5 fun e W6 => e = .returned (.bool true) ∧ ∃ vp', Q1 W6 w.heap.size b P (xs.drop (cnt hi xs)) vp' ∧ Q1 W6 b c Q xs vq ∧ Q1 W6 c d S xs vs ∧ OwnI W6 d want ((xs.take (cnt hi xs)).map Prod.fst) ∧ (∀ i, want.ownBlock = some i → i < W6.heap.size) ∧ Below w.heap.size w W6 ∧ d ≤ W6.heap.size := by
  have ab := h.ab
  have bc := h.bc
  have cd := h.cd
  have sz := h.size
  have zB := hB.size
  have xp := h.p.later hB (by omega)
  have xq := h.q.later hB (by omega)
  have xs' := h.s.later hB (Nat.le_refl _)
  have hBw : Below w.heap.size w W := h.bel.trans (hB.mono (by omega))
  refine (due_any w.heap.size P xs vp hi W xp.q (by omega) hx).mono ?_
  rintro e W5 ⟨V, vp', rfl, hV, hp5, t5, e5⟩
  have z5 := t5.size
  have xq5 : Q1 W5 b c Q xs vq := ⟨xq.q.tm t5 (by have := xq.lo; have := xp.hi; omega) (fun e => by have := (xp.own _ e).2; have := xq.lo; omega) (fun e => by have := (xq.own _ e).1; have := xp.hi; omega) (fun i e e2 => by have := (xq.own i e).1; have := (xp.own i e2).2; omega), xq.lo, xq.hi, xq.own, by omega⟩
  have xs5 : Q1 W5 c d S xs vs := ⟨xs'.q.tm t5 (by have := xs'.lo; have := xp.hi; omega) (fun e => by have := (xp.own _ e).2; have := xs'.lo; omega) (fun e => by have := (xs'.own _ e).1; have := xp.hi; omega) (fun i e e2 => by have := (xs'.own i e).1; have := (xp.own i e2).2; omega), xs'.lo, xs'.hi, xs'.own, by omega⟩
  have xp5 : Q1 W5 w.heap.size b P (xs.drop (cnt hi xs)) vp' := ⟨hp5, xp.lo, xp.hi, by rw [e5]; exact xp.own, by omega⟩
  have hwb := hw.form.2
  have hw5 := hw.tm t5 (fun e => by have := (hwb _ e).1; have := xp.hi; omega) (fun i e e2 => by have := (hwb i e).1; have := (xp.own i e2).2; omega)
  have B5 : Below w.heap.size w W5 := hBw.trans (t5.below hBw.size xp.lo (fun i e => (xp.own i e).1))
  refine ⟨V, rfl, (ids_yes V want _ W.heap.size d W5 hV hw5 (by rw [List.length_map, List.length_take]; omega)).mono ?_⟩
  rintro e W6 ⟨rfl, b6⟩
  have z6 := b6.size
  have hw6 := hw5.ob.below b6
  exact ⟨rfl, vp', xp5.later b6 (by omega), xq5.later b6 (by omega), xs5.later b6 (by omega), hw6.get, fun i hi => hw6.lt i (mem_own.2 hi), B5.trans (b6.mono B5.size), by omega⟩
end Go.Proofs.Ytonbdcajepmgbaa
