/-
  ccp.Judge: lists that are told, and what is kept from round to round (after lcp's).
-/
import Derived.Test.YtlpboleclehilaaDoorOpOwnR
import Derived.Test.YtlpboleclehilaaDoorCcMath
import Derived.Laws.Rows
import Derived.WalkMore
namespace Go.Proofs.YtlpboleclehilaaDoor
open Go.RowKit
set_option maxRecDepth 100000
set_option maxHeartbeats 4000000
set_option linter.unusedSimpArgs false
set_option linter.unusedVariables false

/-- two rows that are not one -/
def Apart (u v : Value) : Prop := u.ownBlock = none ∨ u.ownBlock ≠ v.ownBlock
theorem OwnL.grown {w w' : World} {base : Nat} {v : Value} {s : List Opt} {row : Option Nat} (h : OwnL w base v s) (hg : w.grownBy w' row) (hne : v.ownBlock = none ∨ v.ownBlock ≠ row) (hd : ∀ u l, Own w base u l → u.ownBlock = none ∨ u.ownBlock ≠ row) : OwnL w' base v s := by
  obtain ⟨cs, h1, h2⟩ := h
  refine ⟨cs, h1.grown hg hne, fun i hi => ?_⟩
  obtain ⟨a, E, k, c, b, ho⟩ := h2 i hi
  exact ⟨a, E, k, c, b, ho.grown hg (hd _ _ ho)⟩
theorem row_other {w : World} {base n : Nat} {v u : Value} {cs : List Value} {l : List UInt8} (h : OwnO w base v n cs) (b2 : Nat) (ho : Own w b2 u l) : u.ownBlock = none ∨ u.ownBlock ≠ v.ownBlock := own_other h ho

/-- where Judge's variables lie: the configuration, the bits that may still be asked; from base on lies what is new -/
structure CC where
  zc : Nat
  zl : Nat
  base : Nat
def CC.ok (x : CC) (B : Nat) : Prop := (B ≤ x.zc ∧ B ≤ x.zl) ∧ (x.zc < x.base ∧ x.zl < x.base) ∧ x.zc ≠ x.zl
def optC (D B : Int) : List Value := [.int .i64 D, .int .i64 B]
def CJ (w V : World) (x : CC) (cv : Array Value) (D B : Int) (a b c : Value) (R S N : List Opt) : Prop :=
  (Blk V x.zc 25 cv.toList ∧ Blk V x.zl 27 (optC D B)) ∧ (OwnR V x.base w.heap.size a R ∧ OwnR V x.base w.heap.size b S ∧ OwnL V x.base c N) ∧ (Apart a b ∧ Apart b a ∧ Apart a c ∧ Apart c a ∧ Apart b c ∧ Apart c b) ∧ Below w.heap.size w V ∧ x.base ≤ V.heap.size
section
variable {w V V' : World} {x : CC} {cv : Array Value} {D B : Int} {a b c : Value} {R S N : List Opt}
theorem ne_none {u : Value} : u.ownBlock = none ∨ u.ownBlock ≠ none := by
  rcases u.ownBlock with _ | g
  · exact .inl rfl
  · exact .inr (by simp)
/-- blocks below base but the map's, and rows, are kept -/
theorem CJ.keep (h : CJ w V x cv D B a b c R S N) (hx : x.ok w.heap.size) {row : Option Nat} (hg : V.grownBy V' row) (hrow : ∀ q, row = some q → x.base ≤ q) (h1 : a.ownBlock = none ∨ a.ownBlock ≠ row) (h2 : b.ownBlock = none ∨ b.ownBlock ≠ row) (h3 : c.ownBlock = none ∨ c.ownBlock ≠ row) (hd : ∀ u l, Own V x.base u l → u.ownBlock = none ∨ u.ownBlock ≠ row) :
    CJ w V' x cv D B a b c R S N := by
  obtain ⟨⟨k1, k2⟩, ⟨r1, r2, r3⟩, ha, hB, hb⟩ := h
  obtain ⟨⟨b1, b2⟩, ⟨d1, d2⟩, d5⟩ := hx
  have s := hB.size
  have lo : ∀ {i : Nat}, i < x.base → some i ≠ row := fun hi e => by have := hrow _ e.symm; omega
  refine ⟨⟨(hg.block _ k1.lt (lo d1)).trans k1, (hg.block _ k2.lt (lo d2)).trans k2⟩,
    ⟨r1.grown hg h1 s (fun q e => by have := hrow q e; omega), r2.grown hg h2 s (fun q e => by have := hrow q e; omega), r3.grown hg h3 hd⟩, ha, hB.grown hg s (fun q e => by have := hrow q e; omega), Nat.le_trans hb hg.size⟩
theorem CJ.later (h : CJ w V x cv D B a b c R S N) (hx : x.ok w.heap.size) (hB : Below V.heap.size V V') : CJ w V' x cv D B a b c R S N :=
  h.keep hx (only_of_below hB none) (fun q e => by cases e) ne_none ne_none ne_none (fun u l _ => ne_none)
theorem CJ.met (h : CJ w V x cv D B a b c R S N) (hx : x.ok w.heap.size) {D' B' : Int} (hg : V.grownBy V' (some x.zl)) (hr : Blk V' x.zl 27 (optC D' B')) : CJ w V' x cv D' B' a b c R S N := by
  obtain ⟨⟨k1, k2⟩, ⟨r1, r2, r3⟩, ha, hB, hb⟩ := h
  obtain ⟨⟨b1, b2⟩, ⟨d1, d2⟩, d5⟩ := hx
  have s := hB.size
  have hi : ∀ {u : Value}, (∀ k, u.ownBlock = some k → x.base ≤ k ∧ k < V.heap.size) → u.ownBlock = none ∨ u.ownBlock ≠ some x.zl := fun {u} hu => by
    rcases e : u.ownBlock with _ | q
    · exact .inl rfl
    · have := hu q e
      exact .inr (fun e => by injection e; omega)
  refine ⟨⟨(hg.block _ k1.lt (fun e => d5 (by injection e))).trans k1, hr⟩,
    ⟨r1.grown hg (hi r1.block) s (fun q e => by injection e; omega), r2.grown hg (hi r2.block) s (fun q e => by injection e; omega), r3.grown hg (hi r3.block) (fun u l hu => hi hu.block)⟩, ha, hB.grown hg s (fun q e => by injection e; omega), Nat.le_trans hb hg.size⟩
theorem apart_new {u u' v : Value} {z : Nat} (h : Apart u v) (h2 : Apart v u) (hv : ∀ k, v.ownBlock = some k → k < z) (hu : u'.ownBlock = u.ownBlock ∨ u'.ownBlock = some z) : Apart u' v ∧ Apart v u' := by
  unfold Apart at *
  rcases hu with e | e
  · rw [e]; exact ⟨h, h2⟩
  · rw [e]
    rcases hv2 : v.ownBlock with _ | k
    · exact ⟨.inr (by simp), .inl rfl⟩
    · have := hv k hv2
      exact ⟨.inr (fun e => by injection e; omega), .inr (fun e => by injection e; omega)⟩
theorem CJ.low (h : CJ w V x cv D B a b c R S N) (hx : x.ok w.heap.size) {row : Option Nat} (hg : V.grownBy V' row) (hrow : ∀ q, row = some q → x.base ≤ q) :
    (Blk V' x.zc 25 cv.toList ∧ Blk V' x.zl 27 (optC D B)) ∧ Below w.heap.size w V' ∧ x.base ≤ V'.heap.size := by
  obtain ⟨⟨k1, k2⟩, _, _, hB, hb⟩ := h
  obtain ⟨⟨b1, b2⟩, ⟨d1, d2⟩, d5⟩ := hx
  have lo : ∀ {i : Nat}, i < x.base → some i ≠ row := fun hi e => by have := hrow _ e.symm; omega
  exact ⟨⟨(hg.block _ k1.lt (lo d1)).trans k1, (hg.block _ k2.lt (lo d2)).trans k2⟩, hB.grown hg hB.size (fun q e => by have := hrow q e; omega), Nat.le_trans hb hg.size⟩
/-- what an append onto one of the rows leaves of bytes of the call's own, and of low blocks -/
def Calm (V w' : World) (x : CC) : Prop := (∀ u l, Own V x.base u l → Own w' x.base u l) ∧ (∀ i t cs, Blk V i t cs → t ≠ 61 → Blk w' i t cs) ∧ V.heap.size ≤ w'.heap.size
theorem row_type {w : World} {base n : Nat} {v : Value} {cs : List Value} (h : OwnO w base v n cs) {i t : Nat} {ds : List Value} (hb : Blk w i t ds) (ht : t ≠ 61) : some i ≠ v.ownBlock := by
  rcases h.2 with ⟨rfl, _⟩ | ⟨g, cap, cur, rfl, _, hg, _⟩
  · simp [Value.ownBlock]
  · intro e
    simp only [Value.ownBlock, Option.some.injEq] at e
    subst e
    unfold Blk at hb
    rw [hb] at hg
    injection hg with hg
    injection hg with e1 e2 e3
    exact ht e2
/-- an option more that is refused -/
theorem CJ.refuse (h : CJ w V x cv D B a b c R S N) (hx : x.ok w.heap.size) (K : Int) (E : Option Addr) (k d : Nat) (l : List UInt8) (hr : Rd V w.heap.size E k l) (hE : E = none → d = 0) (hkc : k ≤ d) (hk : k ≤ 140737488351232) (hn : R.length < 4398046511104) :
    ∃ a' w', (Builtin.append_ #[28, 28] 28 #[a, .slice (some ⟨V.heap.size, 0, none⟩) 1 1]).run Tryd.prog (V.alloc (.cells #[.int .i64 K, .slice E k d] 61)) = .ok a' w' ∧ CJ w w' x cv D B a' b c (R ++ [(K, l)]) S N := by
  have B1 : Below V.heap.size V (V.alloc (.cells #[.int .i64 K, .slice E k d] 61)) := (Below.refl _ _).alloc (Nat.le_refl _) _
  have k1 := blk_new V 61 [.int .i64 K, .slice E k d]
  have hs := h.2.2.2.2
  have hBw := h.2.2.2.1
  have h1 := h.later hx B1
  have hxb := hx
  obtain ⟨⟨b1, b2⟩, ⟨d1, d2⟩, d5⟩ := hxb
  generalize hW : V.alloc (.cells #[.int .i64 K, .slice E k d] 61) = V1 at *
  have hs1 := h1.2.2.2.1.size
  obtain ⟨a', w', hrun, r1, hg, hl⟩ := appR_run h1.2.1.1 V.heap.size K E k d l (k1.cell 0) (k1.cell 1) (hr.below (B1.mono hBw.size)) hE hkc hk hn h1.2.2.2.2 (by omega)
  obtain ⟨ab, ba, ac, ca, bc, cb⟩ := h1.2.2.1
  obtain ⟨cs, q1, _⟩ := h1.2.1.1
  have hrow : ∀ q, a.ownBlock = some q → x.base ≤ q := fun q e => (q1.block q e).1
  obtain ⟨p1, p2, p3⟩ := h1.low hx hg hrow
  obtain ⟨n1, n2⟩ := apart_new ab ba (fun k e => (h1.2.1.2.1.block k e).2) hl
  obtain ⟨n3, n4⟩ := apart_new ac ca (fun k e => (h1.2.1.2.2.block k e).2) hl
  exact ⟨a', w', hrun, p1, ⟨r1, h1.2.1.2.1.grown hg ba hs1 (fun q e => by have := hrow q e; omega), h1.2.1.2.2.grown hg ca (fun u l hu => own_other q1 hu)⟩, ⟨n1, n2, n3, n4, bc, cb⟩, p2, p3⟩
/-- an option more that would be borne with other data -/
theorem CJ.stand (h : CJ w V x cv D B a b c R S N) (hx : x.ok w.heap.size) (K : Int) (E : Option Addr) (k d : Nat) (l : List UInt8) (hr : Rd V w.heap.size E k l) (hE : E = none → d = 0) (hkc : k ≤ d) (hk : k ≤ 140737488351232) (hn : S.length < 4398046511104) :
    ∃ b' w', (Builtin.append_ #[28, 28] 28 #[b, .slice (some ⟨V.heap.size, 0, none⟩) 1 1]).run Tryd.prog (V.alloc (.cells #[.int .i64 K, .slice E k d] 61)) = .ok b' w' ∧ CJ w w' x cv D B a b' c R (S ++ [(K, l)]) N ∧
      (∀ i cs, Blk V i 25 cs → Blk w' i 25 cs) ∧ (∀ zb cs, Blk V zb 61 cs → b.ownBlock ≠ some zb → Blk w' zb 61 cs) ∧ (∀ u l', Own V x.base u l' → Own w' x.base u l') := by
  have B1 : Below V.heap.size V (V.alloc (.cells #[.int .i64 K, .slice E k d] 61)) := (Below.refl _ _).alloc (Nat.le_refl _) _
  have k1 := blk_new V 61 [.int .i64 K, .slice E k d]
  have hs := h.2.2.2.2
  have hBw := h.2.2.2.1
  have h1 := h.later hx B1
  have hxb := hx
  obtain ⟨⟨b1, b2⟩, ⟨d1, d2⟩, d5⟩ := hxb
  generalize hW : V.alloc (.cells #[.int .i64 K, .slice E k d] 61) = V1 at *
  have hs1 := h1.2.2.2.1.size
  obtain ⟨b', w', hrun, r1, hg, hl⟩ := appR_run h1.2.1.2.1 V.heap.size K E k d l (k1.cell 0) (k1.cell 1) (hr.below (B1.mono hBw.size)) hE hkc hk hn h1.2.2.2.2 (by omega)
  obtain ⟨ab, ba, ac, ca, bc, cb⟩ := h1.2.2.1
  obtain ⟨cs, q1, _⟩ := h1.2.1.2.1
  have hrow : ∀ q, b.ownBlock = some q → x.base ≤ q := fun q e => (q1.block q e).1
  obtain ⟨p1, p2, p3⟩ := h1.low hx hg hrow
  obtain ⟨n1, n2⟩ := apart_new ba ab (fun k e => (h1.2.1.1.block k e).2) hl
  obtain ⟨n3, n4⟩ := apart_new bc cb (fun k e => (h1.2.1.2.2.block k e).2) hl
  refine ⟨b', w', hrun, ⟨p1, ⟨h1.2.1.1.grown hg ab hs1 (fun q e => by have := hrow q e; omega), r1, h1.2.1.2.2.grown hg cb (fun u l hu => own_other q1 hu)⟩, ⟨n2, n1, ac, ca, n3, n4⟩, p2, p3⟩, fun i ds hb => ?_, fun zb ds hb hne => ?_, fun u l' hu => ?_⟩
  · have hb1 : Blk V1 i 25 ds := (B1.block i hb.lt).trans hb
    exact (hg.block i hb1.lt (row_type q1 hb1 (by decide))).trans hb1
  · have hb1 : Blk V1 zb 61 ds := (B1.block zb hb.lt).trans hb
    exact (hg.block zb hb1.lt (fun e => hne e.symm)).trans hb1
  · have hu1 := hu.later B1
    exact hu1.grown hg (own_other q1 hu1)
/-- .. and those other data -/
theorem CJ.nak (h : CJ w V x cv D B a b c R S N) (hx : x.ok w.heap.size) (K : Int) (E : Option Addr) (k d : Nat) (l : List UInt8) (ho : Own V x.base (.slice E k d) l) (hn : N.length < 4398046511104) :
    ∃ c' w', (Builtin.append_ #[28, 28] 28 #[c, .slice (some ⟨V.heap.size, 0, none⟩) 1 1]).run Tryd.prog (V.alloc (.cells #[.int .i64 K, .slice E k d] 61)) = .ok c' w' ∧ CJ w w' x cv D B a b c' R S (N ++ [(K, l)]) := by
  have B1 : Below V.heap.size V (V.alloc (.cells #[.int .i64 K, .slice E k d] 61)) := (Below.refl _ _).alloc (Nat.le_refl _) _
  have k1 := blk_new V 61 [.int .i64 K, .slice E k d]
  have h1 := h.later hx B1
  have hxb := hx
  obtain ⟨⟨b1, b2⟩, ⟨d1, d2⟩, d5⟩ := hxb
  have ho1 := ho.later B1
  generalize hW : V.alloc (.cells #[.int .i64 K, .slice E k d] 61) = V1 at *
  have hs1 := h1.2.2.2.1.size
  obtain ⟨c', w', hrun, r1, hg, hl⟩ := appL_run h1.2.1.2.2 V.heap.size K E k d l (k1.cell 0) (k1.cell 1) ho1 hn h1.2.2.2.2
  obtain ⟨ab, ba, ac, ca, bc, cb⟩ := h1.2.2.1
  have hrow : ∀ q, c.ownBlock = some q → x.base ≤ q := fun q e => (h1.2.1.2.2.block q e).1
  obtain ⟨p1, p2, p3⟩ := h1.low hx hg hrow
  obtain ⟨n1, n2⟩ := apart_new ca ac (fun k e => (h1.2.1.1.block k e).2) hl
  obtain ⟨n3, n4⟩ := apart_new cb bc (fun k e => (h1.2.1.2.1.block k e).2) hl
  exact ⟨c', w', hrun, p1, ⟨h1.2.1.1.grown hg ac hs1 (fun q e => by have := hrow q e; omega), h1.2.1.2.1.grown hg bc hs1 (fun q e => by have := hrow q e; omega), r1⟩, ⟨ab, ba, n2, n1, n4, n3⟩, p2, p3⟩
end
end Go.Proofs.YtlpboleclehilaaDoor
