/-
  tetherref22.Judge: lists that are told, and a round's calls.
  tetherref22.Judge: the walk.
-/
import Derived.Test.YtlpboleclehilaaDoorCcRows
import Derived.Test.YtlpboleclehilaaDoorCcRef
import Derived.Test.YtlpboleclehilaaDoorCcJudge
namespace Go.Proofs.YtlpboleclehilaaDoor
open Go.RowKit
set_option maxRecDepth 100000
set_option maxHeartbeats 4000000
set_option linter.unusedSimpArgs false
set_option linter.unusedVariables false

theorem OwnR.base_le {w : World} {b b' B : Nat} {v : Value} {s : List Opt} (h : OwnR w b B v s) (hb : b' ≤ b) : OwnR w b' B v s := by
  obtain ⟨cs, h1, h2⟩ := h
  refine ⟨cs, ⟨h1.1, ?_⟩, h2⟩
  rcases h1.2 with h | ⟨g, cap, cur, e, hg, r⟩
  · exact .inl h
  · exact .inr ⟨g, cap, cur, e, by omega, r⟩
/-- where the configuration lies; from base on lies what is new; the options' bytes lie below bb -/
structure CR where
  zc : Nat
  base : Nat
  bb : Nat
def CR.ok (x : CR) (B : Nat) : Prop := B ≤ x.zc ∧ x.zc < x.base ∧ x.bb ≤ B
def RJ (w V : World) (x : CR) (cv : Array Value) (a b c : Value) (R S N : List Opt) : Prop :=
  Blk V x.zc 25 cv.toList ∧ (OwnR V x.base x.bb a R ∧ OwnR V x.base x.bb b S ∧ OwnL V x.base c N) ∧ (Apart a b ∧ Apart b a ∧ Apart a c ∧ Apart c a ∧ Apart b c ∧ Apart c b) ∧ Below w.heap.size w V ∧ x.base ≤ V.heap.size
section
variable {w V V' : World} {x : CR} {cv : Array Value} {a b c : Value} {R S N : List Opt}
theorem RJ.keep (h : RJ w V x cv a b c R S N) (hx : x.ok w.heap.size) {row : Option Nat} (hg : V.grownBy V' row) (hrow : ∀ q, row = some q → x.base ≤ q) (h1 : a.ownBlock = none ∨ a.ownBlock ≠ row) (h2 : b.ownBlock = none ∨ b.ownBlock ≠ row) (h3 : c.ownBlock = none ∨ c.ownBlock ≠ row) (hd : ∀ u l, Own V x.base u l → u.ownBlock = none ∨ u.ownBlock ≠ row) :
    RJ w V' x cv a b c R S N := by
  obtain ⟨k1, ⟨r1, r2, r3⟩, ha, hB, hb⟩ := h
  obtain ⟨b1, d1, d2⟩ := hx
  have s := hB.size
  have lo : ∀ {i : Nat}, i < x.base → some i ≠ row := fun hi e => by have := hrow _ e.symm; omega
  refine ⟨(hg.block _ k1.lt (lo d1)).trans k1,
    ⟨r1.grown hg h1 (by omega) (fun q e => by have := hrow q e; omega), r2.grown hg h2 (by omega) (fun q e => by have := hrow q e; omega), r3.grown hg h3 hd⟩, ha, hB.grown hg s (fun q e => by have := hrow q e; omega), Nat.le_trans hb hg.size⟩
theorem RJ.later (h : RJ w V x cv a b c R S N) (hx : x.ok w.heap.size) (hB : Below V.heap.size V V') : RJ w V' x cv a b c R S N :=
  h.keep hx (only_of_below hB none) (fun q e => by cases e) ne_none ne_none ne_none (fun u l _ => ne_none)
theorem RJ.low (h : RJ w V x cv a b c R S N) (hx : x.ok w.heap.size) {row : Option Nat} (hg : V.grownBy V' row) (hrow : ∀ q, row = some q → x.base ≤ q) :
    Blk V' x.zc 25 cv.toList ∧ Below w.heap.size w V' ∧ x.base ≤ V'.heap.size := by
  obtain ⟨k1, _, _, hB, hb⟩ := h
  obtain ⟨b1, d1, d2⟩ := hx
  have lo : ∀ {i : Nat}, i < x.base → some i ≠ row := fun hi e => by have := hrow _ e.symm; omega
  exact ⟨(hg.block _ k1.lt (lo d1)).trans k1, hB.grown hg hB.size (fun q e => by have := hrow q e; omega), Nat.le_trans hb hg.size⟩
/-- an option more that is refused -/
theorem RJ.refuse (h : RJ w V x cv a b c R S N) (hx : x.ok w.heap.size) (K : Int) (E : Option Addr) (k d : Nat) (l : List UInt8) (hr : Rd V x.bb E k l) (hE : E = none → d = 0) (hkc : k ≤ d) (hk : k ≤ 140737488351232) (hn : R.length < 4398046511104) :
    ∃ a' w', (Builtin.append_ #[28, 28] 28 #[a, .slice (some ⟨V.heap.size, 0, none⟩) 1 1]).run Tryd.prog (V.alloc (.cells #[.int .i64 K, .slice E k d] 61)) = .ok a' w' ∧ RJ w w' x cv a' b c (R ++ [(K, l)]) S N := by
  have B1 : Below V.heap.size V (V.alloc (.cells #[.int .i64 K, .slice E k d] 61)) := (Below.refl _ _).alloc (Nat.le_refl _) _
  have k1 := blk_new V 61 [.int .i64 K, .slice E k d]
  have hs := h.2.2.2.2
  have hBw := h.2.2.2.1.size
  have h1 := h.later hx B1
  have hxb := hx
  obtain ⟨b1, d1, d2⟩ := hxb
  generalize hW : V.alloc (.cells #[.int .i64 K, .slice E k d] 61) = V1 at *
  have hs1 := h1.2.2.2.1.size
  obtain ⟨a', w', hrun, r1, hg, hl⟩ := appR_run h1.2.1.1 V.heap.size K E k d l (k1.cell 0) (k1.cell 1) (hr.below (B1.mono (by omega))) hE hkc hk hn h1.2.2.2.2 (by omega)
  obtain ⟨ab, ba, ac, ca, bc, cb⟩ := h1.2.2.1
  obtain ⟨cs, q1, _⟩ := h1.2.1.1
  have hrow : ∀ q, a.ownBlock = some q → x.base ≤ q := fun q e => (q1.block q e).1
  obtain ⟨p1, p2, p3⟩ := h1.low hx hg hrow
  obtain ⟨n1, n2⟩ := apart_new ab ba (fun k e => (h1.2.1.2.1.block k e).2) hl
  obtain ⟨n3, n4⟩ := apart_new ac ca (fun k e => (h1.2.1.2.2.block k e).2) hl
  exact ⟨a', w', hrun, p1, ⟨r1, h1.2.1.2.1.grown hg ba (by omega) (fun q e => by have := hrow q e; omega), h1.2.1.2.2.grown hg ca (fun u l hu => own_other q1 hu)⟩, ⟨n1, n2, n3, n4, bc, cb⟩, p2, p3⟩
/-- an option more that would be borne with other data -/
theorem RJ.stand (h : RJ w V x cv a b c R S N) (hx : x.ok w.heap.size) (K : Int) (E : Option Addr) (k d : Nat) (l : List UInt8) (hr : Rd V x.bb E k l) (hE : E = none → d = 0) (hkc : k ≤ d) (hk : k ≤ 140737488351232) (hn : S.length < 4398046511104) :
    ∃ b' w', (Builtin.append_ #[28, 28] 28 #[b, .slice (some ⟨V.heap.size, 0, none⟩) 1 1]).run Tryd.prog (V.alloc (.cells #[.int .i64 K, .slice E k d] 61)) = .ok b' w' ∧ RJ w w' x cv a b' c R (S ++ [(K, l)]) N := by
  have B1 : Below V.heap.size V (V.alloc (.cells #[.int .i64 K, .slice E k d] 61)) := (Below.refl _ _).alloc (Nat.le_refl _) _
  have k1 := blk_new V 61 [.int .i64 K, .slice E k d]
  have hs := h.2.2.2.2
  have hBw := h.2.2.2.1.size
  have h1 := h.later hx B1
  have hxb := hx
  obtain ⟨b1, d1, d2⟩ := hxb
  generalize hW : V.alloc (.cells #[.int .i64 K, .slice E k d] 61) = V1 at *
  have hs1 := h1.2.2.2.1.size
  obtain ⟨b', w', hrun, r1, hg, hl⟩ := appR_run h1.2.1.2.1 V.heap.size K E k d l (k1.cell 0) (k1.cell 1) (hr.below (B1.mono (by omega))) hE hkc hk hn h1.2.2.2.2 (by omega)
  obtain ⟨ab, ba, ac, ca, bc, cb⟩ := h1.2.2.1
  obtain ⟨cs, q1, _⟩ := h1.2.1.2.1
  have hrow : ∀ q, b.ownBlock = some q → x.base ≤ q := fun q e => (q1.block q e).1
  obtain ⟨p1, p2, p3⟩ := h1.low hx hg hrow
  obtain ⟨n1, n2⟩ := apart_new ba ab (fun k e => (h1.2.1.1.block k e).2) hl
  obtain ⟨n3, n4⟩ := apart_new bc cb (fun k e => (h1.2.1.2.2.block k e).2) hl
  exact ⟨b', w', hrun, p1, ⟨h1.2.1.1.grown hg ab (by omega) (fun q e => by have := hrow q e; omega), r1, h1.2.1.2.2.grown hg cb (fun u l hu => own_other q1 hu)⟩, ⟨n2, n1, ac, ca, n3, n4⟩, p2, p3⟩
/-- .. and those other data -/
theorem RJ.nak (h : RJ w V x cv a b c R S N) (hx : x.ok w.heap.size) (K : Int) (E : Option Addr) (k d : Nat) (l : List UInt8) (ho : Own V x.base (.slice E k d) l) (hn : N.length < 4398046511104) :
    ∃ c' w', (Builtin.append_ #[28, 28] 28 #[c, .slice (some ⟨V.heap.size, 0, none⟩) 1 1]).run Tryd.prog (V.alloc (.cells #[.int .i64 K, .slice E k d] 61)) = .ok c' w' ∧ RJ w w' x cv a b c' R S (N ++ [(K, l)]) ∧ (∀ zb cs, Blk V zb 61 cs → c.ownBlock ≠ some zb → Blk w' zb 61 cs) := by
  have B1 : Below V.heap.size V (V.alloc (.cells #[.int .i64 K, .slice E k d] 61)) := (Below.refl _ _).alloc (Nat.le_refl _) _
  have k1 := blk_new V 61 [.int .i64 K, .slice E k d]
  have h1 := h.later hx B1
  have hxb := hx
  obtain ⟨b1, d1, d2⟩ := hxb
  have ho1 := ho.later B1
  generalize hW : V.alloc (.cells #[.int .i64 K, .slice E k d] 61) = V1 at *
  have hs1 := h1.2.2.2.1.size
  obtain ⟨c', w', hrun, r1, hg, hl⟩ := appL_run h1.2.1.2.2 V.heap.size K E k d l (k1.cell 0) (k1.cell 1) ho1 hn h1.2.2.2.2
  obtain ⟨ab, ba, ac, ca, bc, cb⟩ := h1.2.2.1
  have hrow : ∀ q, c.ownBlock = some q → x.base ≤ q := fun q e => (h1.2.1.2.2.block q e).1
  obtain ⟨p1, p2, p3⟩ := h1.low hx hg hrow
  obtain ⟨n1, n2⟩ := apart_new ca ac (fun k e => (h1.2.1.1.block k e).2) hl
  obtain ⟨n3, n4⟩ := apart_new cb bc (fun k e => (h1.2.1.2.1.block k e).2) hl
  refine ⟨c', w', hrun, ⟨p1, ⟨h1.2.1.1.grown hg ac (by omega) (fun q e => by have := hrow q e; omega), h1.2.1.2.1.grown hg bc (by omega) (fun q e => by have := hrow q e; omega), r1⟩, ⟨ab, ba, n2, n1, n4, n3⟩, p2, p3⟩, fun zb ds hb hne => ?_⟩
  have hb1 : Blk V1 zb 61 ds := (B1.block zb hb.lt).trans hb
  exact (hg.block zb hb1.lt (fun e => hne e.symm)).trans hb1
/-- the round's world where the option is refused -/
def RRef (w V : World) (x : CR) (cv : Array Value) (a b c : Value) (R S N : List Opt) (zb : Nat) (K : Int) (E : Option Addr) (kk d : Nat) (l : List UInt8) : Prop :=
  ∃ A n q w', Hid ((Builtin.append_ #[28, 28] 28 #[a, .slice (some ⟨V.heap.size, 0, none⟩) 1 1]).run Tryd.prog (V.alloc (.cells #[.int .i64 K, .slice E kk d] 61)) = .ok (.slice A n q) w') ∧ n = (R ++ [(K, l)]).length ∧ Hid (RJ w w' x cv (.slice A n q) b c (R ++ [(K, l)]) S N)
theorem RJ.ref (h : RJ w V x cv a b c R S N) (hx : x.ok w.heap.size) (zb : Nat) (K : Int) (E : Option Addr) (kk d : Nat) (l : List UInt8) (hr : Rd V x.bb E kk l) (hE : E = none → d = 0) (hkc : kk ≤ d) (hk : kk ≤ 140737488351232) (hn : R.length < 4398046511104) :
    RRef w V x cv a b c R S N zb K E kk d l := by
  obtain ⟨a', w', h1, h2⟩ := h.refuse hx K E kk d l hr hE hkc hk hn
  obtain ⟨A, q, rfl⟩ := h2.2.1.1.shape
  exact ⟨A, _, q, w', Lib.hid h1, rfl, Lib.hid h2⟩
/-- .. where it is told with another value -/
def ROth (w V : World) (x : CR) (cv : Array Value) (a b c : Value) (R S N : List Opt) (zb : Nat) (K : Int) (E : Option Addr) (kk d : Nat) (l : List UInt8) (g p : Nat) (M : Int) : Prop :=
  ∃ V5, Hid (V.alloc (.cells #[.int .i64 K, .slice (some ⟨g, 0, none⟩) p p] 61) = V5) ∧ (V5.cell? ⟨V.heap.size, 0, none⟩ = some (.int .i64 K) ∧ V5.cell? ⟨V.heap.size, 1, none⟩ = some (.slice (some ⟨g, 0, none⟩) p p)) ∧
    ∃ A n q w', Hid ((Builtin.append_ #[28, 28] 28 #[c, .slice (some ⟨V5.heap.size, 0, none⟩) 1 1]).run Tryd.prog (V5.alloc (.cells #[.int .i64 K, .slice (some ⟨g, 0, none⟩) p p] 61)) = .ok (.slice A n q) w') ∧ n = (N ++ [(K, dat K M)]).length ∧ (w'.cell? ⟨zb, 0, none⟩ = some (.int .i64 K) ∧ w'.cell? ⟨zb, 1, none⟩ = some (.slice E kk d)) ∧
      ∃ A2 n2 q2 w2, Hid ((Builtin.append_ #[28, 28] 28 #[b, .slice (some ⟨w'.heap.size, 0, none⟩) 1 1]).run Tryd.prog (w'.alloc (.cells #[.int .i64 K, .slice E kk d] 61)) = .ok (.slice A2 n2 q2) w2) ∧ n2 = (S ++ [(K, l)]).length ∧
        Hid (RJ w w2 x cv a (.slice A2 n2 q2) (.slice A n q) R (S ++ [(K, l)]) (N ++ [(K, dat K M)]))
theorem RJ.oth (h : RJ w V x cv a b c R S N) (hx : x.ok w.heap.size) (zb : Nat) (K : Int) (E : Option Addr) (kk d : Nat) (l : List UInt8) (g p : Nat) (M : Int) (hb : Blk V zb 61 [.int .i64 K, .slice E kk d]) (hzc : c.ownBlock ≠ some zb) (ho : Own V x.base (.slice (some ⟨g, 0, none⟩) p p) (dat K M))
    (hr : Rd V x.bb E kk l) (hE : E = none → d = 0) (hkc : kk ≤ d) (hk : kk ≤ 140737488351232) (hn : S.length < 4398046511104) (hn2 : N.length < 4398046511104) : ROth w V x cv a b c R S N zb K E kk d l g p M := by
  obtain ⟨V5, hV5⟩ : ∃ V5, V.alloc (.cells #[.int .i64 K, .slice (some ⟨g, 0, none⟩) p p] 61) = V5 := ⟨_, rfl⟩
  have B5 : Below V.heap.size V V5 := by rw [← hV5]; exact (Below.refl _ _).alloc (Nat.le_refl _) _
  have k5 : Blk V5 V.heap.size 61 [.int .i64 K, .slice (some ⟨g, 0, none⟩) p p] := by rw [← hV5]; exact blk_new V _ _
  have h5 := h.later hx B5
  have hlow := hx.2.2
  have hws := h.2.2.2.1.size
  obtain ⟨c', w', g1, g2, g3⟩ := h5.nak hx K (some ⟨g, 0, none⟩) p p (dat K M) (ho.later B5) hn2
  obtain ⟨A, q, rfl⟩ := g2.2.1.2.2.shape
  have kb5 : Blk V5 zb 61 [.int .i64 K, .slice E kk d] := (B5.block _ (Blk.lt hb)).trans hb
  have kbw := g3 zb _ kb5 hzc
  have hr0 : Rd w' x.bb E kk l := by
    have e1 := hr
    obtain ⟨z1, z2⟩ := hr
    refine ⟨z1, fun h0 => ?_⟩
    obtain ⟨b', off', e, hl, hc⟩ := z2 h0
    refine ⟨b', off', e, hl, fun j hj => ?_⟩
    have hq := hc j hj
    have hb1 := h.2.2.2.1
    have hb2 := g2.2.2.2.1
    have u1 := hb1.cell (p := ⟨b', off' + j, none⟩) (show b' < w.heap.size by omega)
    have u2 := hb2.cell (p := ⟨b', off' + j, none⟩) (show b' < w.heap.size by omega)
    rw [u2, ← u1]
    exact hq
  obtain ⟨b', w2, f1, f2⟩ := g2.stand hx K E kk d l hr0 hE hkc hk hn
  obtain ⟨A2, q2, rfl⟩ := f2.2.1.2.1.shape
  exact ⟨V5, Lib.hid hV5, ⟨k5.cell 0, k5.cell 1⟩, A, _, q, w', Lib.hid g1, rfl, ⟨kbw.cell 0, kbw.cell 1⟩, A2, _, q2, w2, Lib.hid f1, rfl, Lib.hid f2⟩
def RowC (W : World) (z : Nat) (cv : Array Value) : Prop := W.heap[z]? = some (.cells cv 25 (0, 0))
theorem RJ.row (h : RJ w V x cv a b c R S N) : RowC V x.zc cv := by
  have := h.1
  unfold Blk at this
  unfold RowC
  simpa using this
/-- a round's calls -/
def RRound (w V : World) (x : CR) (cv : Array Value) (D B : Int) (a b c : Value) (R S N : List Opt) (Al : Option Addr) (n cl k : Nat) (K : Int) (E : Option Addr) (kk d : Nat) (l : List UInt8) (m : Bool) : Prop :=
  Hid (RowC (V.alloc (.cells #[.int .i64 K, .slice E kk d] 61)) x.zc cv) ∧
  Hid (Calls Tryd.prog 31 #[.agg cv, .agg #[.int .i64 K, .slice E kk d]] (V.alloc (.cells #[.int .i64 K, .slice E kk d] 61)) fun e V2 => e = .returned (.bool (brC D B K kk)) ∧ (V2.cell? ⟨V.heap.size, 0, none⟩ = some (.int .i64 K) ∧ V2.cell? ⟨V.heap.size, 1, none⟩ = some (.slice E kk d)) ∧
    Hid (RRef w V2 x cv a b c R S N V.heap.size K E kk d l) ∧
    Hid (Calls Tryd.prog 32 #[.slice Al n cl, .int .i64 (k : Int)] V2 fun e V3 => e = .returned (.bool m) ∧ (V3.cell? ⟨V.heap.size, 0, none⟩ = some (.int .i64 K) ∧ V3.cell? ⟨V.heap.size, 1, none⟩ = some (.slice E kk d)) ∧ Hid (RowC V3 x.zc cv) ∧
      Hid (RRef w V3 x cv a b c R S N V.heap.size K E kk d l) ∧
      Hid (K = 26 ∨ K = 21 → (says K l = 0 ∨ cK D B K < says K l) → Calls Tryd.prog 33 #[.agg cv, .agg #[.int .i64 K, .slice E kk d]] V3 fun e V4 => ∃ g p, e = .returned (.tuple #[.agg #[.int .i64 K, .slice (some ⟨g, 0, none⟩) p p], .bool true]) ∧ ROth w V4 x cv a b c R S N V.heap.size K E kk d l g p (cK D B K)) ∧
      Hid (K = 26 ∨ K = 21 → ¬ (says K l = 0 ∨ cK D B K < says K l) → Calls Tryd.prog 33 #[.agg cv, .agg #[.int .i64 K, .slice E kk d]] V3 fun e V4 => e = .returned (.tuple #[.agg #[.int .i64 K, .slice E kk d], .bool false]) ∧ ∃ V5, Hid (V4.alloc (.cells #[.int .i64 K, .slice E kk d] 61) = V5) ∧ Hid (RJ w V5 x cv a b c R S N))))
theorem r_round (h : RJ w V x cv a b c R S N) (hx : x.ok w.heap.size) {D B mf : Int} (hcf : ConfC cv D B mf) (Al : Option Addr) (n cl : Nat) (s : List Opt) (hl : OptRd w x.bb Al n s) (hnc : n ≤ cl) (hn : n ≤ 4398046511103) (k : Nat) (hk : k < s.length) (K : Int) (E : Option Addr) (kk d : Nat) (l : List UInt8) (hK : s[k].1 = K)
    (hr : Rd w x.bb E kk l) (hE : E = none → d = 0) (hkc : kk ≤ d) (hkk : kk ≤ 140737488351232) (hnR : R.length < 4398046511104) (hnS : S.length < 4398046511104) (hnN : N.length < 4398046511104) :
    RRound w V x cv D B a b c R S N Al n cl k K E kk d l (metK K s k) := by
  obtain ⟨W1, hW1⟩ : ∃ W1, W1 = V.alloc (.cells #[.int .i64 K, .slice E kk d] 61) := ⟨_, rfl⟩
  have B1 : Below V.heap.size V W1 := by rw [hW1]; exact (Below.refl _ _).alloc (Nat.le_refl _) _
  have s1 : W1.heap.size = V.heap.size + 1 := by rw [hW1]; simp
  have zb1 : Blk W1 V.heap.size 61 [.int .i64 K, .slice E kk d] := by rw [hW1]; exact blk_new V _ _
  have hs := h.2.2.2.2
  have hxb := hx
  obtain ⟨b1, d1, d2⟩ := hxb
  have hws := h.2.2.2.1.size
  have h1 := h.later hx B1
  have hcc : c.ownBlock ≠ some V.heap.size := fun e => by have := (h.2.1.2.2.block _ e).2; omega
  have hkb : ∀ W, Below w.heap.size w W → Rd W x.bb E kk l := fun W hW => hr.below (hW.mono d2)
  unfold RRound
  rw [← hW1]
  clear hW1
  refine ⟨Lib.hid h1.row, Lib.hid ?_⟩
  refine (rborne_any cv D B mf K E kk d W1 hcf).mono ?_
  rintro e V2 ⟨rfl, bb2⟩
  have h2 := h1.later hx bb2
  have zb2 : Blk V2 V.heap.size 61 [.int .i64 K, .slice E kk d] := (bb2.block _ (Blk.lt zb1)).trans zb1
  refine ⟨rfl, ⟨zb2.cell 0, zb2.cell 1⟩, Lib.hid (h2.ref hx _ K E kk d l (hkb _ h2.2.2.2.1) hE hkc hkk hnR), Lib.hid ?_⟩
  have w2 := h2.2.2.2.1
  have hm := rtwice_any Al n cl x.bb s k V2 (hl.below (w2.mono d2) (Nat.le_refl _)) (by have := w2.size; omega) hnc hn hk
  rw [hK] at hm
  refine hm.mono ?_
  rintro e V3 ⟨rfl, bb3⟩
  have h3 := h2.later hx bb3
  have zb3 : Blk V3 V.heap.size 61 [.int .i64 K, .slice E kk d] := (bb3.block _ (Blk.lt zb2)).trans zb2
  have w3 := h3.2.2.2.1
  have hb3 := h3.2.2.2.2
  refine ⟨rfl, ⟨zb3.cell 0, zb3.cell 1⟩, Lib.hid h3.row, Lib.hid (h3.ref hx _ K E kk d l (hkb _ w3) hE hkc hkk hnR), Lib.hid fun hk2 hz => ?_, Lib.hid fun hk2 hz => ?_⟩
  · refine (rother_yes cv D B mf K E kk d x.bb l V3 hcf (hkb _ w3) (by have := w3.size; omega) hk2 hz).mono ?_
    rintro e V4 ⟨g, p, rfl, -, ho, bb4⟩
    have h4 := h3.later hx bb4
    have zb4 : Blk V4 V.heap.size 61 [.int .i64 K, .slice E kk d] := (bb4.block _ (Blk.lt zb3)).trans zb3
    exact ⟨g, p, rfl, h4.oth hx _ K E kk d l g p _ zb4 hcc (ho.base_le hb3) (hkb _ h4.2.2.2.1) hE hkc hkk hnS hnN⟩
  · refine (rother_no cv D B mf K E kk d x.bb l V3 hcf (hkb _ w3) (by have := w3.size; omega) hk2 hz).mono ?_
    rintro e V4 ⟨rfl, bb4⟩
    have h4 := h3.later hx bb4
    exact ⟨rfl, _, Lib.hid rfl, Lib.hid (h4.later hx ((Below.refl _ _).alloc (Nat.le_refl _) _))⟩
end
theorem rfC_br (D B : Int) (s : List Opt) (k : Nat) (h : k < s.length) : rfC D B s k = (!brC D B s[k].1 s[k].2.length || metK s[k].1 s k) := by
  rw [rfC_at D B s k h]
  generalize metK s[k].1 s k = m
  generalize s[k].2.length = n
  generalize s[k].1 = K
  unfold brC cK szK
  by_cases h1 : K = 26
  · subst h1
    by_cases hn : n = 2 <;> by_cases hD : D = 0 <;> cases m <;> simp [hn, hD]
  · by_cases h2 : K = 21
    · subst h2
      by_cases hn : n = 1 <;> by_cases hD : B = 0 <;> cases m <;> simp [hn, hD]
    · cases m <;> simp [h1, h2]
theorem br_kind {D B K : Int} {n : Nat} (h : brC D B K n = true) : K = 26 ∨ K = 21 := by
  unfold brC at h
  simp at h
  rcases h with ⟨⟨h, _⟩, _⟩ | ⟨⟨h, _⟩, _⟩
  · exact .inl h
  · exact .inr h
end Go.Proofs.YtlpboleclehilaaDoor
namespace Go.Proofs.YtlpboleclehilaaDoor
open Go.RowKit
set_option maxRecDepth 100000
set_option maxHeartbeats 4000000
set_option linter.unusedSimpArgs false
set_option linter.unusedVariables false

/-- what is answered: a row of its own, or the list that was handed in -/
def YR (w' : World) (T Bb : Nat) (v : Value) (L : List Opt) : Prop := OwnR w' T Bb v L ∨ OwnL w' T v L ∨ ∃ A c, v = .slice A L.length c ∧ OptRd w' Bb A L.length L
def RK (w V : World) (x : CR) (cv : Array Value) (D B : Int) (s : List Opt) (k : Nat) (a b c : Value) (R S N : List Opt) : Prop :=
  RJ w V x cv a b c R S N ∧ R = pickC (rfC D B s) s k ∧ S = pickC (stC D B s) s k ∧ N = S.map (turnO D B)
def RjPost (w : World) (Bb : Nat) (mf D B : Int) (s : List Opt) (naks : Int) (e : Ending) (w' : World) : Prop :=
  ∃ A n c k L, e = .returned (.tuple #[.int .i64 k, .slice A n c]) ∧ (k, L) = jdC mf D B s naks ∧ n = L.length ∧ YR w' w.heap.size Bb (.slice A n c) L ∧ Below w.heap.size w w'
theorem step_confR {ops : Array Oper} {rest : List Oper} {o : Oper} {a : Act} {w : World} {Q : Exit → Act → World → Prop} (x : Operand) (g : Nat) (cv : Array Value) (hg : RowC w g cv) (hi : (Tryd.prog.info? 25).map (·.size) = some cv.size)
    (h : wpList Tryd.prog ops Q rest (a.put o.dst (.agg cv)) w) (hgd : o.guard = none) (ho : o.op = .load 25 x) (hx : a.eval x = .pointer (some ⟨g, 0, none⟩)) : wpList Tryd.prog ops Q (o :: rest) a w :=
  step_confC x g cv hg hi h hgd ho hx
theorem rjudge_ccp (cv : Array Value) (D B mf : Int) (A : Option Addr) (n c Bb : Nat) (s : List Opt) (naks : Int) (w : World) (hcf : ConfC cv D B mf) (hr : OptRd w Bb A n s) (hBb : Bb ≤ w.heap.size) (hnc : n ≤ c) (hn : n ≤ 4398046511103) :
    Calls Tryd.prog 8 #[.agg cv, .slice A n c, .int .i64 naks] w fun e w' => RjPost w Bb mf D B s naks e w' := by
  have hlen := hr.1
  obtain ⟨W1, hW1⟩ : ∃ W1, w.alloc (.cells cv 25) = W1 := ⟨_, rfl⟩
  have kc : Blk W1 w.heap.size 25 cv.toList := by
    rw [← hW1]
    have h := blk_new w 25 cv.toList
    unfold Blk at h ⊢
    simpa using h
  have B1 : Below w.heap.size w W1 := by rw [← hW1]; exact (Below.refl _ _).alloc (Nat.le_refl _) _
  have s1 : W1.heap.size = w.heap.size + 1 := by rw [← hW1]; simp
  have hx : (⟨w.heap.size, w.heap.size + 1, Bb⟩ : CR).ok w.heap.size := ⟨Nat.le_refl _, Nat.lt_succ_self _, hBb⟩
  have H0 : RK w W1 ⟨w.heap.size, w.heap.size + 1, Bb⟩ cv D B s 0 (.slice none 0 0) (.slice none 0 0) (.slice none 0 0) [] [] [] :=
    ⟨⟨kc, ⟨OwnR.nil _ _ _, OwnR.nil _ _ _, OwnL.nil _ _⟩, ⟨.inl rfl, .inl rfl, .inl rfl, .inl rfl, .inl rfl, .inl rfl⟩, B1, by show w.heap.size + 1 ≤ _; omega⟩, rfl, rfl, rfl⟩
  have HW := Lib.hid hW1
  have HR := Lib.hid hr
  have HCF := Lib.hid hcf
  have IC : Hid ((Tryd.prog.info? 25).map (·.size) = some cv.size) := by show _ = _; rw [hcf.1]; exact infoC
  have HX := Lib.hid hx
  have H1 := Lib.hid H0
  clear hW1 kc B1 s1 hr hcf hx H0
  go_enter Tryd.func8, Tryd.ntmps8
  go_upto_region 1 with (fail)
  rw [HW.out]
  clear HW
  go_wp2
  go_loopw [8, 9, 10, 17] (fun a c b i wr => ∃ (V : World) (k : Nat) (R S N : List Opt), V = wr ∧ k ≤ n ∧ i = .int .i64 k ∧ (∃ A1 d1, a = .slice A1 R.length d1) ∧ (∃ A1 d1, b = .slice A1 S.length d1) ∧ (∃ A1 d1, c = .slice A1 N.length d1) ∧ Hid (RK w V ⟨w.heap.size, w.heap.size + 1, Bb⟩ cv D B s k a b c R S N)) (fun _ _ _ i _ => n - (intOf i).toNat)
  case atStart => exact ⟨_, 0, [], [], [], rfl, Nat.zero_le _, rfl, ⟨none, 0, rfl⟩, ⟨none, 0, rfl⟩, ⟨none, 0, rfl⟩, H1.out⟩
  case round =>
    obtain ⟨V, k, R, S, N, rfl, hkn, rfl, ⟨A1, d1, rfl⟩, ⟨A2, d2, rfl⟩, ⟨A3, d3, rfl⟩, hJ⟩ := hrel
    obtain ⟨hJJ, hR, hS, hN⟩ := hJ.out
    have hBw := hJJ.2.2.2.1
    have sV := hBw.size
    by_cases hlt : k < n
    · obtain ⟨b, off, hAe, hbl, hc⟩ := HR.out.2 (by omega)
      obtain ⟨x1, E, kk, d, x2, hRd, hE, hkc, hkb⟩ := hc k (by omega)
      have hks : k < s.length := by omega
      have hRl : R.length ≤ k := by rw [hR]; exact pickC_len _ _ _
      have hSl : S.length ≤ k := by rw [hS]; exact pickC_len _ _ _
      have hNl : N.length ≤ k := by rw [hN, List.length_map]; exact hSl
      have hrf := rfC_br D B s k hks
      have hst := stC_at D B s k hks
      have hpR := pickC_step (rfC D B s) s k hks
      have hpS := pickC_step (stC D B s) s k hks
      rw [← hR] at hpR
      rw [← hS] at hpS
      obtain ⟨y, hy⟩ : ∃ y, s[k]'(by omega) = y := ⟨_, rfl⟩
      rw [hy] at x1 hRd hrf hst hpR hpS
      obtain ⟨K, l⟩ := y
      have hll : l.length = kk := hRd.1
      have HRD := r_round hJJ HX.out HCF.out A n c s HR.out hnc hn k hks K E kk d l (by rw [hy]) hRd hE hkc hkb (by omega) (by omega) (by omega)
      subst hAe
      have v1 : V.cell? ⟨b, off + k * 2, none⟩ = some (.int .i64 K) := (hBw.cell (show b < w.heap.size by omega)).trans x1
      have v2 : V.cell? ⟨b, off + k * 2 + 1, none⟩ = some (.slice E kk d) := (hBw.cell (show b < w.heap.size by omega)).trans x2
      have hbV : b < V.heap.size := by omega
      unfold RRound at HRD
      dsimp only at HRD hrf hst
      rw [hll] at hrf
      obtain ⟨HRow, HRD⟩ := HRD
      have HNX : Hid (∀ (a b c : Value) (W : World), rfC D B s k = true → RJ w W ⟨w.heap.size, w.heap.size + 1, Bb⟩ cv a b c (R ++ [(K, l)]) S N → RK w W ⟨w.heap.size, w.heap.size + 1, Bb⟩ cv D B s (k + 1) a b c (R ++ [(K, l)]) S N) := by
        intro a b c W hrt hcj
        have hs0 : stC D B s k = false := by rw [hst, hrt]; rfl
        refine ⟨hcj, ?_, ?_, hN⟩
        · rw [hpR, if_pos hrt]
        · rw [hpS, if_neg (by rw [hs0]; simp)]; simp
      have HNY : Hid (∀ (a b c : Value) (W : World), stC D B s k = true → RJ w W ⟨w.heap.size, w.heap.size + 1, Bb⟩ cv a b c R (S ++ [(K, l)]) (N ++ [(K, dat K (cK D B K))]) → RK w W ⟨w.heap.size, w.heap.size + 1, Bb⟩ cv D B s (k + 1) a b c R (S ++ [(K, l)]) (N ++ [(K, dat K (cK D B K))])) := by
        intro a b c W hsx hcj
        have hr0 : rfC D B s k = false := by
          rw [hst] at hsx
          rcases hq : rfC D B s k with _ | _
          · rfl
          · rw [hq] at hsx; simp at hsx
        refine ⟨hcj, ?_, ?_, ?_⟩
        · rw [hpR, if_neg (by rw [hr0]; simp)]; simp
        · rw [hpS, if_pos hsx]
        · rw [hN, List.map_append]; rfl
      have HNZ : Hid (∀ (a b c : Value) (W : World), rfC D B s k = false → stC D B s k = false → RJ w W ⟨w.heap.size, w.heap.size + 1, Bb⟩ cv a b c R S N → RK w W ⟨w.heap.size, w.heap.size + 1, Bb⟩ cv D B s (k + 1) a b c R S N) := by
        intro a b c W hr0 hs0 hcj
        refine ⟨hcj, ?_, ?_, hN⟩
        · rw [hpR, if_neg (by rw [hr0]; simp)]; simp
        · rw [hpS, if_neg (by rw [hs0]; simp)]; simp
      have hbk : brC D B K kk = true → K = 26 ∨ K = 21 := br_kind
      obtain ⟨br, hbr⟩ : ∃ br, brC D B K kk = br := ⟨_, rfl⟩
      obtain ⟨mt, hmt⟩ : ∃ mt, metK K s k = mt := ⟨_, rfl⟩
      rw [hbr] at HRD hrf hbk
      rw [hmt] at HRD hrf
      have HRF := Lib.hid hrf
      have HST := Lib.hid hst
      clear hc hy x1 x2 hRd hE hkc hkb hrf hst hpR hpS hR hS hN hJJ hJ hBw hbr hmt
      rcases br with _ | _
      · have HN := Lib.hid (fun a b c W => HNX.out a b c W HRF.out)
        clear HNX HNY HNZ HRF HST hbk
        go_upto_region 6 with (first
          | ((with_reducible refine step_confR (.tmp 3) w.heap.size cv HRow.out IC.out ?_ rfl rfl ?_); rotate_left; rfl)
          | (go_at_call 31; ((with_reducible refine HRD.out.mono ?_); rintro e V2 ⟨rfl, ⟨z0, z1⟩, HRR, -⟩; obtain ⟨A4, n4, d4, w5, HRN, hn4, HJN⟩ := HRR.out; have HN4 := Lib.hid hn4; clear hn4 HRR)))
        go_wp2_with (at_builtin; refine wpList_appO 28 28 rfl (.tmp 31) (.tmp 33) rfl _ _ rfl rfl _ _ HRN.out ?_)
        go_roundw
        case rel => exact ⟨_, k + 1, _, S, N, rfl, by omega, by go_num, ⟨A4, d4, by rw [← HN4.out]⟩, ⟨_, _, rfl⟩, ⟨_, _, rfl⟩, HN.out _ _ _ _ HJN.out⟩
        case measure => simp [intOf]; omega
      · rcases mt with _ | _
        · have hK := hbk rfl
          have HRF0 : Hid (rfC D B s k = false) := HRF.out
          by_cases hz : says K l = 0 ∨ cK D B K < says K l
          · have HN : Hid (∀ (a b c : Value) (W : World), RJ w W ⟨w.heap.size, w.heap.size + 1, Bb⟩ cv a b c R (S ++ [(K, l)]) (N ++ [(K, dat K (cK D B K))]) → RK w W ⟨w.heap.size, w.heap.size + 1, Bb⟩ cv D B s (k + 1) a b c R (S ++ [(K, l)]) (N ++ [(K, dat K (cK D B K))])) := by
              intro a b c W h
              refine HNY.out a b c W ?_ h
              rw [HST.out, HRF0.out]
              rcases hz with h | h
              · rw [h]; rfl
              · rw [decide_eq_true h]; simp
            have HK := Lib.hid (And.intro hK hz)
            clear HNX HNY HNZ HRF HST hbk HRF0 hK hz
            go_wp2_with (first
              | ((with_reducible refine step_confR (.tmp 3) w.heap.size cv HRow.out IC.out ?_ rfl rfl ?_); rotate_left; rfl)
              | (go_at_call 31; ((with_reducible refine HRD.out.mono ?_); rintro e V2 ⟨rfl, ⟨z0, z1⟩, -, HTW⟩))
              | (go_at_call 32; ((with_reducible refine HTW.out.mono ?_); rintro e V3 ⟨rfl, ⟨y0, y1⟩, HRow2, -, HOY, -⟩))
              | ((with_reducible refine step_confR (.tmp 3) w.heap.size cv HRow2.out IC.out ?_ rfl rfl ?_); rotate_left; rfl)
              | (go_at_call 33; ((with_reducible refine (HOY.out HK.out.1 HK.out.2).mono ?_); rintro e V4 ⟨g, p, rfl, V5, HV5, ⟨g0, g1⟩, A4, n4, d4, w5, HRN, hn4, ⟨g2, g3⟩, A6, n6, d6, w7, HRN2, hn6, HJN⟩; have HN4 := Lib.hid hn4; have HN6 := Lib.hid hn6; clear hn4 hn6))
              | (rw [HV5.out])
              | (at_builtin; refine wpList_appO 28 28 rfl (.tmp 42) (.tmp 44) rfl _ _ rfl rfl _ _ HRN.out ?_)
              | (at_builtin; refine wpList_appO 28 28 rfl (.tmp 46) (.tmp 48) rfl _ _ rfl rfl _ _ HRN2.out ?_))
            go_roundw
            case rel => exact ⟨_, k + 1, R, _, _, rfl, by omega, by go_num, ⟨_, _, rfl⟩, ⟨A6, d6, by rw [← HN6.out]⟩, ⟨A4, d4, by rw [← HN4.out]⟩, HN.out _ _ _ _ HJN.out⟩
            case measure => simp [intOf]; omega
          · have HN : Hid (∀ (a b c : Value) (W : World), RJ w W ⟨w.heap.size, w.heap.size + 1, Bb⟩ cv a b c R S N → RK w W ⟨w.heap.size, w.heap.size + 1, Bb⟩ cv D B s (k + 1) a b c R S N) := by
              intro a b c W h
              refine HNZ.out a b c W HRF0.out ?_ h
              rw [HST.out, HRF0.out, decide_eq_false (fun e => hz (.inr e))]
              have : (says K l == 0) = false := by simpa using fun e => hz (.inl e)
              rw [this]
              rfl
            have HK := Lib.hid (And.intro hK hz)
            clear HNX HNY HNZ HRF HST hbk HRF0 hK hz
            go_wp2_with (first
              | ((with_reducible refine step_confR (.tmp 3) w.heap.size cv HRow.out IC.out ?_ rfl rfl ?_); rotate_left; rfl)
              | (go_at_call 31; ((with_reducible refine HRD.out.mono ?_); rintro e V2 ⟨rfl, ⟨z0, z1⟩, -, HTW⟩))
              | (go_at_call 32; ((with_reducible refine HTW.out.mono ?_); rintro e V3 ⟨rfl, ⟨y0, y1⟩, HRow2, -, -, HON⟩))
              | ((with_reducible refine step_confR (.tmp 3) w.heap.size cv HRow2.out IC.out ?_ rfl rfl ?_); rotate_left; rfl)
              | (go_at_call 33; ((with_reducible refine (HON.out HK.out.1 HK.out.2).mono ?_); rintro e V4 ⟨rfl, V5, HV5, HJN⟩))
              | (rw [HV5.out]))
            go_roundw
            case rel => exact ⟨_, k + 1, R, S, N, rfl, by omega, by go_num, ⟨_, _, rfl⟩, ⟨_, _, rfl⟩, ⟨_, _, rfl⟩, HN.out _ _ _ _ HJN.out⟩
            case measure => simp [intOf]; omega
        · have HN := Lib.hid (fun a b c W => HNX.out a b c W HRF.out)
          clear HNX HNY HNZ HRF HST hbk
          go_upto_region 6 with (first
            | ((with_reducible refine step_confR (.tmp 3) w.heap.size cv HRow.out IC.out ?_ rfl rfl ?_); rotate_left; rfl)
            | (go_at_call 31; ((with_reducible refine HRD.out.mono ?_); rintro e V2 ⟨rfl, ⟨z0, z1⟩, -, HTW⟩))
            | (go_at_call 32; ((with_reducible refine HTW.out.mono ?_); rintro e V3 ⟨rfl, ⟨y0, y1⟩, -, HRR, -⟩; obtain ⟨A4, n4, d4, w5, HRN, hn4, HJN⟩ := HRR.out; have HN4 := Lib.hid hn4; clear hn4 HRR)))
          go_wp2_with (at_builtin; refine wpList_appO 28 28 rfl (.tmp 31) (.tmp 33) rfl _ _ rfl rfl _ _ HRN.out ?_)
          go_roundw
          case rel => exact ⟨_, k + 1, _, S, N, rfl, by omega, by go_num, ⟨A4, d4, by rw [← HN4.out]⟩, ⟨_, _, rfl⟩, ⟨_, _, rfl⟩, HN.out _ _ _ _ HJN.out⟩
          case measure => simp [intOf]; omega
    · have hke : k = n := by omega
      subst hke
      have hRe : R = rfCL D B s := by rw [hR, ← hlen]; rfl
      have hSe : S = stCL D B s := by rw [hS, ← hlen]; rfl
      have hl2 : S.length = N.length := by rw [hN, List.length_map]
      have hwb : w.heap.size ≤ w.heap.size + 1 := Nat.le_succ _
      have cf := hJJ.1
      obtain ⟨r1, r2, r3⟩ := hJJ.2.1
      have c21 : V.cell? ⟨w.heap.size, 21, none⟩ = some (.int .i64 mf) := by
        have h21 := HCF.out.2.2.2
        have := cf.cell 21
        dsimp only at this
        rw [this, Array.getElem?_toList]
        exact h21
      have HBW := Lib.hid hBw
      by_cases hRn : R = []
      · by_cases hNn : N = []
        · have hSn : S = [] := List.eq_nil_of_length_eq_zero (by rw [hl2, hNn]; rfl)
          have HJ2 : Hid (jdC mf D B s naks = (2, s)) := by
            show _ = _
            unfold jdC
            rw [← hRe, ← hSe, hRn, hSn]
            simp
          have HY : Hid (YR V w.heap.size Bb (.slice A k c) s) := .inr (.inr ⟨A, c, by rw [hlen], by rw [hlen]; exact HR.out.below hBw hBb⟩)
          subst hRn hNn
          clear hJJ hJ r1 r2 r3 hBw hRe hSe hR hS hN hl2 cf hSn
          go_wp2
          go_ret2
          exact ⟨A, k, c, 2, s, rfl, HJ2.out.symm, hlen.symm, HY.out, HBW.out⟩
        · have n0 : (0 : Int) < (N.length : Int) := by
            rcases N with _ | ⟨y, N⟩
            · exact absurd rfl hNn
            · simp
          have hSn : S ≠ [] := fun e => hNn (List.eq_nil_of_length_eq_zero (by rw [← hl2, e]; rfl))
          by_cases hna : naks < mf
          · have HJ2 : Hid (jdC mf D B s naks = (3, N)) := by
              show _ = _
              unfold jdC
              rw [← hRe, ← hSe, hRn, hN]
              simp [hSn, hna]
            have HY : Hid (YR V w.heap.size Bb (.slice A3 N.length d3) N) := .inr (.inl (r3.base_le hwb))
            obtain ⟨q, hq⟩ : ∃ q, N.length = q := ⟨_, rfl⟩
            have HQ := Lib.hid hq
            rw [hq] at n0 HY ⊢
            subst hRn
            clear hJJ hJ r1 r2 r3 hBw hNn hq cf hRe hSe hR hS hN hl2 hSn
            go_wp2
            go_ret2
            exact ⟨_, _, _, 3, N, rfl, HJ2.out.symm, HQ.out.symm, HY.out, HBW.out⟩
          · have HJ2 : Hid (jdC mf D B s naks = (4, S)) := by
              show _ = _
              unfold jdC
              rw [← hRe, ← hSe, hRn]
              simp [hSn, hna]
            have HY : Hid (YR V w.heap.size Bb (.slice A2 S.length d2) S) := .inl (r2.base_le hwb)
            obtain ⟨q, hq⟩ : ∃ q, N.length = q := ⟨_, rfl⟩
            obtain ⟨u, hu⟩ : ∃ u, S.length = u := ⟨_, rfl⟩
            have HU := Lib.hid hu
            rw [hq] at n0 ⊢
            rw [hu] at HY ⊢
            subst hRn
            clear hJJ hJ r1 r2 r3 hBw hNn hq hu cf hRe hSe hR hS hN hl2 hSn
            go_wp2
            go_ret2
            exact ⟨_, _, _, 4, S, rfl, HJ2.out.symm, HU.out.symm, HY.out, HBW.out⟩
      · have n0 : (0 : Int) < (R.length : Int) := by
          rcases R with _ | ⟨y, R⟩
          · exact absurd rfl hRn
          · simp
        have HJ2 : Hid (jdC mf D B s naks = (4, R)) := by
          show _ = _
          unfold jdC
          rw [← hRe, if_pos hRn]
        have HY : Hid (YR V w.heap.size Bb (.slice A1 R.length d1) R) := .inl (r1.base_le hwb)
        obtain ⟨u, hu⟩ : ∃ u, R.length = u := ⟨_, rfl⟩
        have HU := Lib.hid hu
        rw [hu] at n0 HY ⊢
        clear hJJ hJ r1 r2 r3 hBw hRn hu cf hRe hSe hR hS hN hl2
        go_wp2
        go_ret2
        exact ⟨_, _, _, 4, R, rfl, HJ2.out.symm, HU.out.symm, HY.out, HBW.out⟩
end Go.Proofs.YtlpboleclehilaaDoor
