/-
  lcp.Judge: lists whose options' bytes came in; what is kept from round to round.
  lcp.Judge's closure: an option is borne, or something is thrown.
  lcp.Judge: what a round calls, one behind the other.
  lcp.Judge: a round's calls as one chain; what the whole answers; lcp.clone.
  lcp.Judge of anything: the walk.
-/
import Derived.Test.YtonbdcajepmgbaaLcBearing
import Derived.Test.YtonbdcajepmgbaaOpWithout
import Derived.Laws.Rows
import Derived.WalkMore
namespace Go.Proofs.Ytonbdcajepmgbaa
open Go.RowKit
set_option maxRecDepth 100000
set_option maxHeartbeats 4000000
set_option linter.unusedSimpArgs false
set_option linter.unusedVariables false

/-- a row of the call's own, whose options' bytes lie below B -/
def OwnR (w : World) (base B : Nat) (v : Value) (s : List Opt) : Prop :=
  ∃ cs, OwnO w base v s.length cs ∧ ∀ i (h : i < s.length), cs[i * 2]? = some (.int .i64 s[i].1) ∧ ∃ E k c, cs[i * 2 + 1]? = some (.slice E k c) ∧ Rd w B E k s[i].2 ∧ (E = none → c = 0) ∧ k ≤ c ∧ k ≤ 140737488351232
theorem OwnR.nil (w : World) (base B : Nat) : OwnR w base B (.slice none 0 0) [] := ⟨[], World.ownsRow_nil _ _ _ _, fun i h => absurd h (by simp)⟩
theorem OwnR.shape {w : World} {base B : Nat} {v : Value} {s : List Opt} (h : OwnR w base B v s) : ∃ A c, v = .slice A s.length c := by
  obtain ⟨cs, h1, _⟩ := h
  exact h1.shape
theorem OwnR.block {w : World} {base B : Nat} {v : Value} {s : List Opt} (h : OwnR w base B v s) : ∀ k, v.ownBlock = some k → base ≤ k ∧ k < w.heap.size := by
  obtain ⟨cs, h1, _⟩ := h
  exact h1.block
theorem OwnR.grown {w w' : World} {base B : Nat} {v : Value} {s : List Opt} {row : Option Nat} (h : OwnR w base B v s) (hg : w.grownBy w' row) (hne : v.ownBlock = none ∨ v.ownBlock ≠ row) (hB : B ≤ w.heap.size) (hr : ∀ g, row = some g → B ≤ g) : OwnR w' base B v s := by
  obtain ⟨cs, h1, h2⟩ := h
  refine ⟨cs, h1.grown hg hne, fun i hi => ?_⟩
  obtain ⟨a, E, k, c, b, hr2, h3⟩ := h2 i hi
  exact ⟨a, E, k, c, b, hr2.grown hg hB hr, h3⟩
theorem OwnR.rd {w : World} {base B : Nat} {v : Value} {s : List Opt} (h : OwnR w base B v s) (hB : B ≤ w.heap.size) :
    ∃ A c, v = .slice A s.length c ∧ OptRd w w.heap.size A s.length s ∧ s.length ≤ c := by
  obtain ⟨cs, h1, h2⟩ := h
  have h1' := h1
  rcases h1.2 with ⟨rfl, h0⟩ | ⟨g, cap, cur, rfl, hb, hg, hc, _⟩
  · have : s = [] := List.eq_nil_of_length_eq_zero h0
    subst this
    exact ⟨none, 0, rfl, OptRd.nil, Nat.le_refl _⟩
  · refine ⟨_, _, rfl, ⟨rfl, fun h0 => ⟨g, 0, rfl, (Array.getElem?_eq_some_iff.1 hg).1, fun i hi => ?_⟩⟩, hc⟩
    obtain ⟨a, E, k, c, b, hr, h3, h4, h5⟩ := h2 i hi
    have f : ∀ j u, cs[j]? = some u → w.cell? ⟨g, j, none⟩ = some u := fun j u hj => by
      have h3 := World.ownsRow.cells h1' (g := g) rfl j u hj
      rwa [addr_add] at h3
    rw [Nat.zero_add]
    exact ⟨f _ _ a, E, k, c, f _ _ b, hr.wide hB, h3, h4, h5⟩
theorem appR_run {w : World} {base B : Nat} {v : Value} {s : List Opt} (h : OwnR w base B v s) (b : Nat) (K : Int) (E : Option Addr) (k c : Nat) (l : List UInt8) (hx : w.cell? ⟨b, 0, none⟩ = some (.int .i64 K)) (hy : w.cell? ⟨b, 1, none⟩ = some (.slice E k c)) (hr : Rd w B E k l) (hE : E = none → c = 0) (hkc : k ≤ c) (hk : k ≤ 140737488351232)
    (hn : s.length < 4398046511104) (hb : base ≤ w.heap.size) (hB : B ≤ base) :
    ∃ v' w', (Builtin.append_ #[55, 55] 55 #[v, .slice (some ⟨b, 0, none⟩) 1 1]).run Try.prog w = .ok v' w' ∧ OwnR w' base B v' (s ++ [(K, l)]) ∧ w.grownBy w' v.ownBlock ∧ (v'.ownBlock = v.ownBlock ∨ v'.ownBlock = some w.heap.size) := by
  have hblk := h.block
  obtain ⟨cs, h1, h2⟩ := h
  obtain ⟨i, hi, hz, e1, e2⟩ := info_parts infoO
  obtain ⟨v', w', hrun, h3, h4, _, h5⟩ := run_append_own_at (P := Try.prog) w base 55 55 70 i _ 2 32 Try.underlying55 hi hz e1 e2 rfl (by decide) v s.length cs h1 ⟨b, 0, none⟩ 1 1 [.int .i64 K, .slice E k c]
    rfl (fun j u hj => by
      rw [addr_add]
      match j, hj with
      | 0, hj => simp at hj; rw [← hj]; exact hx
      | 1, hj => simp at hj; rw [← hj]; exact hy
      | j + 2, hj => simp at hj) (by intro u hu; simp at hu; rcases hu with rfl | rfl <;> rfl) (by unfold maxLen; omega) (by omega) hb
  have hcl : cs.length = s.length * 2 := h1.1
  have hrow : ∀ g, v.ownBlock = some g → B ≤ g := fun g hg => by have := (hblk g hg).1; omega
  refine ⟨v', w', hrun, ⟨cs ++ [.int .i64 K, .slice E k c], by rw [List.length_append]; exact h3, fun j hj => ?_⟩, h4, h5⟩
  rcases Nat.lt_or_ge j s.length with hlt | hge
  · obtain ⟨a, E', k', c', b', hr', h6⟩ := h2 j hlt
    rw [List.getElem_append_left hlt, List.getElem?_append_left (by omega), List.getElem?_append_left (by omega)]
    exact ⟨a, E', k', c', b', hr'.grown h4 (by omega) hrow, h6⟩
  · have hj' : j = s.length := by simp at hj; omega
    subst hj'
    rw [List.getElem?_append_right (by omega), List.getElem?_append_right (by omega)]
    simp only [hcl, Nat.sub_self, show s.length * 2 + 1 - s.length * 2 = 1 by omega, List.getElem_concat_length]
    exact ⟨rfl, E, k, c, rfl, hr.grown h4 (by omega) hrow, hE, hkc, hk⟩
/-- two rows that are not one -/
def Apart (u v : Value) : Prop := u.ownBlock = none ∨ u.ownBlock ≠ v.ownBlock
theorem OwnL.grown {w w' : World} {base : Nat} {v : Value} {s : List Opt} {row : Option Nat} (h : OwnL w base v s) (hg : w.grownBy w' row) (hne : v.ownBlock = none ∨ v.ownBlock ≠ row) (hd : ∀ u l, Own w base u l → u.ownBlock = none ∨ u.ownBlock ≠ row) : OwnL w' base v s := by
  obtain ⟨cs, h1, h2⟩ := h
  refine ⟨cs, h1.grown hg hne, fun i hi => ?_⟩
  obtain ⟨a, E, k, c, b, ho⟩ := h2 i hi
  exact ⟨a, E, k, c, b, ho.grown hg (hd _ _ ho)⟩
theorem row_other {w : World} {base n : Nat} {v u : Value} {cs : List Value} {l : List UInt8} (h : OwnO w base v n cs) (b2 : Nat) (ho : Own w b2 u l) : u.ownBlock = none ∨ u.ownBlock ≠ v.ownBlock := own_other h ho

/-- where Judge's variables lie: the configuration, this end's options, the closure that tells repeats, its map; from base on lies what is new -/
structure JC where
  zc : Nat
  zm : Nat
  g : Nat
  m : Nat
  base : Nat
def JC.ok (x : JC) (B : Nat) : Prop := (B ≤ x.zc ∧ B ≤ x.zm ∧ B ≤ x.g ∧ B ≤ x.m) ∧ (x.zc < x.base ∧ x.zm < x.base ∧ x.g < x.base ∧ x.m < x.base) ∧ x.zc ≠ x.m ∧ x.zm ≠ x.m
def JJ (w V : World) (x : JC) (cv : Array Value) (o : LOpts) (a b c : Value) (R S N : List Opt) (ks : List Int) : Prop :=
  (Blk V x.zc 102 cv.toList ∧ Blk V x.zm 76 o.cells ∧ RepAt V x.g x.m ks) ∧ (OwnR V x.base w.heap.size a R ∧ OwnR V x.base w.heap.size b S ∧ OwnL V x.base c N) ∧ (Apart a b ∧ Apart b a ∧ Apart a c ∧ Apart c a ∧ Apart b c ∧ Apart c b) ∧ Below w.heap.size w V ∧ x.base ≤ V.heap.size
section
variable {w V V' : World} {x : JC} {cv : Array Value} {o : LOpts} {a b c : Value} {R S N : List Opt} {ks : List Int}
theorem ne_none {u : Value} : u.ownBlock = none ∨ u.ownBlock ≠ none := by
  rcases u.ownBlock with _ | g
  · exact .inl rfl
  · exact .inr (by simp)
/-- blocks below base but the map's, and rows, are kept -/
theorem JJ.keep (h : JJ w V x cv o a b c R S N ks) (hx : x.ok w.heap.size) {row : Option Nat} (hg : V.grownBy V' row) (hrow : ∀ q, row = some q → x.base ≤ q) (h1 : a.ownBlock = none ∨ a.ownBlock ≠ row) (h2 : b.ownBlock = none ∨ b.ownBlock ≠ row) (h3 : c.ownBlock = none ∨ c.ownBlock ≠ row) (hd : ∀ u l, Own V x.base u l → u.ownBlock = none ∨ u.ownBlock ≠ row) :
    JJ w V' x cv o a b c R S N ks := by
  obtain ⟨⟨k1, k2, k3⟩, ⟨r1, r2, r3⟩, ha, hB, hb⟩ := h
  obtain ⟨⟨b1, b2, b3, b4⟩, ⟨d1, d2, d3, d4⟩, d5, d6⟩ := hx
  have s := hB.size
  have lo : ∀ {i : Nat}, i < x.base → some i ≠ row := fun hi e => by have := hrow _ e.symm; omega
  refine ⟨⟨(hg.block _ k1.lt (lo d1)).trans k1, (hg.block _ k2.lt (lo d2)).trans k2, (hg.block _ k3.1.lt (lo d3)).trans k3.1, k3.2.1, k3.2.2.kept hg (lo d4)⟩,
    ⟨r1.grown hg h1 s (fun q e => by have := hrow q e; omega), r2.grown hg h2 s (fun q e => by have := hrow q e; omega), r3.grown hg h3 hd⟩, ha, hB.grown hg s (fun q e => by have := hrow q e; omega), Nat.le_trans hb hg.size⟩
theorem JJ.later (h : JJ w V x cv o a b c R S N ks) (hx : x.ok w.heap.size) (hB : Below V.heap.size V V') : JJ w V' x cv o a b c R S N ks :=
  h.keep hx (only_of_below hB none) (fun q e => by cases e) ne_none ne_none ne_none (fun u l _ => ne_none)
theorem JJ.met (h : JJ w V x cv o a b c R S N ks) (hx : x.ok w.heap.size) {ks' : List Int} (hg : V.grownBy V' (some x.m)) (hr : RepAt V' x.g x.m ks') : JJ w V' x cv o a b c R S N ks' := by
  obtain ⟨⟨k1, k2, k3⟩, ⟨r1, r2, r3⟩, ha, hB, hb⟩ := h
  obtain ⟨⟨b1, b2, b3, b4⟩, ⟨d1, d2, d3, d4⟩, d5, d6⟩ := hx
  have s := hB.size
  have hi : ∀ {u : Value}, (∀ k, u.ownBlock = some k → x.base ≤ k ∧ k < V.heap.size) → u.ownBlock = none ∨ u.ownBlock ≠ some x.m := fun {u} hu => by
    rcases e : u.ownBlock with _ | q
    · exact .inl rfl
    · have := hu q e
      exact .inr (fun e => by injection e; omega)
  refine ⟨⟨(hg.block _ k1.lt (fun e => d5 (by injection e))).trans k1, (hg.block _ k2.lt (fun e => d6 (by injection e))).trans k2, hr⟩,
    ⟨r1.grown hg (hi r1.block) s (fun q e => by injection e; omega), r2.grown hg (hi r2.block) s (fun q e => by injection e; omega), r3.grown hg (hi r3.block) (fun u l hu => hi hu.block)⟩, ha, hB.grown hg s (fun q e => by injection e; omega), Nat.le_trans hb hg.size⟩
theorem apart_new {u u' v : Value} {z : Nat} (h : Apart u v) (h2 : Apart v u) (hv : ∀ k, v.ownBlock = some k → k < z) (hu : u'.ownBlock = u.ownBlock ∨ u'.ownBlock = some z) : Apart u' v ∧ Apart v u' := by
  unfold Apart at *
  rcases hu with e | e
  · rw [e]; exact ⟨h, h2⟩
  · rw [e]
    rcases hv2 : v.ownBlock with _ | k
    · exact ⟨.inr (by simp), .inl rfl⟩
    · have := hv k hv2
      exact ⟨.inr (fun e => by injection e; omega), .inr (fun e => by injection e; omega)⟩
theorem JJ.low (h : JJ w V x cv o a b c R S N ks) (hx : x.ok w.heap.size) {row : Option Nat} (hg : V.grownBy V' row) (hrow : ∀ q, row = some q → x.base ≤ q) :
    (Blk V' x.zc 102 cv.toList ∧ Blk V' x.zm 76 o.cells ∧ RepAt V' x.g x.m ks) ∧ Below w.heap.size w V' ∧ x.base ≤ V'.heap.size := by
  obtain ⟨⟨k1, k2, k3⟩, _, _, hB, hb⟩ := h
  obtain ⟨⟨b1, b2, b3, b4⟩, ⟨d1, d2, d3, d4⟩, d5, d6⟩ := hx
  have lo : ∀ {i : Nat}, i < x.base → some i ≠ row := fun hi e => by have := hrow _ e.symm; omega
  exact ⟨⟨(hg.block _ k1.lt (lo d1)).trans k1, (hg.block _ k2.lt (lo d2)).trans k2, (hg.block _ k3.1.lt (lo d3)).trans k3.1, k3.2.1, k3.2.2.kept hg (lo d4)⟩, hB.grown hg hB.size (fun q e => by have := hrow q e; omega), Nat.le_trans hb hg.size⟩
/-- what an append onto one of the rows leaves of bytes of the call's own, and of low blocks -/
def Calm (V w' : World) (x : JC) : Prop := (∀ u l, Own V x.base u l → Own w' x.base u l) ∧ (∀ i t cs, Blk V i t cs → t ≠ 70 → Blk w' i t cs) ∧ V.heap.size ≤ w'.heap.size
theorem row_type {w : World} {base n : Nat} {v : Value} {cs : List Value} (h : OwnO w base v n cs) {i t : Nat} {ds : List Value} (hb : Blk w i t ds) (ht : t ≠ 70) : some i ≠ v.ownBlock := by
  rcases h.2 with ⟨rfl, _⟩ | ⟨g, cap, cur, rfl, _, hg, _⟩
  · simp [Value.ownBlock]
  · intro e
    simp only [Value.ownBlock, Option.some.injEq] at e
    subst e
    unfold Blk at hb
    rw [hb] at hg
    injection hg with hg
    injection hg with e1 e2 e3
    exact ht e2
/-- an option more that is refused -/
theorem JJ.refuse (h : JJ w V x cv o a b c R S N ks) (hx : x.ok w.heap.size) (K : Int) (E : Option Addr) (k d : Nat) (l : List UInt8) (hr : Rd V w.heap.size E k l) (hE : E = none → d = 0) (hkc : k ≤ d) (hk : k ≤ 140737488351232) (hn : R.length < 4398046511104) :
    ∃ a' w', (Builtin.append_ #[55, 55] 55 #[a, .slice (some ⟨V.heap.size, 0, none⟩) 1 1]).run Try.prog (V.alloc (.cells #[.int .i64 K, .slice E k d] 70)) = .ok a' w' ∧ JJ w w' x cv o a' b c (R ++ [(K, l)]) S N ks := by
  have B1 : Below V.heap.size V (V.alloc (.cells #[.int .i64 K, .slice E k d] 70)) := (Below.refl _ _).alloc (Nat.le_refl _) _
  have k1 := blk_new V 70 [.int .i64 K, .slice E k d]
  have hs := h.2.2.2.2
  have hBw := h.2.2.2.1
  have h1 := h.later hx B1
  have hxb := hx
  obtain ⟨⟨b1, b2, b3, b4⟩, ⟨d1, d2, d3, d4⟩, d5, d6⟩ := hxb
  generalize hW : V.alloc (.cells #[.int .i64 K, .slice E k d] 70) = V1 at *
  have hs1 := h1.2.2.2.1.size
  obtain ⟨a', w', hrun, r1, hg, hl⟩ := appR_run h1.2.1.1 V.heap.size K E k d l (k1.cell 0) (k1.cell 1) (hr.below (B1.mono hBw.size)) hE hkc hk hn h1.2.2.2.2 (by omega)
  obtain ⟨ab, ba, ac, ca, bc, cb⟩ := h1.2.2.1
  obtain ⟨cs, q1, _⟩ := h1.2.1.1
  have hrow : ∀ q, a.ownBlock = some q → x.base ≤ q := fun q e => (q1.block q e).1
  obtain ⟨p1, p2, p3⟩ := h1.low hx hg hrow
  obtain ⟨n1, n2⟩ := apart_new ab ba (fun k e => (h1.2.1.2.1.block k e).2) hl
  obtain ⟨n3, n4⟩ := apart_new ac ca (fun k e => (h1.2.1.2.2.block k e).2) hl
  exact ⟨a', w', hrun, p1, ⟨r1, h1.2.1.2.1.grown hg ba hs1 (fun q e => by have := hrow q e; omega), h1.2.1.2.2.grown hg ca (fun u l hu => own_other q1 hu)⟩, ⟨n1, n2, n3, n4, bc, cb⟩, p2, p3⟩
/-- an option more that would be borne with other data -/
theorem JJ.stand (h : JJ w V x cv o a b c R S N ks) (hx : x.ok w.heap.size) (K : Int) (E : Option Addr) (k d : Nat) (l : List UInt8) (hr : Rd V w.heap.size E k l) (hE : E = none → d = 0) (hkc : k ≤ d) (hk : k ≤ 140737488351232) (hn : S.length < 4398046511104) :
    ∃ b' w', (Builtin.append_ #[55, 55] 55 #[b, .slice (some ⟨V.heap.size, 0, none⟩) 1 1]).run Try.prog (V.alloc (.cells #[.int .i64 K, .slice E k d] 70)) = .ok b' w' ∧ JJ w w' x cv o a b' c R (S ++ [(K, l)]) N ks ∧
      (∀ i cs, Blk V i 52 cs → Blk w' i 52 cs) ∧ (∀ zb cs, Blk V zb 70 cs → b.ownBlock ≠ some zb → Blk w' zb 70 cs) ∧ (∀ u l', Own V x.base u l' → Own w' x.base u l') := by
  have B1 : Below V.heap.size V (V.alloc (.cells #[.int .i64 K, .slice E k d] 70)) := (Below.refl _ _).alloc (Nat.le_refl _) _
  have k1 := blk_new V 70 [.int .i64 K, .slice E k d]
  have hs := h.2.2.2.2
  have hBw := h.2.2.2.1
  have h1 := h.later hx B1
  have hxb := hx
  obtain ⟨⟨b1, b2, b3, b4⟩, ⟨d1, d2, d3, d4⟩, d5, d6⟩ := hxb
  generalize hW : V.alloc (.cells #[.int .i64 K, .slice E k d] 70) = V1 at *
  have hs1 := h1.2.2.2.1.size
  obtain ⟨b', w', hrun, r1, hg, hl⟩ := appR_run h1.2.1.2.1 V.heap.size K E k d l (k1.cell 0) (k1.cell 1) (hr.below (B1.mono hBw.size)) hE hkc hk hn h1.2.2.2.2 (by omega)
  obtain ⟨ab, ba, ac, ca, bc, cb⟩ := h1.2.2.1
  obtain ⟨cs, q1, _⟩ := h1.2.1.2.1
  have hrow : ∀ q, b.ownBlock = some q → x.base ≤ q := fun q e => (q1.block q e).1
  obtain ⟨p1, p2, p3⟩ := h1.low hx hg hrow
  obtain ⟨n1, n2⟩ := apart_new ba ab (fun k e => (h1.2.1.1.block k e).2) hl
  obtain ⟨n3, n4⟩ := apart_new bc cb (fun k e => (h1.2.1.2.2.block k e).2) hl
  refine ⟨b', w', hrun, ⟨p1, ⟨h1.2.1.1.grown hg ab hs1 (fun q e => by have := hrow q e; omega), r1, h1.2.1.2.2.grown hg cb (fun u l hu => own_other q1 hu)⟩, ⟨n2, n1, ac, ca, n3, n4⟩, p2, p3⟩, fun i ds hb => ?_, fun zb ds hb hne => ?_, fun u l' hu => ?_⟩
  · have hb1 : Blk V1 i 52 ds := (B1.block i hb.lt).trans hb
    exact (hg.block i hb1.lt (row_type q1 hb1 (by decide))).trans hb1
  · have hb1 : Blk V1 zb 70 ds := (B1.block zb hb.lt).trans hb
    exact (hg.block zb hb1.lt (fun e => hne e.symm)).trans hb1
  · have hu1 := hu.later B1
    exact hu1.grown hg (own_other q1 hu1)
/-- .. and those other data -/
theorem JJ.nak (h : JJ w V x cv o a b c R S N ks) (hx : x.ok w.heap.size) (K : Int) (E : Option Addr) (k d : Nat) (l : List UInt8) (ho : Own V x.base (.slice E k d) l) (hn : N.length < 4398046511104) :
    ∃ c' w', (Builtin.append_ #[55, 55] 55 #[c, .slice (some ⟨V.heap.size, 0, none⟩) 1 1]).run Try.prog (V.alloc (.cells #[.int .i64 K, .slice E k d] 70)) = .ok c' w' ∧ JJ w w' x cv o a b c' R S (N ++ [(K, l)]) ks := by
  have B1 : Below V.heap.size V (V.alloc (.cells #[.int .i64 K, .slice E k d] 70)) := (Below.refl _ _).alloc (Nat.le_refl _) _
  have k1 := blk_new V 70 [.int .i64 K, .slice E k d]
  have h1 := h.later hx B1
  have hxb := hx
  obtain ⟨⟨b1, b2, b3, b4⟩, ⟨d1, d2, d3, d4⟩, d5, d6⟩ := hxb
  have ho1 := ho.later B1
  generalize hW : V.alloc (.cells #[.int .i64 K, .slice E k d] 70) = V1 at *
  have hs1 := h1.2.2.2.1.size
  obtain ⟨c', w', hrun, r1, hg, hl⟩ := appL_run h1.2.1.2.2 V.heap.size K E k d l (k1.cell 0) (k1.cell 1) ho1 hn h1.2.2.2.2
  obtain ⟨ab, ba, ac, ca, bc, cb⟩ := h1.2.2.1
  have hrow : ∀ q, c.ownBlock = some q → x.base ≤ q := fun q e => (h1.2.1.2.2.block q e).1
  obtain ⟨p1, p2, p3⟩ := h1.low hx hg hrow
  obtain ⟨n1, n2⟩ := apart_new ca ac (fun k e => (h1.2.1.1.block k e).2) hl
  obtain ⟨n3, n4⟩ := apart_new cb bc (fun k e => (h1.2.1.2.1.block k e).2) hl
  exact ⟨c', w', hrun, p1, ⟨h1.2.1.1.grown hg ac hs1 (fun q e => by have := hrow q e; omega), h1.2.1.2.1.grown hg bc hs1 (fun q e => by have := hrow q e; omega), r1⟩, ⟨ab, ba, n2, n1, n4, n3⟩, p2, p3⟩
end
end Go.Proofs.Ytonbdcajepmgbaa
namespace Go.Proofs.Ytonbdcajepmgbaa
open Go.RowKit
set_option maxRecDepth 100000
set_option maxHeartbeats 4000000
set_option linter.unusedSimpArgs false
set_option linter.unusedVariables false

def J1Post (W : World) (to td : Nat) (r : Option (List UInt8 × Bool)) (e : Ending) (w' : World) : Prop :=
  (∃ F j q o d w2, r = some (o, d) ∧ e = .returned (.tuple #[]) ∧ Below W.heap.size W w2 ∧ Own w2 W.heap.size (.slice F j q) o ∧ (w2.setCell ⟨to, 0, none⟩ (.slice F j q)).setCell ⟨td, 0, none⟩ (.bool d) = w') ∨ (r = none ∧ e = .panicked thrown ∧ Below W.heap.size W w')
theorem judge1_any (f : Nat) (caps : Array Value) (zb tb to td : Nat) (E : Option Addr) (kk cc : Nat) (r : Option (List UInt8 × Bool)) (W : World) (hcf : ∀ X, (callFunc f (#[.slice E kk cc] ++ caps)).run Try.prog X = .ok (.enter f (#[.slice E kk cc] ++ caps)) X)
    (ht : W.cell? ⟨tb, 0, none⟩ = some (.func (.func f) #[] caps)) (hd : W.cell? ⟨zb, 1, none⟩ = some (.slice E kk cc)) (hto : Blk W to 52 [.slice none 0 0]) (htd : Blk W td 4 [.bool false]) (hne : to ≠ td)
    (hC : Calls Try.prog f (#[.slice E kk cc] ++ caps) W fun e w' => BPost W r e w') :
    Calls Try.prog 115 #[.pointer (some ⟨tb, 0, none⟩), .pointer (some ⟨zb, 0, none⟩), .pointer (some ⟨to, 0, none⟩), .pointer (some ⟨td, 0, none⟩)] W fun e w' => J1Post W to td r e w' := by
  go_enter Try.func115, Try.ntmps115
  go_wp2_with fail
  refine hC.mono ?_
  rintro e w2 ⟨hB, ⟨F, j, q, o, d, hr, rfl, ho⟩ | ⟨hr, rfl⟩⟩
  · have bo := (hB.block _ hto.lt).trans hto
    have bd := (hB.block _ htd.lt).trans htd
    have x0 : w2.cell? ⟨to, 0, none⟩ = some (.slice none 0 0) := Blk.cell bo 0
    have x1 : w2.cell? ⟨td, 0, none⟩ = some (.bool false) := Blk.cell bd 0
    have f0 : w2.frozen? ⟨to, 0, none⟩ = false := Blk.frozen bo 0
    have f1 : w2.frozen? ⟨td, 0, none⟩ = false := Blk.frozen bd 0
    have HN := Lib.hid (And.intro hr (And.intro hB ho))
    clear hr hB ho bo bd hto htd hC
    go_wp2
    go_end0
    exact .inl ⟨F, j, q, o, d, w2, HN.out.1, rfl, HN.out.2.1, HN.out.2.2, rfl⟩
  · exact ⟨rfl, .inr ⟨hr, rfl, hB⟩⟩
end Go.Proofs.Ytonbdcajepmgbaa
namespace Go.Proofs.Ytonbdcajepmgbaa
open Go.RowKit
set_option maxRecDepth 100000
set_option maxHeartbeats 4000000
set_option linter.unusedSimpArgs false
set_option linter.unusedVariables false

theorem blk_one {w : World} {i t t2 : Nat} {cs ds : List Value} (h : Blk w i t cs) (k : Blk w i t2 ds) : t = t2 := by
  unfold Blk at h k
  rw [h] at k
  injection k with e
  injection e with e1 e2
theorem own_type {w : World} {base : Nat} {u : Value} {l : List UInt8} (h : Own w base u l) {i t : Nat} {ds : List Value} (hb : Blk w i t ds) (ht : t ≠ 5) : u.ownBlock = none ∨ u.ownBlock ≠ some i := by
  rcases h.2 with ⟨rfl, _⟩ | ⟨g, cap, cur, rfl, _, hg, _⟩
  · exact .inl rfl
  · refine .inr fun e => ?_
    simp only [Value.ownBlock, Option.some.injEq] at e
    subst e
    unfold Blk at hb
    rw [hb] at hg
    injection hg with hg
    injection hg with e1 e2 e3
    exact ht e2
theorem row_box {w : World} {base B : Nat} {v : Value} {s : List Opt} (h : OwnR w base B v s) {i t : Nat} {ds : List Value} (hb : Blk w i t ds) (ht : t ≠ 70) : v.ownBlock = none ∨ v.ownBlock ≠ some i := by
  obtain ⟨cs, h1, _⟩ := h
  exact .inr (fun e => row_type h1 hb ht e.symm)
theorem rowL_box {w : World} {base : Nat} {v : Value} {s : List Opt} (h : OwnL w base v s) {i t : Nat} {ds : List Value} (hb : Blk w i t ds) (ht : t ≠ 70) : v.ownBlock = none ∨ v.ownBlock ≠ some i := by
  obtain ⟨cs, h1, _⟩ := h
  exact .inr (fun e => row_type h1 hb ht e.symm)
section
variable {w V V' : World} {x : JC} {cv : Array Value} {o : LOpts} {a b c : Value} {R S N : List Opt} {ks : List Int}
/-- a variable of the round's own is written -/
theorem JJ.box (h : JJ w V x cv o a b c R S N ks) (hx : x.ok w.heap.size) {i t : Nat} {ds : List Value} (hb : Blk V i t ds) (h1 : t ≠ 70) (h2 : t ≠ 5) (hi : x.base ≤ i) (v : Value) : JJ w (V.setCell ⟨i, 0, none⟩ v) x cv o a b c R S N ks :=
  h.keep hx (only_set (p := ⟨i, 0, none⟩) _) (fun q e => by injection e with e; exact e ▸ hi) (row_box h.2.1.1 hb h1) (row_box h.2.1.2.1 hb h1) (rowL_box h.2.1.2.2 hb h1) (fun u l hu => own_type hu hb h2)
/-- what a type, met already or not, and an option's data come to -/
inductive Fate where
  | refused
  | borne
  | other (d : List UInt8)
/-- the round's world where the option is refused -/
def JRef (w V : World) (x : JC) (cv : Array Value) (o : LOpts) (a b c : Value) (R S N : List Opt) (ks : List Int) (zb : Nat) (K : Int) (E : Option Addr) (kk d : Nat) (l : List UInt8) : Prop :=
  (V.cell? ⟨zb, 0, none⟩ = some (.int .i64 K) ∧ V.cell? ⟨zb, 1, none⟩ = some (.slice E kk d)) ∧
    ∃ A n q w', (Builtin.append_ #[55, 55] 55 #[a, .slice (some ⟨V.heap.size, 0, none⟩) 1 1]).run Try.prog (V.alloc (.cells #[.int .i64 K, .slice E kk d] 70)) = .ok (.slice A n q) w' ∧ JJ w w' x cv o (.slice A n q) b c (R ++ [(K, l)]) S N ks
theorem JJ.ref (h : JJ w V x cv o a b c R S N ks) (hx : x.ok w.heap.size) (zb : Nat) (K : Int) (E : Option Addr) (kk d : Nat) (l : List UInt8) (hb : Blk V zb 70 [.int .i64 K, .slice E kk d]) (hr : Rd V w.heap.size E kk l) (hE : E = none → d = 0) (hkc : kk ≤ d) (hk : kk ≤ 140737488351232) (hn : R.length < 4398046511104) :
    JRef w V x cv o a b c R S N ks zb K E kk d l := by
  obtain ⟨a', w', h1, h2⟩ := h.refuse hx K E kk d l hr hE hkc hk hn
  obtain ⟨A, q, rfl⟩ := h2.2.1.1.shape
  exact ⟨⟨hb.cell 0, hb.cell 1⟩, A, _, q, w', h1, h2⟩
/-- .. where it is told with other data -/
def JOth (w V : World) (x : JC) (cv : Array Value) (o : LOpts) (a b c : Value) (R S N : List Opt) (ks : List Int) (zb to : Nat) (K : Int) (E : Option Addr) (kk d : Nat) (l r : List UInt8) : Prop :=
  (V.cell? ⟨zb, 0, none⟩ = some (.int .i64 K) ∧ V.cell? ⟨zb, 1, none⟩ = some (.slice E kk d)) ∧
    ∃ A n q w', (Builtin.append_ #[55, 55] 55 #[b, .slice (some ⟨V.heap.size, 0, none⟩) 1 1]).run Try.prog (V.alloc (.cells #[.int .i64 K, .slice E kk d] 70)) = .ok (.slice A n q) w' ∧
      w'.cell? ⟨zb, 0, none⟩ = some (.int .i64 K) ∧ ∃ F j f, w'.cell? ⟨to, 0, none⟩ = some (.slice F j f) ∧
        ∃ A2 n2 q2 w2, (Builtin.append_ #[55, 55] 55 #[c, .slice (some ⟨w'.heap.size, 0, none⟩) 1 1]).run Try.prog (w'.alloc (.cells #[.int .i64 K, .slice F j f] 70)) = .ok (.slice A2 n2 q2) w2 ∧
          JJ w w2 x cv o a (.slice A n q) (.slice A2 n2 q2) R (S ++ [(K, l)]) (N ++ [(K, r)]) ks
theorem JJ.oth (h : JJ w V x cv o a b c R S N ks) (hx : x.ok w.heap.size) (zb to : Nat) (K : Int) (E : Option Addr) (kk d : Nat) (l r : List UInt8) (hb : Blk V zb 70 [.int .i64 K, .slice E kk d]) (hzb : b.ownBlock ≠ some zb) (F : Option Addr) (j f : Nat) (hto : Blk V to 52 [.slice F j f]) (ho : Own V x.base (.slice F j f) r)
    (hr : Rd V w.heap.size E kk l) (hE : E = none → d = 0) (hkc : kk ≤ d) (hk : kk ≤ 140737488351232) (hn : S.length < 4398046511104) (hn2 : N.length < 4398046511104) : JOth w V x cv o a b c R S N ks zb to K E kk d l r := by
  obtain ⟨b', w', h1, h2, h3, h4, h5⟩ := h.stand hx K E kk d l hr hE hkc hk hn
  obtain ⟨A, q, rfl⟩ := h2.2.1.2.1.shape
  obtain ⟨c', w2, g1, g2⟩ := h2.nak hx K F j f r (h5 _ _ ho) hn2
  obtain ⟨A2, q2, rfl⟩ := g2.2.1.2.2.shape
  exact ⟨⟨hb.cell 0, hb.cell 1⟩, A, _, q, w', h1, (h4 zb _ hb hzb).cell 0, F, j, f, (h3 to _ hto).cell 0, A2, _, q2, w2, g1, g2⟩
/-- behind holds -/
def JHeld (w : World) (x : JC) (cv : Array Value) (o : LOpts) (a b c : Value) (R S N : List Opt) (ks : List Int) (zb to td : Nat) (K : Int) (E : Option Addr) (kk d : Nat) (l : List UInt8) (r : Option (List UInt8 × Bool)) (e : Ending) (W7 : World) : Prop :=
  (r = none ∧ e = .returned (.bool false) ∧ JRef w W7 x cv o a b c R S N ks zb K E kk d l) ∨
    (∃ u t, r = some (u, t) ∧ e = .returned (.bool true) ∧ W7.cell? ⟨td, 0, none⟩ = some (.bool t) ∧ ((t = false ∧ JJ w W7 x cv o a b c R S N ks) ∨ (t = true ∧ JOth w W7 x cv o a b c R S N ks zb to K E kk d l u)))
theorem j_held (h : JJ w V x cv o a b c R S N ks) (hx : x.ok w.heap.size) (f : Nat) (caps : Array Value) (zb tb to td : Nat) (K : Int) (E : Option Addr) (kk d : Nat) (l : List UInt8) (r : Option (List UInt8 × Bool)) (hen : Enters Try.prog f)
    (htb : Blk V tb 155 [.func (.func f) #[] caps]) (hzb : Blk V zb 70 [.int .i64 K, .slice E kk d]) (hto : Blk V to 52 [.slice none 0 0]) (htd : Blk V td 4 [.bool false]) (hb1 : x.base ≤ to) (hb2 : x.base ≤ td) (hb3 : b.ownBlock ≠ some zb) (hne : to ≠ td)
    (hC : Calls Try.prog f (#[.slice E kk d] ++ caps) (V.alloc (.cells #[.bool false] 4)) fun e w' => BPost (V.alloc (.cells #[.bool false] 4)) r e w')
    (hr : Rd V w.heap.size E kk l) (hE : E = none → d = 0) (hkc : kk ≤ d) (hk : kk ≤ 140737488351232) (hnR : R.length < 4398046511104) (hnS : S.length < 4398046511104) (hnN : N.length < 4398046511104) :
    Calls Try.prog 104 #[.func (.func 115) #[] #[.pointer (some ⟨tb, 0, none⟩), .pointer (some ⟨zb, 0, none⟩), .pointer (some ⟨to, 0, none⟩), .pointer (some ⟨td, 0, none⟩)]] V fun e w' => JHeld w x cv o a b c R S N ks zb to td K E kk d l r e w' := by
  have B1 : Below V.heap.size V (V.alloc (.cells #[.bool false] 4)) := (Below.refl _ _).alloc (Nat.le_refl _) _
  have kr := blk_new V 4 [.bool false]
  have hs := h.2.2.2.2
  have hBw := h.2.2.2.1.size
  have h1 := h.later hx B1
  have s1 : (V.alloc (.cells #[.bool false] 4)).heap.size = V.heap.size + 1 := by simp
  have tb1 := (B1.block _ htb.lt).trans htb
  have zb1 := (B1.block _ hzb.lt).trans hzb
  have to1 := (B1.block _ hto.lt).trans hto
  have td1 := (B1.block _ htd.lt).trans htd
  have hr1 := hr.below (B1.mono hBw)
  have hwb : w.heap.size ≤ x.base := by have := hx.1.1; have := hx.2.1.1; omega
  have lto := hto.lt
  have ltd := htd.lt
  have lzb := hzb.lt
  have J := judge1_any f caps zb tb to td E kk d r (V.alloc (.cells #[.bool false] 4)) (hen _) (Blk.cell tb1 0) (Blk.cell zb1 1) to1 td1 hne hC
  refine (holds_any _ _ V (fun t W => JJ w W x cv o a b c R S N ks ∧ Blk W zb 70 [.int .i64 K, .slice E kk d] ∧ Rd W w.heap.size E kk l ∧ Blk W V.heap.size 4 [.bool false] ∧ ((t = false ∧ r = none) ∨ (t = true ∧ ∃ F j q u y, r = some (u, y) ∧ Blk W to 52 [.slice F j q] ∧ Blk W td 4 [.bool y] ∧ Own W x.base (.slice F j q) u)))
    (func_enters _ (enters_of Try.func115 (by kernel_rfl) rfl) _) (J.mono ?_)).mono ?_
  · rintro e w' (⟨F, j, q, u, y, w2, hr2, rfl, hB, ho, rfl⟩ | ⟨hr2, rfl, hB⟩)
    · have h2 := h1.later hx hB
      have to2 := (hB.block _ (by omega)).trans to1
      have td2 := (hB.block _ (by omega)).trans td1
      have zb2 := (hB.block _ (by omega)).trans zb1
      have kr2 := (hB.block _ (by omega)).trans kr
      have h3 := h2.box hx to2 (by decide) (by decide) hb1 (.slice F j q)
      have g3 : w2.grownBy (w2.setCell ⟨to, 0, none⟩ (.slice F j q)) (some to) := only_set (p := ⟨to, 0, none⟩) _
      have to3 : Blk (w2.setCell ⟨to, 0, none⟩ (.slice F j q)) to 52 [.slice F j q] := Blk.set_ to2 0 _
      have td3 : Blk (w2.setCell ⟨to, 0, none⟩ (.slice F j q)) td 4 [.bool false] := (g3.block _ (Blk.lt td2) (fun e => hne (by injection e with e; exact e.symm))).trans td2
      have zb3 : Blk (w2.setCell ⟨to, 0, none⟩ (.slice F j q)) zb 70 [.int .i64 K, .slice E kk d] := by
        refine (g3.block _ (Blk.lt zb2) (fun e => ?_)).trans zb2
        injection e with e
        exact absurd (blk_one (e ▸ zb2) to2) (by decide)
      have kr3 : Blk (w2.setCell ⟨to, 0, none⟩ (.slice F j q)) V.heap.size 4 [.bool false] := (g3.block _ (Blk.lt kr2) (fun e => by injection e; omega)).trans kr2
      have ho2 : Own w2 x.base (.slice F j q) u := ho.base_le (by omega)
      have ho3 := ho2.grown g3 (own_type ho2 to2 (by decide))
      have h4 := h3.box hx td3 (by decide) (by decide) hb2 (.bool y)
      have g4 : (w2.setCell ⟨to, 0, none⟩ (.slice F j q)).grownBy ((w2.setCell ⟨to, 0, none⟩ (.slice F j q)).setCell ⟨td, 0, none⟩ (.bool y)) (some td) := only_set (p := ⟨td, 0, none⟩) _
      have zb4 : Blk ((w2.setCell ⟨to, 0, none⟩ (.slice F j q)).setCell ⟨td, 0, none⟩ (.bool y)) zb 70 [.int .i64 K, .slice E kk d] := by
        refine (g4.block _ (Blk.lt zb3) (fun e => ?_)).trans zb3
        injection e with e
        exact absurd (blk_one (e ▸ zb3) td3) (by decide)
      have rr : Rd ((w2.setCell ⟨to, 0, none⟩ (.slice F j q)).setCell ⟨td, 0, none⟩ (.bool y)) w.heap.size E kk l :=
        ((hr1.below (hB.mono (by omega))).grown g3 (by have := hB.size; omega) (fun g e => by injection e with e; rw [← e]; omega)).grown g4 (by have := hB.size; have := g3.size; omega) (fun g e => by injection e with e; rw [← e]; omega)
      have kr4 := (g4.block _ (Blk.lt kr3) (fun e => by injection e; omega)).trans kr3
      exact ⟨kr4, .inl ⟨rfl, h4, zb4, rr, kr4, .inr ⟨rfl, F, j, q, u, y, hr2, (g4.block _ (Blk.lt to3) (fun e => hne (by injection e))).trans to3, Blk.set_ td3 0 _, ho3.grown g4 (own_type ho3 td3 (by decide))⟩⟩⟩
    · have kr2 := (hB.block _ (by omega)).trans kr
      exact ⟨kr2, .inr ⟨rfl, h1.later hx hB, (hB.block _ (by omega)).trans zb1, hr1.below (hB.mono (by omega)), kr2, .inl ⟨rfl, hr2⟩⟩⟩
  · rintro e w8 ⟨t, w7, rfl, ⟨h7, zb7, hr7, kr7, hres⟩, rfl⟩
    have h8 := h7.box hx kr7 (by decide) (by decide) hs (.bool t)
    have g8 : w7.grownBy (w7.setCell ⟨V.heap.size, 0, none⟩ (.bool t)) (some V.heap.size) := only_set (p := ⟨V.heap.size, 0, none⟩) _
    have zb8 := (g8.block _ zb7.lt (fun e => by injection e; omega)).trans zb7
    have hr8 := hr7.grown g8 (by have := h7.2.2.2.1.size; omega) (fun g e => by injection e with e; rw [← e]; omega)
    rcases hres with ⟨rfl, hr2⟩ | ⟨rfl, F, j, q, u, y, hr2, to7, td7, ho7⟩
    · exact .inl ⟨hr2, rfl, h8.ref hx zb K E kk d l zb8 hr8 hE hkc hk hnR⟩
    · have to8 := (g8.block _ to7.lt (fun e => by injection e; omega)).trans to7
      have td8 := (g8.block _ td7.lt (fun e => by injection e; omega)).trans td7
      have ho8 := ho7.grown g8 (own_type ho7 kr7 (by decide))
      refine .inr ⟨u, y, hr2, rfl, Blk.cell td8 0, ?_⟩
      cases y
      · exact .inl ⟨rfl, h8⟩
      · exact .inr ⟨rfl, h8.oth hx zb to K E kk d l u zb8 hb3 F j q to8 ho8 hr8 hE hkc hk hnS hnN⟩
end
end Go.Proofs.Ytonbdcajepmgbaa
namespace Go.Proofs.Ytonbdcajepmgbaa
open Go.RowKit
set_option maxRecDepth 100000
set_option maxHeartbeats 4000000
set_option linter.unusedSimpArgs false
set_option linter.unusedVariables false

section
variable {w V : World} {x : JC} {cv : Array Value} {o : LOpts} {a b c : Value} {R S N : List Opt} {ks : List Int}
theorem kept_conf {B : Nat} {cc : CV} {W : World} (h : ConfAt w B cv cc) (hk : ∀ i, i < B → W.heap[i]? = w.heap[i]?) : ConfAt W B cv cc := by
  obtain ⟨h1, ⟨A, m, d, h2, h3, h4⟩, h5⟩ := h
  exact ⟨h1, ⟨A, m, d, h2, h3.kept fun p hp => World.cell?_of_block (hk p.block hp), h4⟩, h5⟩
def JRound (w V : World) (x : JC) (cv : Array Value) (o : LOpts) (a b c : Value) (R S N : List Opt) (ks : List Int) (K : Int) (E : Option Addr) (kk d : Nat) (l : List UInt8) (cc : CV) (magic : Int) : Prop :=
  Calls Try.prog 114 #[.int .i64 K, .agg cv, .agg #[.int .i64 o.mru, .int .i64 o.accm, .int .i64 o.auth, .int .u32 o.magic, .bool o.pfc, .bool o.acfc], .int .u32 magic] (V.alloc (.cells #[.int .i64 K, .slice E kk d] 70)) fun e W2 => ∃ f caps, e = .returned (.func (.func f) #[] caps) ∧
    (((W2.alloc (.cells #[.func (.func f) #[] caps] 155)).alloc (.cells #[.slice none 0 0] 52)).alloc (.cells #[.bool false] 4)).cell? ⟨V.heap.size, 0, none⟩ = some (.int .i64 K) ∧
    Calls Try.prog 136 #[.int .i64 K, .pointer (some ⟨x.g, 0, none⟩)] (((W2.alloc (.cells #[.func (.func f) #[] caps] 155)).alloc (.cells #[.slice none 0 0] 52)).alloc (.cells #[.bool false] 4)) fun e W6 => e = .returned (.bool (ks.contains K)) ∧
      (ks.contains K = true → JRef w W6 x cv o a b c R S N (ks ++ [K]) V.heap.size K E kk d l) ∧
      (ks.contains K = false → Calls Try.prog 104 #[.func (.func 115) #[] #[.pointer (some ⟨W2.heap.size, 0, none⟩), .pointer (some ⟨V.heap.size, 0, none⟩), .pointer (some ⟨W2.heap.size + 1, 0, none⟩), .pointer (some ⟨W2.heap.size + 1 + 1, 0, none⟩)]] W6 fun e W7 =>
        JHeld w x cv o a b c R S N (ks ++ [K]) V.heap.size (W2.heap.size + 1) (W2.heap.size + 1 + 1) K E kk d l (bears cc o magic K l) e W7)
theorem j_round (h : JJ w V x cv o a b c R S N ks) (hx : x.ok w.heap.size) (cc : CV) (magic : Int) (hcf : ConfAt w w.heap.size cv cc) (hmag : 0 ≤ magic ∧ magic < 4294967296) (K : Int) (E : Option Addr) (kk d : Nat) (l : List UInt8) (hK : -9223372036854775808 ≤ K ∧ K ≤ 9223372036854775807)
    (hr : Rd w w.heap.size E kk l) (hE : E = none → d = 0) (hkc : kk ≤ d) (hk : kk ≤ 140737488351232) (hnk : ks.length ≤ 4611686018427387904) (hnR : R.length < 4398046511104) (hnS : S.length < 4398046511104) (hnN : N.length < 4398046511104) :
    JRound w V x cv o a b c R S N ks K E kk d l cc magic := by
  obtain ⟨W1, hW1⟩ : ∃ W1, W1 = V.alloc (.cells #[.int .i64 K, .slice E kk d] 70) := ⟨_, rfl⟩
  have B1 : Below V.heap.size V W1 := by rw [hW1]; exact (Below.refl _ _).alloc (Nat.le_refl _) _
  have s1 : W1.heap.size = V.heap.size + 1 := by rw [hW1]; simp
  have zb1 : Blk W1 V.heap.size 70 [.int .i64 K, .slice E kk d] := by rw [hW1]; exact blk_new V _ _
  have hs := h.2.2.2.2
  have hBw := h.2.2.2.1
  have hws := hBw.size
  have hwb : w.heap.size ≤ x.base := by have := hx.1.1; have := hx.2.1.1; omega
  have h1 := h.later hx B1
  have Bw1 : Below w.heap.size w W1 := hBw.trans (B1.mono hws)
  have cf1 : ConfAt W1 w.heap.size cv cc := kept_conf hcf fun i hi => Bw1.block i hi
  have hbb : b.ownBlock ≠ some V.heap.size := fun e => by have := (h.2.1.2.1.block _ e).2; omega
  unfold JRound
  rw [← hW1]
  clear hW1
  refine (bearing_any K cv cc o magic W1 w.heap.size cf1 hmag).mono ?_
  rintro e W2 ⟨f, caps, rfl, B2, hen, hbe⟩
  have s2 := B2.size
  obtain ⟨W5, hW5⟩ : ∃ W5, W5 = ((W2.alloc (.cells #[.func (.func f) #[] caps] 155)).alloc (.cells #[.slice none 0 0] 52)).alloc (.cells #[.bool false] 4) := ⟨_, rfl⟩
  have B5 : Below W2.heap.size W2 W5 := by rw [hW5]; exact (((Below.refl _ _).alloc (Nat.le_refl _) _).alloc (by simp) _).alloc (by simp; omega) _
  have s5 : W5.heap.size = W2.heap.size + 3 := by rw [hW5]; simp
  have kb5 : Blk W5 W2.heap.size 155 [.func (.func f) #[] caps] := by
    rw [hW5]
    exact (Below.heap_alloc _ _ _ (by simp; omega)).trans ((Below.heap_alloc _ _ _ (by simp)).trans (blk_new W2 _ _))
  have ko5 : Blk W5 (W2.heap.size + 1) 52 [.slice none 0 0] := by
    rw [hW5]
    have h := blk_new (W2.alloc (.cells #[.func (.func f) #[] caps] 155)) 52 [.slice none 0 0]
    rw [World.size_alloc] at h
    exact (Below.heap_alloc _ _ _ (by simp)).trans h
  have kd5 : Blk W5 (W2.heap.size + 1 + 1) 4 [.bool false] := by
    rw [hW5]
    have h := blk_new ((W2.alloc (.cells #[.func (.func f) #[] caps] 155)).alloc (.cells #[.slice none 0 0] 52)) 4 [.bool false]
    rw [World.size_alloc, World.size_alloc] at h
    exact h
  have B15 : Below W1.heap.size W1 W5 := B2.trans (B5.mono s2)
  have h5 := h1.later hx B15
  have zb5 := (B15.block _ (by omega)).trans zb1
  refine ⟨f, caps, rfl, ?_, ?_⟩
  · rw [← hW5]; exact Blk.cell zb5 0
  rw [← hW5]
  clear hW5
  refine (again_any K x.g x.m ks W5 h5.1.2.2 hK hnk).mono ?_
  rintro e W6 ⟨rfl, hrep, hg⟩
  have h6 := h5.met hx hg hrep
  have s6 := hg.size
  have hmb := hx.2.1.2.2.2
  have kp : ∀ {i t : Nat} {cs : List Value}, x.base ≤ i → Blk W5 i t cs → Blk W6 i t cs := fun hi hb => (hg.block _ hb.lt (fun e => by injection e; omega)).trans hb
  have zb6 := kp (i := V.heap.size) (by omega) zb5
  have Bw6 := h6.2.2.2.1
  have hr6 := hr.below Bw6
  refine ⟨rfl, fun _ => h6.ref hx _ K E kk d l zb6 hr6 hE hkc hk hnR, fun _ => ?_⟩
  have hmB := hx.1.2.2.2
  refine j_held h6 hx f caps V.heap.size W2.heap.size (W2.heap.size + 1) (W2.heap.size + 1 + 1) K E kk d l _ hen (kp (by omega) kb5) zb6 (kp (by omega) ko5) (kp (by omega) kd5) (by omega) (by omega) hbb (by omega) ?_ hr6 hE hkc hk hnR hnS hnN
  have B6a : Below W6.heap.size W6 (W6.alloc (.cells #[.bool false] 4)) := (Below.refl _ _).alloc (Nat.le_refl _) _
  refine hbe _ E kk d w.heap.size l (fun i i1 i2 => ?_) (by have := B6a.size; omega) (fun i hi => ?_) (hr6.below (B6a.mono (by omega))) (by have := B6a.size; omega) hkc hk
  · exact (B6a.block i (by omega)).trans ((hg.block i (by omega) (fun e => by injection e; omega)).trans (B5.block i (by omega)))
  · exact (B6a.block i (by omega)).trans ((hg.block i (by omega) (fun e => by injection e; omega)).trans (B15.block i (by omega)))
end
/-- what the rounds come to -/
def stepJ (cc : CV) (o : LOpts) (magic : Int) (st : List Int × List Opt × List Opt × List Opt) (y : Opt) : List Int × List Opt × List Opt × List Opt :=
  if st.1.contains y.1 then (st.1 ++ [y.1], st.2.1 ++ [y], st.2.2.1, st.2.2.2) else
    match bears cc o magic y.1 y.2 with
    | none => (st.1 ++ [y.1], st.2.1 ++ [y], st.2.2.1, st.2.2.2)
    | some (u, t) => if t then (st.1 ++ [y.1], st.2.1, st.2.2.1 ++ [y], st.2.2.2 ++ [(y.1, u)]) else (st.1 ++ [y.1], st.2.1, st.2.2.1, st.2.2.2)
def foldJ (cc : CV) (o : LOpts) (magic : Int) (s : List Opt) : List Int × List Opt × List Opt × List Opt := s.foldl (stepJ cc o magic) ([], [], [], [])
theorem foldJ_take (cc : CV) (o : LOpts) (magic : Int) (s : List Opt) (k : Nat) (h : k < s.length) : foldJ cc o magic (s.take (k + 1)) = stepJ cc o magic (foldJ cc o magic (s.take k)) s[k] := by
  unfold foldJ
  rw [List.take_succ_eq_append_getElem h, List.foldl_append]
  rfl
def judgeL (cc : CV) (o : LOpts) (magic : Int) (naks : Int) (s : List Opt) : Int × List Opt :=
  if (foldJ cc o magic s).2.1 ≠ [] then (4, (foldJ cc o magic s).2.1) else if (foldJ cc o magic s).2.2.2 ≠ [] ∧ naks < cc.mf then (3, (foldJ cc o magic s).2.2.2) else if (foldJ cc o magic s).2.2.2 ≠ [] then (4, (foldJ cc o magic s).2.2.1) else (2, s)
theorem woo_nil (s : List Opt) : woo [] s = s := by
  unfold woo
  simp
theorem lcpclone_any (A : Option Addr) (n c B : Nat) (s : List Opt) (w : World) (hr : OptRd w B A n s) (hB : B ≤ w.heap.size) (hn : n ≤ 4398046511103) :
    Calls Try.prog 116 #[.slice A n c] w fun e w' => ∃ F f, e = .returned (.slice F n f) ∧ OwnL w' w.heap.size (.slice F n f) s ∧ Below w.heap.size w w' := by
  have WO : Hid (Calls Try.prog 36 #[.slice A n c, .slice none 0 0] w fun e w' => ∃ F f, e = .returned (.slice F n f) ∧ OwnL w' w.heap.size (.slice F n f) s ∧ Below w.heap.size w w') := by
    refine (without_any A n c B s none 0 0 [] w hr hB hn RdI.nil (by omega)).mono ?_
    rintro e w' ⟨v, rfl, ho, hb⟩
    rw [woo_nil] at ho
    obtain ⟨F, f, rfl⟩ := ho.shape
    have := hr.1
    rw [this] at ho ⊢
    exact ⟨F, f, rfl, ho, hb⟩
  clear hr hB hn
  go_enter Try.func116, Try.ntmps116
  go_wp2_with (go_at_call 36; ((with_reducible refine WO.out.mono ?_); rintro e w' ⟨F, f, rfl, ho, hb⟩; have HO := Lib.hid (And.intro ho hb); clear ho hb))
  go_ret
  exact ⟨F, f, rfl, HO.out⟩
end Go.Proofs.Ytonbdcajepmgbaa
namespace Go.Proofs.Ytonbdcajepmgbaa
open Go.RowKit
set_option maxRecDepth 100000
set_option maxHeartbeats 8000000
set_option linter.unusedSimpArgs false
set_option linter.unusedVariables false

theorem infoC : (Try.prog.info? 102).map (·.size) = some 33 := by kernel_rfl
section
variable {w V : World} {x : JC} {cv : Array Value} {o : LOpts} {a b c : Value} {R S N : List Opt} {ks : List Int} {zb to td : Nat} {K : Int} {E : Option Addr} {kk d : Nat} {l : List UInt8} {e : Ending}
theorem held_none (h : JHeld w x cv o a b c R S N ks zb to td K E kk d l none e V) : e = .returned (.bool false) ∧ JRef w V x cv o a b c R S N ks zb K E kk d l := by
  rcases h with ⟨_, h1, h2⟩ | ⟨u, t, h1, _⟩
  · exact ⟨h1, h2⟩
  · cases h1
theorem held_same {u : List UInt8} (h : JHeld w x cv o a b c R S N ks zb to td K E kk d l (some (u, false)) e V) : e = .returned (.bool true) ∧ V.cell? ⟨td, 0, none⟩ = some (.bool false) ∧ JJ w V x cv o a b c R S N ks := by
  rcases h with ⟨h1, _⟩ | ⟨u, t, h1, h2, h3, h4⟩
  · cases h1
  · injection h1 with h1
    injection h1 with e1 e2
    subst e2
    rcases h4 with ⟨_, h5⟩ | ⟨h5, _⟩
    · exact ⟨h2, h3, h5⟩
    · cases h5
theorem held_other {u : List UInt8} (h : JHeld w x cv o a b c R S N ks zb to td K E kk d l (some (u, true)) e V) : e = .returned (.bool true) ∧ V.cell? ⟨td, 0, none⟩ = some (.bool true) ∧ JOth w V x cv o a b c R S N ks zb to K E kk d l u := by
  rcases h with ⟨h1, _⟩ | ⟨u, t, h1, h2, h3, h4⟩
  · cases h1
  · injection h1 with h1
    injection h1 with e1 e2
    subst e1 e2
    rcases h4 with ⟨h5, _⟩ | ⟨_, h5⟩
    · cases h5
    · exact ⟨h2, h3, h5⟩
end
def afterJ (ks : List Int) (R S N : List Opt) (y : Opt) : Option (List UInt8 × Bool) → List Int × List Opt × List Opt × List Opt
  | none => (ks ++ [y.1], R ++ [y], S, N)
  | some (u, true) => (ks ++ [y.1], R, S ++ [y], N ++ [(y.1, u)])
  | some (_, false) => (ks ++ [y.1], R, S, N)
theorem stepJ_no (cc : CV) (o : LOpts) (magic : Int) (ks : List Int) (R S N : List Opt) (y : Opt) (h : ks.contains y.1 = false) : stepJ cc o magic (ks, R, S, N) y = afterJ ks R S N y (bears cc o magic y.1 y.2) := by
  unfold stepJ
  simp only [h, Bool.false_eq_true, if_false]
  rcases bears cc o magic y.1 y.2 with _ | ⟨u, _ | _⟩ <;> rfl
/-- the state behind k options -/
def JK (w V : World) (x : JC) (cv : Array Value) (o : LOpts) (cc : CV) (magic : Int) (s : List Opt) (k : Nat) (a b c : Value) (R S N : List Opt) : Prop :=
  ∃ ks, JJ w V x cv o a b c R S N ks ∧ foldJ cc o magic (s.take k) = (ks, R, S, N) ∧ ks.length = k ∧ R.length ≤ k ∧ S.length ≤ k ∧ N.length ≤ k
def JudgePost (w : World) (cc : CV) (o : LOpts) (magic naks : Int) (s : List Opt) (e : Ending) (w' : World) : Prop :=
  ∃ A n c k s', e = .returned (.tuple #[.int .i64 k, .slice A n c]) ∧ judgeL cc o magic naks s = (k, s') ∧ n = s'.length ∧ OwnL w' w.heap.size (.slice A n c) s' ∧ Below w.heap.size w w'
theorem judge_any (cv : Array Value) (cc : CV) (o : LOpts) (A : Option Addr) (n c : Nat) (s : List Opt) (naks magic : Int) (w : World) (hcf : ConfAt w w.heap.size cv cc) (hmag : 0 ≤ magic ∧ magic < 4294967296) (hr : OptRd w w.heap.size A n s) (hK : okK s) (hn : n ≤ 4398046511103) :
    Calls Try.prog 62 #[.agg cv, .agg #[.int .i64 o.mru, .int .i64 o.accm, .int .i64 o.auth, .int .u32 o.magic, .bool o.pfc, .bool o.acfc], .slice A n c, .int .i64 naks, .int .u32 magic] w fun e w' => JudgePost w cc o magic naks s e w' := by
  have hlen := hr.1
  obtain ⟨W2, hW2⟩ : ∃ W2, W2 = (w.alloc (.cells cv 102)).alloc (.cells #[.int .i64 o.mru, .int .i64 o.accm, .int .i64 o.auth, .int .u32 o.magic, .bool o.pfc, .bool o.acfc] 76) := ⟨_, rfl⟩
  have B2 : Below w.heap.size w W2 := by rw [hW2]; exact ((Below.refl _ _).alloc (Nat.le_refl _) _).alloc (by simp) _
  have s2 : W2.heap.size = w.heap.size + 2 := by rw [hW2]; simp
  have kc : Blk W2 w.heap.size 102 cv.toList := by
    rw [hW2]
    refine (Below.heap_alloc _ _ _ (by simp)).trans ?_
    have h := blk_new w 102 cv.toList
    unfold Blk at h
    simpa using h
  have km : Blk W2 (w.heap.size + 1) 76 o.cells := by
    rw [hW2]
    have h := blk_new (w.alloc (.cells cv 102)) 76 o.cells
    rw [World.size_alloc] at h
    exact h
  have RP : Hid (Calls Try.prog 103 #[] W2 fun e w4 => ∃ g m, e = .returned (.func (.func 136) #[] #[.pointer (some ⟨g, 0, none⟩)]) ∧ (⟨w.heap.size, w.heap.size + 1, g, m, w4.heap.size⟩ : JC).ok w.heap.size ∧ JK w w4 ⟨w.heap.size, w.heap.size + 1, g, m, w4.heap.size⟩ cv o cc magic s 0 (.slice none 0 0) (.slice none 0 0) (.slice none 0 0) [] [] []) := by
    refine (repeats_any W2).mono ?_
    rintro e w4 ⟨g, m, rfl, hrep, hg, hm, b4⟩
    have s4 := b4.size
    have hgl := hrep.1.lt
    have hml := hrep.2.2.lt
    refine ⟨g, m, rfl, ⟨⟨Nat.le_refl _, by show _ ≤ w.heap.size + 1; omega, by show _ ≤ g; omega, by show _ ≤ m; omega⟩, ⟨by show w.heap.size < w4.heap.size; omega, by show w.heap.size + 1 < w4.heap.size; omega, hgl, hml⟩, by show w.heap.size ≠ m; omega, by show w.heap.size + 1 ≠ m; omega⟩,
      [], ⟨⟨(b4.block _ kc.lt).trans kc, (b4.block _ km.lt).trans km, hrep⟩, ⟨OwnR.nil _ _ _, OwnR.nil _ _ _, OwnL.nil _ _⟩, ⟨.inl rfl, .inl rfl, .inl rfl, .inl rfl, .inl rfl, .inl rfl⟩, B2.trans (b4.mono (by omega)), Nat.le_refl _⟩, rfl, rfl, by simp, by simp, by simp⟩
  have HW := Lib.hid hW2.symm
  have HR := Lib.hid hr
  have HKK := Lib.hid hK
  have HCF := Lib.hid hcf
  have hcv : cv.size = 33 := hcf.1
  have IC : Hid ((Try.prog.info? 102).map (·.size) = some cv.size) := by show _ = _; rw [hcv]; exact infoC
  have hzf : ∀ W, (zeroValue 155).run Try.prog W = .ok .nilFunc W := fun W => by kernel_rfl
  have hmf : ∀ (fn : Fn) (first cap : Array Value) (w : World), (Instr.makeFunc fn first cap).run Try.prog w = .ok (.func fn first cap) w := fun _ _ _ _ => rfl
  have HCV := Lib.hid hcv
  clear hW2 B2 s2 kc km hr hK hcf hcv
  go_enter Try.func62, Try.ntmps62
  go_upto_region 2 with (fail)
  rw [HW.out]
  clear HW
  go_step3
  go_wp2_with (go_at_call 103; ((with_reducible refine RP.out.mono ?_); rintro e w4 ⟨g, m, rfl, hx, hjk⟩; have HX := Lib.hid hx; have H0 := Lib.hid hjk; clear hx hjk))
  go_step3
  obtain ⟨x, hxe⟩ : ∃ x : JC, x = ⟨w.heap.size, w.heap.size + 1, g, m, w4.heap.size⟩ := ⟨_, rfl⟩
  have xg : x.g = g := by rw [hxe]
  have xc : x.zc = w.heap.size := by rw [hxe]
  have xm : x.zm = w.heap.size + 1 := by rw [hxe]
  rw [← hxe] at HX H0
  have HXG := Lib.hid (And.intro xg (And.intro xc xm))
  clear hxe xg xc xm
  go_wp2
  go_loopw [12, 13, 14, 24] (fun a b c i wr => ∃ (V : World) (k : Nat) (R S N : List Opt), V = wr ∧ k ≤ n ∧ i = .int .i64 k ∧ (∃ A1 d1, a = .slice A1 R.length d1) ∧ (∃ A1 d1, b = .slice A1 S.length d1) ∧ (∃ A1 d1, c = .slice A1 N.length d1) ∧ Hid (JK w V x cv o cc magic s k a b c R S N)) (fun _ _ _ i _ => n - (intOf i).toNat)
  case atStart => exact ⟨_, 0, [], [], [], rfl, Nat.zero_le _, rfl, ⟨none, 0, rfl⟩, ⟨none, 0, rfl⟩, ⟨none, 0, rfl⟩, H0.out⟩
  case round =>
    obtain ⟨V, k, R, S, N, rfl, hkn, rfl, ⟨A1, d1, rfl⟩, ⟨A2, d2, rfl⟩, ⟨A3, d3, rfl⟩, hJ⟩ := hrel
    obtain ⟨ks, hJJ, hfold, hks, hRl, hSl, hNl⟩ := hJ.out
    have hBw := hJJ.2.2.2.1
    have s1 := hBw.size
    by_cases hlt : k < n
    · obtain ⟨b, off, rfl, hbl, hc⟩ := HR.out.2 (by omega)
      obtain ⟨x1, E, kk, d, x2, hRd, hE, hkc, hkb⟩ := hc k (by omega)
      have hbz : b < w.heap.size := by omega
      obtain ⟨y, hy⟩ : ∃ y, s[k]'(by omega) = y := ⟨_, rfl⟩
      have hyK := HKK.out y (by rw [← hy]; exact List.getElem_mem _)
      have hst := foldJ_take cc o magic s k (by omega)
      rw [hy] at x1 hRd hst
      rw [hfold] at hst
      obtain ⟨K, l⟩ := y
      have v1 : V.cell? ⟨b, off + k * 2, none⟩ = some (.int .i64 K) := (hBw.cell hbz).trans x1
      have v2 : V.cell? ⟨b, off + k * 2 + 1, none⟩ = some (.slice E kk d) := (hBw.cell hbz).trans x2
      have BA : Below V.heap.size V (V.alloc (.cells #[.int .i64 K, .slice E kk d] 70)) := (Below.refl _ _).alloc (Nat.le_refl _) _
      have hx := HX.out
      have hJ1 := hJJ.later hx BA
      have HRD := j_round hJJ hx cc magic HCF.out hmag K E kk d l hyK hRd hE hkc hkb (by omega) (by omega) (by omega) (by omega)
      obtain ⟨xg, xc, xm⟩ := HXG.out
      unfold JRound at HRD
      rw [xg] at HRD
      have hbc := hJ1.1.1
      have hbm := hJ1.1.2.1
      rw [xc] at hbc
      rw [xm] at hbm
      have HBL : Hid ((V.alloc (.cells #[.int .i64 K, .slice E kk d] 70)).heap[w.heap.size]? = some (.cells cv 102 (0, 0))) := by
        show _ = _
        unfold Blk at hbc
        simpa using hbc
      have m0 : (V.alloc (.cells #[.int .i64 K, .slice E kk d] 70)).cell? ⟨w.heap.size + 1, 0, none⟩ = some (.int .i64 o.mru) := hbm.cell 0
      have m1 : (V.alloc (.cells #[.int .i64 K, .slice E kk d] 70)).cell? ⟨w.heap.size + 1, 1, none⟩ = some (.int .i64 o.accm) := hbm.cell 1
      have m2 : (V.alloc (.cells #[.int .i64 K, .slice E kk d] 70)).cell? ⟨w.heap.size + 1, 2, none⟩ = some (.int .i64 o.auth) := hbm.cell 2
      have m3 : (V.alloc (.cells #[.int .i64 K, .slice E kk d] 70)).cell? ⟨w.heap.size + 1, 3, none⟩ = some (.int .u32 o.magic) := hbm.cell 3
      have m4 : (V.alloc (.cells #[.int .i64 K, .slice E kk d] 70)).cell? ⟨w.heap.size + 1, 4, none⟩ = some (.bool o.pfc) := hbm.cell 4
      have m5 : (V.alloc (.cells #[.int .i64 K, .slice E kk d] 70)).cell? ⟨w.heap.size + 1, 5, none⟩ = some (.bool o.acfc) := hbm.cell 5
      have HRD := Lib.hid HRD
      have HST := Lib.hid hst
      have HLN := Lib.hid (And.intro hks (And.intro hRl (And.intro hSl hNl)))
      clear hc hy hyK hst x1 x2 hRd hE hkc hkb BA hJ1 hJJ hJ hfold hbc hbm hx xg xc xm hks hRl hSl hNl hBw
      by_cases hin : ks.contains K = true
      · have HIN := Lib.hid hin
        rw [hin] at HRD
        have HS : Hid (foldJ cc o magic (s.take (k + 1)) = (ks ++ [K], R ++ [(K, l)], S, N)) := by
          show _ = _
          rw [HST.out]
          unfold stepJ
          simp only [hin, if_true]
        clear hin
        go_wp2_with (first
          | (go_at_call 114; ((with_reducible refine HRD.out.mono ?_); rintro e W2 ⟨f, caps, rfl, y0, n2⟩; have N2 := Lib.hid n2; clear n2))
          | (refine wpList_load_row rfl 102 (.tmp 5) rfl w.heap.size rfl 102 cv (0, 0) _ HBL.out Try.underlying102 rfl IC.out ?_)
          | (go_at_call 136; ((with_reducible refine N2.out.mono ?_); rintro e W6 ⟨rfl, n3, -⟩; obtain ⟨⟨z0, z1⟩, A4, n4, d4, w5, hrun, hjn⟩ := n3 trivial; have HRN := Lib.hid hrun; have HJN := Lib.hid hjn; clear n3 hrun hjn))
          | (at_builtin; refine wpList_appO 55 55 rfl (.tmp 43) (.tmp 45) rfl _ _ rfl rfl _ _ HRN.out ?_))
        obtain ⟨A5, d5, e5⟩ := HJN.out.2.1.1.shape
        injection e5 with e6 e7 e8
        subst e6 e7 e8
        go_roundw
        case rel => exact ⟨_, k + 1, _, S, N, rfl, by omega, by go_num, ⟨_, _, rfl⟩, ⟨_, _, rfl⟩, ⟨_, _, rfl⟩, _, HJN.out, HS.out, by rw [List.length_append, HLN.out.1]; rfl, by rw [List.length_append]; have := HLN.out.2.1; simp; omega, by have := HLN.out.2.2.1; omega, by have := HLN.out.2.2.2; omega⟩
        case measure => simp [intOf]; omega
      · have hin' : ks.contains K = false := by simpa using hin
        rw [hin'] at HRD
        obtain ⟨r, hr⟩ : ∃ r, bears cc o magic K l = r := ⟨_, rfl⟩
        rw [hr] at HRD
        have hs0 : foldJ cc o magic (s.take (k + 1)) = afterJ ks R S N (K, l) r := by
          rw [HST.out, stepJ_no cc o magic ks R S N (K, l) hin']
          exact congrArg (afterJ ks R S N (K, l)) hr
        have HS := Lib.hid hs0
        clear hin hin' hs0 hr HST
        rcases r with _ | ⟨u, _ | _⟩
        · go_wp2_with (first
            | (go_at_call 114; ((with_reducible refine HRD.out.mono ?_); rintro e W2 ⟨f, caps, rfl, y0, n2⟩; have N2 := Lib.hid n2; clear n2))
            | (refine wpList_load_row rfl 102 (.tmp 5) rfl w.heap.size rfl 102 cv (0, 0) _ HBL.out Try.underlying102 rfl IC.out ?_)
            | (go_at_call 136; ((with_reducible refine N2.out.mono ?_); rintro e W6 ⟨rfl, -, n4⟩; have N4 := Lib.hid (n4 trivial); clear n4))
            | (go_at_call 104; ((with_reducible refine N4.out.mono ?_); rintro e W7 hq; obtain ⟨rfl, ⟨z0, z1⟩, A4, n4, d4, w5, hrun, hjn⟩ := held_none hq; have HRN := Lib.hid hrun; have HJN := Lib.hid hjn; clear hq hrun hjn))
            | (at_builtin; refine wpList_appO 55 55 rfl (.tmp 43) (.tmp 45) rfl _ _ rfl rfl _ _ HRN.out ?_))
          obtain ⟨A5, d5, e5⟩ := HJN.out.2.1.1.shape
          injection e5 with e6 e7 e8
          subst e6 e7 e8
          go_roundw
          case rel => exact ⟨_, k + 1, _, S, N, rfl, by omega, by go_num, ⟨_, _, rfl⟩, ⟨_, _, rfl⟩, ⟨_, _, rfl⟩, _, HJN.out, HS.out, by rw [List.length_append, HLN.out.1]; rfl, by rw [List.length_append]; have := HLN.out.2.1; simp; omega, by have := HLN.out.2.2.1; omega, by have := HLN.out.2.2.2; omega⟩
          case measure => simp [intOf]; omega
        · go_wp2_with (first
            | (go_at_call 114; ((with_reducible refine HRD.out.mono ?_); rintro e W2 ⟨f, caps, rfl, y0, n2⟩; have N2 := Lib.hid n2; clear n2))
            | (refine wpList_load_row rfl 102 (.tmp 5) rfl w.heap.size rfl 102 cv (0, 0) _ HBL.out Try.underlying102 rfl IC.out ?_)
            | (go_at_call 136; ((with_reducible refine N2.out.mono ?_); rintro e W6 ⟨rfl, -, n4⟩; have N4 := Lib.hid (n4 trivial); clear n4))
            | (go_at_call 104; ((with_reducible refine N4.out.mono ?_); rintro e W7 hq; obtain ⟨rfl, z0, hjn⟩ := held_same hq; have HJN := Lib.hid hjn; clear hq hjn)))
          go_roundw
          case rel => exact ⟨_, k + 1, R, S, N, rfl, by omega, by go_num, ⟨_, _, rfl⟩, ⟨_, _, rfl⟩, ⟨_, _, rfl⟩, _, HJN.out, HS.out, by rw [List.length_append, HLN.out.1]; rfl, by have := HLN.out.2.1; omega, by have := HLN.out.2.2.1; omega, by have := HLN.out.2.2.2; omega⟩
          case measure => simp [intOf]; omega
        · go_wp2_with (first
            | (go_at_call 114; ((with_reducible refine HRD.out.mono ?_); rintro e W2 ⟨f, caps, rfl, y0, n2⟩; have N2 := Lib.hid n2; clear n2))
            | (refine wpList_load_row rfl 102 (.tmp 5) rfl w.heap.size rfl 102 cv (0, 0) _ HBL.out Try.underlying102 rfl IC.out ?_)
            | (go_at_call 136; ((with_reducible refine N2.out.mono ?_); rintro e W6 ⟨rfl, -, n4⟩; have N4 := Lib.hid (n4 trivial); clear n4))
            | (go_at_call 104; ((with_reducible refine N4.out.mono ?_); rintro e W7 hq; obtain ⟨rfl, z9, ⟨z0, z1⟩, A4, n4, d4, w5, hrun, z2, F, j, f9, z3, A6, n6, d6, w6, hrun2, hjn⟩ := held_other hq; have HRN := Lib.hid hrun; have HRN2 := Lib.hid hrun2; have HJN := Lib.hid hjn; clear hq hrun hrun2 hjn))
            | (at_builtin; refine wpList_appO 55 55 rfl (.tmp 48) (.tmp 50) rfl _ _ rfl rfl _ _ HRN.out ?_)
            | (at_builtin; refine wpList_appO 55 55 rfl (.tmp 52) (.tmp 57) rfl _ _ rfl rfl _ _ HRN2.out ?_))
          obtain ⟨A5, d5, e5⟩ := HJN.out.2.1.2.1.shape
          injection e5 with e6 e7 e8
          subst e6 e7 e8
          obtain ⟨A5, d5, e5⟩ := HJN.out.2.1.2.2.shape
          injection e5 with e6 e7 e8
          subst e6 e7 e8
          go_roundw
          case rel => exact ⟨_, k + 1, R, _, _, rfl, by omega, by go_num, ⟨_, _, rfl⟩, ⟨_, _, rfl⟩, ⟨_, _, rfl⟩, _, HJN.out, HS.out, by rw [List.length_append, HLN.out.1]; rfl, by have := HLN.out.2.1; omega, by rw [List.length_append]; have := HLN.out.2.2.1; simp; omega, by rw [List.length_append]; have := HLN.out.2.2.2; simp; omega⟩
          case measure => simp [intOf]; omega
    · have : k = n := by omega
      subst this
      rw [List.take_of_length_le (by omega)] at hfold
      have hbase := hJJ.2.2.2.2
      have hwb : w.heap.size ≤ x.base := by have := HX.out.1.1; have := HX.out.2.1.1; omega
      obtain ⟨r1, r2, r3⟩ := hJJ.2.1
      obtain ⟨A4, d4, e4, rd1, _⟩ := r1.rd s1
      injection e4 with e6 _ e8
      subst e6 e8
      obtain ⟨A4, d4, e4, rd2, _⟩ := r2.rd s1
      injection e4 with e6 _ e8
      subst e6 e8
      have fin : ∀ (V' W' : World) (F : Option Addr) (q f : Nat) (t : List Opt), Below w.heap.size w V' → OwnL W' V'.heap.size (.slice F q f) t → Below V'.heap.size V' W' → OwnL W' w.heap.size (.slice F q f) t ∧ Below w.heap.size w W' := fun V' W' F q f t h1 h2 h3 => ⟨h2.base_le h1.size, h1.trans (h3.mono h1.size)⟩
      have FIN := Lib.hid fin
      have HBW := Lib.hid hBw
      clear fin
      by_cases hR : R = []
      · subst hR
        by_cases hN : N = []
        · subst hN
          have HJ2 : Hid (judgeL cc o magic naks s = (2, s)) := by
            show _ = _
            unfold judgeL
            rw [hfold]
            simp
          have CL := Lib.hid (lcpclone_any A k c w.heap.size s V (HR.out.below hBw (Nat.le_refl _)) s1 hn)
          clear hfold hJJ hJ r1 r2 r3 rd1 rd2 hBw
          go_wp2_with (go_at_call 116; ((with_reducible refine CL.out.mono ?_); rintro e w9 ⟨F, f, rfl, ho, hb⟩; have HO := Lib.hid (FIN.out _ _ _ _ _ _ HBW.out ho hb); clear ho hb))
          go_ret2
          exact ⟨F, k, f, 2, s, rfl, HJ2.out, hlen.symm, HO.out.1, HO.out.2⟩
        · have n0 : (0 : Int) < (N.length : Int) := by
            rcases N with _ | ⟨y, N⟩
            · exact absurd rfl hN
            · simp
          by_cases hna : naks < cc.mf
          · have HJ2 : Hid (judgeL cc o magic naks s = (3, N)) := by
              show _ = _
              unfold judgeL
              rw [hfold]
              simp [hN, hna]
            have HO := Lib.hid (And.intro (r3.base_le hwb) hBw)
            obtain ⟨q, hq⟩ : ∃ q, N.length = q := ⟨_, rfl⟩
            have HQ := Lib.hid hq
            rw [hq] at n0 HO ⊢
            have cf := hJJ.1.1
            rw [HXG.out.2.1] at cf
            have c21 : V.cell? ⟨w.heap.size, 21, none⟩ = some (.int .i64 cc.mf) := by
              have h21 := HCF.out.2.2.2.2.2
              rw [cf.cell 21]
              simpa using h21
            clear hfold hJJ hJ r1 r2 r3 rd1 rd2 hBw hN hq cf
            go_wp2
            go_ret2
            exact ⟨_, _, _, 3, N, rfl, HJ2.out, HQ.out.symm, HO.out.1, HO.out.2⟩
          · have HJ2 : Hid (judgeL cc o magic naks s = (4, S)) := by
              show _ = _
              unfold judgeL
              rw [hfold]
              simp [hN, hna]
            have CL := Lib.hid (lcpclone_any A2 S.length d2 V.heap.size S V rd2 (Nat.le_refl _) (by omega))
            obtain ⟨q, hq⟩ : ∃ q, N.length = q := ⟨_, rfl⟩
            obtain ⟨u, hu⟩ : ∃ u, S.length = u := ⟨_, rfl⟩
            have HU := Lib.hid hu
            rw [hq] at n0 ⊢
            rw [hu] at CL ⊢
            have cf := hJJ.1.1
            rw [HXG.out.2.1] at cf
            have c21 : V.cell? ⟨w.heap.size, 21, none⟩ = some (.int .i64 cc.mf) := by
              have h21 := HCF.out.2.2.2.2.2
              rw [cf.cell 21]
              simpa using h21
            clear hfold hJJ hJ r1 r2 r3 rd1 rd2 hBw hN hq hu cf
            go_wp2_with (go_at_call 116; ((with_reducible refine CL.out.mono ?_); rintro e w9 ⟨F, f, rfl, ho, hb⟩; have HO := Lib.hid (FIN.out _ _ _ _ _ _ HBW.out ho hb); clear ho hb))
            go_ret2
            exact ⟨F, u, f, 4, S, rfl, HJ2.out, HU.out.symm, HO.out.1, HO.out.2⟩
      · have n0 : (0 : Int) < (R.length : Int) := by
          rcases R with _ | ⟨y, R⟩
          · exact absurd rfl hR
          · simp
        have HJ2 : Hid (judgeL cc o magic naks s = (4, R)) := by
          show _ = _
          unfold judgeL
          rw [hfold]
          simp [hR]
        have CL := Lib.hid (lcpclone_any A1 R.length d1 V.heap.size R V rd1 (Nat.le_refl _) (by omega))
        obtain ⟨u, hu⟩ : ∃ u, R.length = u := ⟨_, rfl⟩
        have HU := Lib.hid hu
        rw [hu] at n0 CL ⊢
        clear hfold hJJ hJ r1 r2 r3 rd1 rd2 hBw hR hu
        go_wp2_with (go_at_call 116; ((with_reducible refine CL.out.mono ?_); rintro e w9 ⟨F, f, rfl, ho, hb⟩; have HO := Lib.hid (FIN.out _ _ _ _ _ _ HBW.out ho hb); clear ho hb))
        go_ret2
        exact ⟨F, u, f, 4, R, rfl, HJ2.out, HU.out.symm, HO.out.1, HO.out.2⟩
end Go.Proofs.Ytonbdcajepmgbaa
