/-
  hdlc.Line: each, Feed.
-/
import Derived.Test.YtcpofjelfnkiaaaDoorHdEach
import Derived.Test.YtcpofjelfnkiaaaDoorHdFrm
namespace Go.Proofs.YtcpofjelfnkiaaaDoor
open Go.RowKit Go.Shelf
set_option maxRecDepth 100000
set_option maxHeartbeats 4000000
set_option linter.unusedSimpArgs false
set_option linter.unusedVariables false
attribute [local go_sem] Oper.semAt_some

theorem each_any (b : Nat) (A : Option Addr) (n c : Nat) (w : World) :
    Calls Tryd.prog 46 #[.pointer (some ⟨b, 0, none⟩), .slice A n c] w fun e w' => e = .returned (.func (.func 50) #[] #[.pointer (some ⟨w.heap.size + 1, 0, none⟩), .pointer (some ⟨w.heap.size, 0, none⟩)]) ∧ w' = (w.alloc (.cells #[.pointer (some ⟨b, 0, none⟩)] 45)).alloc (.cells #[.slice A n c] 22) := by
  go_enter Tryd.func46, Tryd.ntmps46
  go_wp2
  go_ret
  exact ⟨rfl, rfl⟩
theorem each_none (A : Option Addr) (n c : Nat) (w : World) :
    Calls Tryd.prog 46 #[.pointer none, .slice A n c] w fun e w' => e = .returned (.func (.func 50) #[] #[.pointer (some ⟨w.heap.size + 1, 0, none⟩), .pointer (some ⟨w.heap.size, 0, none⟩)]) ∧ w' = (w.alloc (.cells #[.pointer none] 45)).alloc (.cells #[.slice none 0 0] 22) := by
  go_enter Tryd.func46, Tryd.ntmps46
  go_wp2
  trace_state
  go_ret
  exact ⟨rfl, rfl⟩
theorem out1_le (a : Int) (M : Nat) (p q : Bool) (s : LSt) (c : UInt8) : (out1 a M p q s c).length ≤ 1 := by unfold out1; split <;> simp
theorem frs_le (a : Int) (M : Nat) (p q : Bool) : ∀ (l : List UInt8) (s : LSt), (frs a M p q s l).length ≤ l.length
  | [], s => Nat.le_refl _
  | c :: l, s => by
    have h1 := out1_le a M p q s c
    have h2 := frs_le a M p q l (stp1 a M p q s c)
    show (out1 _ _ _ _ _ _ ++ frs _ _ _ _ _ l).length ≤ _
    rw [List.length_append, List.length_cons]
    omega
/-- what Feed knows while it ranges -/
def FdJ (w : World) (O b Bs : Nat) (a : Int) (M : Nat) (p q : Bool) (s0 : LSt) (l : List UInt8) (hv0 : Value) (k : Nat) (hv : Value) (W : World) : Prop :=
  ∃ v L, Blk W O 42 [v] ∧ FL W w.heap.size v (frs a M p q s0 (l.take k)) L ∧ (∀ i, L i → i ≠ b ∧ i ≠ Bs ∧ i ≠ O ∧ hv.ownBlock ≠ some i ∧ i < W.heap.size) ∧ hv.ownBlock ≠ some O ∧ Trn b hv0 hv w W
theorem FdJ.abides {w : World} {O b Bs : Nat} {a : Int} {M : Nat} {p q : Bool} {s0 : LSt} {l : List UInt8} {hv0 : Value} (hO : O ≠ b ∧ O ≠ Bs) (hBs : w.heap.size ≤ Bs) : AbIt b Bs (FdJ w O b Bs a M p q s0 l hv0) := by
  rintro k hv hv' W W' ⟨v, L, h1, h2, h3, h4, h5⟩ - hs ⟨o1, o2, o3⟩ hb ho
  have lO := Blk.lt h1
  have ow : ∀ i, i < W.heap.size → hv.ownBlock ≠ some i → hv'.ownBlock ≠ some i := fun i hi hn e => by
    rcases ho i e with x | x
    · exact hn x
    · omega
  refine ⟨v, L, (hb O lO hO.1 hO.2 h4).trans h1, h2.same (fun i hi => ?_), fun i hi => ?_, ow O lO h4, ?_⟩
  · obtain ⟨x1, x2, x3, x4, x5⟩ := h3 i hi
    exact hb i x5 x1 x2 x4
  · obtain ⟨x1, x2, x3, x4, x5⟩ := h3 i hi
    exact ⟨x1, x2, x3, ow i x5 x4, by omega⟩
  · have sz := h5.size
    refine ⟨o1.trans h5.os, o2.trans h5.tape, o3.trans h5.output, Nat.le_trans h5.size hs, fun i hi hn hv => ?_, fun g hg => ?_⟩
    · rw [hb i (by omega) hn (by omega) (fun e => ?_), h5.block i hi hn hv]
      rcases h5.own i e with x | x
      · exact hv x
      · omega
    · rcases ho g hg with x | x
      · exact h5.own g x
      · exact .inr (by omega)
/-- the state of the range: the bytes told, the bytes taken, the line's row, what the iterator's cell holds, the frame that is told -/
structure FdS where
  k0 : Nat
  k1 : Nat
  hv : Value
  A : Option Addr
  n : Nat
  c : Nat
  x : Option (Int × Option Addr × Nat × Nat)
def FdI (w : World) (O Bs Ls b : Nat) (a : Int) (M : Nat) (p q : Bool) (s0 : LSt) (l : List UInt8) (hv0 : Value) (s : FdS) (W : World) : Prop :=
  FdJ w O b Bs a M p q s0 l hv0 s.k0 s.hv W ∧ ItS w.heap.size Bs Ls b a M p q s.hv (runS a M p q s0 (l.take s.k1)) s.A s.n s.c (l.drop s.k1) W ∧ w.heap.size ≤ W.heap.size ∧
  ∀ z D m d, s.x = some (z, D, m, d) → ∃ P I, frs a M p q s0 (l.take s.k1) = frs a M p q s0 (l.take s.k0) ++ [(P, I)] ∧ z = P ∧ m = I.length ∧ Own W w.heap.size (.slice D m d) I ∧ ∀ g, (Value.slice D m d).ownBlock = some g → s.hv.ownBlock ≠ some g ∧ g ≠ b ∧ g ≠ Bs ∧ g < W.heap.size
theorem FdI.nocells {w : World} {O Bs Ls b : Nat} {a : Int} {M : Nat} {p q : Bool} {s0 : LSt} {l : List UInt8} {hv0 : Value} (hw : w.heap.size ≤ b ∨ True) {B : Nat} (hB : w.heap.size ≤ B) : OwnFrom B (FdI w O Bs Ls b a M p q s0 l hv0) := by
  rintro s W W' row ⟨⟨v, L, h1, h2, h3, h4, h5⟩, hI, hsz, hx⟩ hg hr
  have sz := hg.size
  have no : ∀ i cs t fz, W.heap[i]? = some (.cells cs t fz) → some i ≠ row := by
    intro i cs t fz hi e
    obtain ⟨_, o, ho, hc⟩ := hr i e.symm
    rw [hi] at ho
    injection ho with ho
    subst ho
    cases hc
  have keepOwn : ∀ {base : Nat} {v : Value} {l : List UInt8}, Own W base v l → Own W' base v l := fun {base v l} h => own_same h (fun g e => by
    rcases h.2 with ⟨e2, _⟩ | ⟨g2, cap, cur, e2, _, hh, _⟩
    · rw [e2] at e; cases e
    · rw [e2] at e
      have e3 : g2 = g := by injection e
      rw [← e3]
      exact hg.block _ (Array.getElem?_eq_some_iff.1 hh).1 (no _ _ _ _ hh))
  refine ⟨⟨v, L, (hg.block O (Blk.lt h1) (no _ _ _ _ h1)).trans h1, ?_, fun i hi => ?_, h4, ?_⟩, hI.nocells hg (fun k e => (hr k e).2), by omega, fun z D m d e => ?_⟩
  · obtain ⟨cs, y1, y2, y3⟩ := h2
    refine ⟨cs, row_same y1 (fun g e => ?_), y2, fun i hi => ?_⟩
    · rcases y1.2 with ⟨e2, _⟩ | ⟨g2, cap, cur, e2, _, hh, _⟩
      · rw [e2] at e; cases e
      · rw [e2] at e
        have e3 : g2 = g := by injection e
        rw [← e3]
        exact hg.block _ (Array.getElem?_eq_some_iff.1 hh).1 (no _ _ _ _ hh)
    · obtain ⟨a1, E, kk, cc, b1, o1, l1⟩ := y3 i hi
      exact ⟨a1, E, kk, cc, b1, keepOwn o1, l1⟩
  · obtain ⟨x1, x2, x3, x4, x5⟩ := h3 i hi
    exact ⟨x1, x2, x3, x4, by omega⟩
  · refine ⟨hg.os.trans h5.os, hg.tape.trans h5.tape, hg.output.trans h5.output, Nat.le_trans h5.size hg.size, fun i hi hn hv => ?_, h5.own⟩
    have := h5.size
    rw [hg.block i (by omega) (fun e => by have := (hr i e.symm).1; omega), h5.block i hi hn hv]
  · obtain ⟨P, I, x1, x2, x3, x4, x5⟩ := hx z D m d e
    exact ⟨P, I, x1, x2, x3, keepOwn x4, fun g hg' => by obtain ⟨y1, y2, y3, y4⟩ := x5 g hg'; exact ⟨y1, y2, y3, by omega⟩⟩
theorem Trn.more {b : Nat} {h1 h2 : Value} {A B B' : World} {row : Option Nat} (h : Trn b h1 h2 A B) (hg : B.grownBy B' row) (hr : ∀ k, row = some k → A.heap.size ≤ k) : Trn b h1 h2 A B' := by
  have sz := h.size
  refine ⟨hg.os.trans h.os, hg.tape.trans h.tape, hg.output.trans h.output, Nat.le_trans h.size hg.size, fun i hi hb hn => ?_, h.own⟩
  rw [hg.block i (by omega) (fun e => by have := hr i e.symm; omega), h.block i hi hb hn]
theorem rowT {W : World} {base e size n t : Nat} {v : Value} {xs cs : List Value} {k : Nat} (h : W.ownsRow base e size v n xs) (hb : Blk W k t cs) (ht : t ≠ e) : v.ownBlock ≠ some k := by
  intro e'
  rcases h.2 with ⟨rfl, _⟩ | ⟨g, cap, cur, rfl, _, hh, _⟩
  · cases e'
  · have e3 : g = k := by injection e'
    subst e3
    rw [show W.heap[g]? = _ from hb] at hh
    injection hh with hh
    injection hh with _ h2
    exact ht h2
/-- a frame is put behind the others -/
theorem fd_body {w : World} {O Bs Ls b : Nat} {a : Int} {M : Nat} {p q : Bool} {s0 : LSt} {l : List UInt8} {hv0 : Value} (hO : O ≠ b ∧ O ≠ Bs ∧ O ≠ Ls) (wO : w.heap.size ≤ O) (wB : w.heap.size ≤ Bs) (hb : b < w.heap.size) (ht : 0 < b) (hl : l.length ≤ 1099511627776) {s : FdS} {W : World} (h : FdI w O Bs Ls b a M p q s0 l hv0 s W) {z : Int} {D : Option Addr} {m d : Nat} (hx : s.x = some (z, D, m, d)) (B : Nat) :
    ∃ v A2 n2 c2 w2, W.cell? ⟨O, 0, none⟩ = some v ∧ W.frozen? ⟨O, 0, none⟩ = false ∧ O < W.heap.size ∧
      (Builtin.append_ #[42, 42] 42 #[v, .slice (some ⟨W.heap.size, 0, none⟩) 1 1]).run Tryd.prog (W.alloc (.cells #[.int .i64 z, .slice D m d] 24)) = .ok (.slice A2 n2 c2) w2 ∧ (∃ u, w2.cell? ⟨O, 0, none⟩ = some u) ∧ w2.frozen? ⟨O, 0, none⟩ = false ∧ O < w2.heap.size ∧
      Hid (FdI w O Bs Ls b a M p q s0 l hv0 { s with k0 := s.k1, x := none } (w2.setCell ⟨O, 0, none⟩ (.slice A2 n2 c2))) ∧ Hid (KeepsFrom B W (w2.setCell ⟨O, 0, none⟩ (.slice A2 n2 c2))) := by
  obtain ⟨⟨v, L, h1, h2, h3, h4, h5⟩, hI, hsz, hxx⟩ := h
  obtain ⟨P, I, x1, x2, x3, x4, x5⟩ := hxx z D m d hx
  have lO := Blk.lt h1
  have hW1 : Below W.heap.size W (W.alloc (.cells #[.int .i64 z, .slice D m d] 24)) := (Below.refl _ _).alloc (Nat.le_refl _) _
  have hbk := blk_new W 24 [.int .i64 z, .slice D m d]
  have hfl : FL (W.alloc (.cells #[.int .i64 z, .slice D m d] 24)) w.heap.size v (frs a M p q s0 (l.take s.k0)) L := h2.same (fun i hi => hW1.block i (h3 i hi).2.2.2.2)
  have hle : (frs a M p q s0 (l.take s.k0)).length ≤ 1099511627776 := by
    have := frs_le a M p q (l.take s.k0) s0
    rw [List.length_take] at this
    omega
  obtain ⟨v', w2, r, hf, g, hv⟩ := appFL_run hfl W.heap.size z D m d I (hbk.cell 0) (hbk.cell 1) (x4.alloc _) (by omega) (by simp; omega)
  obtain ⟨A2, c2, rfl⟩ : ∃ A c, v' = .slice A ((frs a M p q s0 (l.take s.k0)) ++ [(z, I)]).length c := hf.own.shape
  obtain ⟨cs, y1, y2, y3⟩ := h2
  have vO : v.ownBlock ≠ some O := rowT y1 h1 (by decide)
  have vLs : v.ownBlock ≠ some Ls := rowT y1 hI.ls (by decide)
  have DO : (Value.slice D m d).ownBlock ≠ some O := rowT x4 h1 (by decide)
  have gs := g.size
  simp at gs
  have k2 : Blk w2 O 42 [v] := (g.block O (by simp; omega) (fun e => vO e.symm)).trans ((hW1.block O lO).trans h1)
  have vb : ∀ k, v.ownBlock = some k → w.heap.size ≤ k ∧ k < W.heap.size := fun k e => OwnFO.block y1 k e
  have s3 : (w2.setCell ⟨O, 0, none⟩ (.slice A2 (frs a M p q s0 (l.take s.k0) ++ [(z, I)]).length c2)).heap.size = w2.heap.size := by simp [World.setCell]
  have gO : w2.grownBy (w2.setCell ⟨O, 0, none⟩ (.slice A2 (frs a M p q s0 (l.take s.k0) ++ [(z, I)]).length c2)) (some O) := only_set _
  have eF : frs a M p q s0 (l.take s.k1) = frs a M p q s0 (l.take s.k0) ++ [(z, I)] := by rw [x1, x2]
  -- the blocks of the frames
  have hL' : ∀ i, (L i ∨ (Value.slice A2 (frs a M p q s0 (l.take s.k0) ++ [(z, I)]).length c2).ownBlock = some i ∨ (Value.slice D m d).ownBlock = some i) → i ≠ b ∧ i ≠ Bs ∧ i ≠ O ∧ s.hv.ownBlock ≠ some i ∧ i < w2.heap.size := by
    rintro i (e | e | e)
    · obtain ⟨u1, u2, u3, u4, u5⟩ := h3 i e
      exact ⟨u1, u2, u3, u4, by omega⟩
    · rcases hv with e2 | e2
      · rw [e2] at e
        obtain ⟨u1, u2, u3, u4, u5⟩ := h3 i (y2 i e)
        exact ⟨u1, u2, u3, u4, by omega⟩
      · have hi2 := (hf.own.block i e).2
        rw [e2] at e
        injection e with e
        simp at e
        have q1 := Blk.lt hI.bs
        refine ⟨by omega, by omega, by omega, fun e3 => ?_, hi2⟩
        have := (hI.ln.own.block i e3).2
        omega
    · obtain ⟨u1, u2, u3, u4⟩ := x5 i e
      exact ⟨u2, u3, fun e3 => DO (e3 ▸ e), u1, by omega⟩
  refine ⟨v, A2, _, c2, w2, h1.cell 0, h1.frozen 0, lO, r, ⟨v, k2.cell 0⟩, k2.frozen 0, by omega, ?_, ?_⟩
  · refine ⟨⟨.slice A2 _ c2, (fun i => L i ∨ (Value.slice A2 (frs a M p q s0 (l.take s.k0) ++ [(z, I)]).length c2).ownBlock = some i ∨ (Value.slice D m d).ownBlock = some i), k2.set_ 0 _, ?_, fun i hi => ?_, h4, ?_⟩, ?_, by rw [s3]; omega, fun z D m d e => by cases e⟩
    · show FL _ _ _ (frs a M p q s0 (l.take s.k1)) _
      rw [eF]
      refine hf.same (fun i hi => gO.block i ?_ ?_)
      · exact (hL' i hi).2.2.2.2
      · intro e; injection e with e; exact (hL' i hi).2.2.1 e
    · obtain ⟨u1, u2, u3, u4, u5⟩ := hL' i hi
      exact ⟨u1, u2, u3, u4, by rw [s3]; exact u5⟩
    · exact ((h5.more (only_of_below hW1 none) (fun _ e => by cases e)).more g (fun k e => (vb k e).1)).more gO (fun k e => by cases e; exact wO)
    · refine ((hI.later hW1).grown g (fun k e => ?_)).grown gO (fun k e => ?_)
      · obtain ⟨u1, u2, u3, u4, u5⟩ := h3 k (y2 k e)
        have hk := vb k e
        exact ⟨u1, u2, fun e3 => vLs (e3 ▸ e), u4, by omega, fun h0 o s' e3 => by have := (hI.g1 h0 k o s' e3).2.2.2; omega⟩
      · cases e
        exact ⟨hO.1, hO.2.1, hO.2.2, h4, by omega, fun h0 o s' e3 => by have := (hI.g1 h0 O o s' e3).2.2.2; omega⟩
  · refine ⟨by rw [s3]; omega, fun k o _ hk hc => ?_⟩
    have hlt := (Array.getElem?_eq_some_iff.1 hk).1
    have kO : k ≠ O := by
      intro e
      rw [e, show W.heap[O]? = _ from h1] at hk
      injection hk with hk
      subst hk
      cases hc
    have kv : v.ownBlock ≠ some k := by
      intro e
      rcases y1.2 with ⟨e2, _⟩ | ⟨g2, cap, cur, e2, _, hh, _⟩
      · rw [e2] at e; cases e
      · rw [e2] at e
        have e3 : g2 = k := by injection e
        rw [e3, hk] at hh
        injection hh with hh
        subst hh
        cases hc
    exact (Below.heap_setCell w2 ⟨O, 0, none⟩ _ k kO).trans ((g.block k (by simp; omega) (fun e => kv e.symm)).trans ((hW1.block k hlt).trans hk))
end Go.Proofs.YtcpofjelfnkiaaaDoor
