/-
  hdlc.Line: bytes that come: what they make; what the iterator holds in memory.
-/
import Derived.Test.YtmdlpbgelgeiaaaDoorHdNew
import Derived.Test.YtmdlpbgelgeiaaaDoorHdDir
namespace Go.Proofs.YtmdlpbgelgeiaaaDoor
open Go.RowKit
set_option maxRecDepth 100000
set_option maxHeartbeats 2000000
set_option linter.unusedSimpArgs false
set_option linter.unusedVariables false

abbrev Frm := Int × List UInt8
/-- a byte that comes -/
def stp1 (a : Int) (M : Nat) (p q : Bool) (s : LSt) (c : UInt8) : LSt := if kd a c.toNat = 1 then s else if kd a c.toNat = 3 then endS M p q s else tkS M s c
/-- the frame that a byte ends -/
def out1 (a : Int) (M : Nat) (p q : Bool) (s : LSt) (c : UInt8) : List Frm := if kd a c.toNat = 3 ∧ endB M p q s = true then [(frP s.held, frI s.held)] else []
def runS (a : Int) (M : Nat) (p q : Bool) (s : LSt) : List UInt8 → LSt
  | [] => s
  | c :: l => runS a M p q (stp1 a M p q s c) l
def frs (a : Int) (M : Nat) (p q : Bool) (s : LSt) : List UInt8 → List Frm
  | [] => []
  | c :: l => out1 a M p q s c ++ frs a M p q (stp1 a M p q s c) l
theorem runS_append (a : Int) (M : Nat) (p q : Bool) : ∀ (l m : List UInt8) (s : LSt), runS a M p q s (l ++ m) = runS a M p q (runS a M p q s l) m
  | [], m, s => rfl
  | c :: l, m, s => runS_append a M p q l m _
theorem frs_append (a : Int) (M : Nat) (p q : Bool) : ∀ (l m : List UInt8) (s : LSt), frs a M p q s (l ++ m) = frs a M p q s l ++ frs a M p q (runS a M p q s l) m
  | [], m, s => rfl
  | c :: l, m, s => by
    show out1 a M p q s c ++ frs a M p q _ (l ++ m) = out1 a M p q s c ++ frs a M p q _ l ++ _
    rw [frs_append a M p q l m, List.append_assoc]
    rfl
theorem hd_take_next (l : List UInt8) (k : Nat) (h : k < l.length) : l.take (k + 1) = l.take k ++ [l.getD k 0] := by
  rw [List.take_succ_eq_append_getElem h]
  congr 1
  rw [List.getD_eq_getElem?_getD, List.getElem?_eq_getElem h]
  rfl
theorem runS_next (a : Int) (M : Nat) (p q : Bool) (s : LSt) (l : List UInt8) (k : Nat) (h : k < l.length) : runS a M p q s (l.take (k + 1)) = stp1 a M p q (runS a M p q s (l.take k)) (l.getD k 0) := by
  rw [hd_take_next l k h, runS_append]
  rfl
theorem frs_next (a : Int) (M : Nat) (p q : Bool) (s : LSt) (l : List UInt8) (k : Nat) (h : k < l.length) : frs a M p q s (l.take (k + 1)) = frs a M p q s (l.take k) ++ out1 a M p q (runS a M p q s (l.take k)) (l.getD k 0) := by
  rw [hd_take_next l k h, frs_append]
  show _ ++ (out1 _ _ _ _ _ _ ++ []) = _
  rw [List.append_nil]

structure ItS (Bd Bs Ls b : Nat) (a : Int) (M : Nat) (p q : Bool) (hv : Value) (s : LSt) (A : Option Addr) (n c : Nat) (r : List UInt8) (W : World) : Prop where
  ln : LnAt W b a M p q hv s
  bs : Blk W Bs 22 [.slice A n c]
  ls : Blk W Ls 45 [.pointer (some ⟨b, 0, none⟩)]
  rd : Rd W Bd A n r
  lb : Bd ≤ W.heap.size
  nc : n ≤ c
  tb : Tab16 W
  n1 : Bs ≠ b
  n2 : Ls ≠ b
  n3 : Bs ≠ Ls
  h1 : hv.ownBlock ≠ some Bs
  h2 : hv.ownBlock ≠ some Ls
  g1 : 0 < n → ∀ g o s, A = some ⟨g, o, s⟩ → g ≠ b ∧ g ≠ Bs ∧ hv.ownBlock ≠ some g ∧ g < Bd
  t1 : 0 < b
  t2 : 0 < Bs
/-- the line has gone on: whatever else was there is as it was -/
theorem ItS.step {Bd Bs Ls b : Nat} {a : Int} {M : Nat} {p q : Bool} {hv hv' : Value} {s s' : LSt} {A : Option Addr} {n c : Nat} {r : List UInt8} {W W' : World} (h : ItS Bd Bs Ls b a M p q hv s A n c r W) (hL : LnAt W' b a M p q hv' s') (hT : Trn b hv hv' W W') : ItS Bd Bs Ls b a M p q hv' s' A n c r W' := by
  have sz := hT.size
  have own2 : ∀ k, k < W.heap.size → hv.ownBlock ≠ some k → hv'.ownBlock ≠ some k := fun k hk hn e => by
    rcases hT.own k e with x | x
    · exact hn x
    · omega
  refine ⟨hL, (hT.block _ (Blk.lt h.bs) h.n1 h.h1).trans h.bs, (hT.block _ (Blk.lt h.ls) h.n2 h.h2).trans h.ls, ⟨h.rd.1, fun h0 => ?_⟩, Nat.le_trans h.lb sz, h.nc, ?_, h.n1, h.n2, h.n3, own2 _ (Blk.lt h.bs) h.h1, own2 _ (Blk.lt h.ls) h.h2, fun h0 g o sp e => ?_, h.t1, h.t2⟩
  · obtain ⟨g, o, e, hlt, hc⟩ := h.rd.2 h0
    obtain ⟨x1, x2, x3, x4⟩ := h.g1 h0 g o none e
    exact ⟨g, o, e, hlt, fun j hj => (World.cell?_of_block (a := ⟨g, o + j, none⟩) (hT.block g (Nat.lt_of_lt_of_le hlt h.lb) x1 x3)).trans (hc j hj)⟩
  · intro i hi
    have h0 := h.tb i hi
    have hlt := World.block_lt_of_cell? _ _ h0
    have t1 := h.t1
    refine (World.cell?_of_block (a := ⟨0, i, none⟩) (hT.block _ hlt (by show 0 ≠ b; omega) (fun e => ?_))).trans h0
    have e' : hv.ownBlock = some 0 := e
    have := (h.ln.own.block _ e').1
    omega
  · obtain ⟨x1, x2, x3, x4⟩ := h.g1 h0 g o sp e
    exact ⟨x1, x2, own2 g (Nat.lt_of_lt_of_le x4 h.lb) x3, x4⟩
/-- the iterator's own cell is set -/
theorem ItS.next {Bd Bs Ls b : Nat} {a : Int} {M : Nat} {p q : Bool} {hv : Value} {s : LSt} {A A' : Option Addr} {n c n' c' : Nat} {r r' : List UInt8} {W : World} (h : ItS Bd Bs Ls b a M p q hv s A n c r W) (hr : Rd W Bd A' n' r') (hc : n' ≤ c') (hn : n' ≤ n) (hA : ∀ g o s, A' = some ⟨g, o, s⟩ → ∃ o' s', A = some ⟨g, o', s'⟩) :
    ItS Bd Bs Ls b a M p q hv s A' n' c' r' (W.setCell ⟨Bs, 0, none⟩ (.slice A' n' c')) := by
  have hgr : W.grownBy (W.setCell ⟨Bs, 0, none⟩ (.slice A' n' c')) (some Bs) := only_set _
  have hsz : W.heap.size ≤ (W.setCell ⟨Bs, 0, none⟩ (.slice A' n' c')).heap.size := hgr.size
  refine ⟨h.ln.other Bs 0 _ h.n1 h.h1, h.bs.set_ 0 _, (hgr.block _ (Blk.lt h.ls) (fun e => h.n3 (by injection e with e; exact e.symm))).trans h.ls, ⟨hr.1, fun h0 => ?_⟩, Nat.le_trans h.lb hsz, hc, ?_, h.n1, h.n2, h.n3, h.h1, h.h2, fun h0 g o sp e => ?_, h.t1, h.t2⟩
  · obtain ⟨g, o, e, hlt, hcell⟩ := hr.2 h0
    obtain ⟨o', s', e'⟩ := hA g o none e
    obtain ⟨x1, x2, x3, x4⟩ := h.g1 (by omega) g o' s' e'
    exact ⟨g, o, e, hlt, fun j hj => (World.cell?_of_block (a := ⟨g, o + j, none⟩) (hgr.block g (Nat.lt_of_lt_of_le hlt h.lb) (fun e => x2 (by injection e)))).trans (hcell j hj)⟩
  · exact h.tb.grown hgr (fun q e => by cases e; exact h.t2)
  · obtain ⟨o', s', e'⟩ := hA g o sp e
    obtain ⟨x1, x2, x3, x4⟩ := h.g1 (by omega) g o' s' e'
    exact ⟨x1, x2, x3, x4⟩
/-- new blocks, and blocks that are no cells -/
theorem ItS.grown {Bd Bs Ls b : Nat} {a : Int} {M : Nat} {p q : Bool} {hv : Value} {s : LSt} {A : Option Addr} {n c : Nat} {r : List UInt8} {W W' : World} {row : Option Nat} (h : ItS Bd Bs Ls b a M p q hv s A n c r W) (hg : W.grownBy W' row)
    (hr : ∀ k, row = some k → k ≠ b ∧ k ≠ Bs ∧ k ≠ Ls ∧ hv.ownBlock ≠ some k ∧ k ≠ 0 ∧ (0 < n → ∀ o s, A ≠ some ⟨k, o, s⟩)) : ItS Bd Bs Ls b a M p q hv s A n c r W' := by
  have sz := hg.size
  have nn : ∀ i, (∀ k, row = some k → i ≠ k) → some i ≠ row := fun i hi e => hi i e.symm rfl
  refine ⟨⟨(hg.block b (Blk.lt h.ln.blk) (nn b fun k e => (hr k e).1.symm)).trans h.ln.blk, h.ln.own.grown hg ?_, h.ln.len⟩, (hg.block _ (Blk.lt h.bs) (nn _ fun k e => (hr k e).2.1.symm)).trans h.bs, (hg.block _ (Blk.lt h.ls) (nn _ fun k e => (hr k e).2.2.1.symm)).trans h.ls, ⟨h.rd.1, fun h0 => ?_⟩, Nat.le_trans h.lb sz, h.nc, ?_, h.n1, h.n2, h.n3, h.h1, h.h2, fun h0 g o sp e => ?_, h.t1, h.t2⟩
  · rcases hv' : hv.ownBlock with _ | g
    · exact .inl rfl
    · exact .inr (fun e => (hr g e.symm).2.2.2.1 hv')
  · obtain ⟨g, o, e, hlt, hc⟩ := h.rd.2 h0
    exact ⟨g, o, e, hlt, fun j hj => (World.cell?_of_block (a := ⟨g, o + j, none⟩) (hg.block g (Nat.lt_of_lt_of_le hlt h.lb) (nn _ fun k e' ek => (hr k e').2.2.2.2.2 h0 o none (by rw [← ek]; exact e)))).trans (hc j hj)⟩
  · intro i hi
    have h0 := h.tb i hi
    have hlt := World.block_lt_of_cell? _ _ h0
    exact (World.cell?_of_block (a := ⟨0, i, none⟩) (hg.block _ hlt (nn _ fun k e => (hr k e).2.2.2.2.1.symm))).trans h0
  · obtain ⟨x1, x2, x3, x4⟩ := h.g1 h0 g o sp e
    exact ⟨x1, x2, x3, x4⟩
theorem ItS.drewN {Bd Bs Ls b : Nat} {a : Int} {M : Nat} {p q : Bool} {hv : Value} {s : LSt} {A : Option Addr} {n c : Nat} {r : List UInt8} {W : World} (h : ItS Bd Bs Ls b a M p q hv s A n c r W) (k : Nat) : ItS Bd Bs Ls b a M p q hv s A n c r (W.drewN k) :=
  h.grown (row := none) ⟨rfl, rfl, rfl, Nat.le_refl _, fun _ _ _ => rfl⟩ (fun _ e => by cases e)
theorem ItS.later {Bd Bs Ls b : Nat} {a : Int} {M : Nat} {p q : Bool} {hv : Value} {s : LSt} {A : Option Addr} {n c : Nat} {r : List UInt8} {W W' : World} (h : ItS Bd Bs Ls b a M p q hv s A n c r W) (hB : Below W.heap.size W W') : ItS Bd Bs Ls b a M p q hv s A n c r W' :=
  h.grown (only_of_below hB none) (fun _ e => by cases e)
theorem cells_of {W : World} {a : Addr} {v : Value} (h : W.cell? a = some v) : ∃ cs t fz, W.heap[a.block]? = some (.cells cs t fz) := by
  unfold World.cell? at h
  rcases hb : W.heap[a.block]? with _ | o
  · rw [hb] at h; simp at h
  · cases o
    all_goals first
      | exact ⟨_, _, _, rfl⟩
      | (rw [hb] at h; simp at h)
/-- a block that holds no cells is none of the iterator's -/
theorem ItS.nocells {Bd Bs Ls b : Nat} {a : Int} {M : Nat} {p q : Bool} {hv : Value} {s : LSt} {A : Option Addr} {n c : Nat} {r : List UInt8} {W W' : World} {row : Option Nat} (h : ItS Bd Bs Ls b a M p q hv s A n c r W) (hg : W.grownBy W' row) (hr : ∀ k, row = some k → ∃ o : Obj, W.heap[k]? = some o ∧ o.isCells = false) : ItS Bd Bs Ls b a M p q hv s A n c r W' := by
  refine h.grown hg fun k e => ?_
  obtain ⟨o, ho, hc⟩ := hr k e
  have no : ∀ i cs t fz, W.heap[i]? = some (.cells cs t fz) → k ≠ i := by
    intro i cs t fz hi e
    subst e
    rw [hi] at ho
    injection ho with ho
    subst ho
    cases hc
  refine ⟨no _ _ _ _ h.ln.blk, no _ _ _ _ h.bs, no _ _ _ _ h.ls, fun e => ?_, ?_, fun h0 o' s' e => ?_⟩
  · rcases h.ln.own.2 with ⟨e2, _⟩ | ⟨g, cap, cur, e2, _, hh, _⟩
    · rw [e2] at e; cases e
    · rw [e2] at e
      have e3 : g = k := by injection e
      exact no _ _ _ _ hh e3.symm
  · obtain ⟨cs, t, fz, hh⟩ := cells_of (h.tb 0 (by omega))
    exact no _ _ _ _ hh
  · obtain ⟨g, o, e2, _, hcell⟩ := h.rd.2 h0
    rw [e2] at e
    injection e with e
    injection e with e3
    obtain ⟨cs, t, fz, hh⟩ := cells_of (hcell 0 h0)
    exact no _ _ _ _ hh e3.symm
/-- s[1:] of bytes that lie in one block -/
theorem slice_one (g o n c B : Nat) (l : List UInt8) (w : World) (hr : Rd w B (some ⟨g, o, none⟩) n l) (hc : n ≤ c) (h1 : 1 ≤ n) :
    ∃ o' c', (∀ W, (Instr.slice 22 (.slice (some ⟨g, o, none⟩) n c) (some (.int .i64 1)) none none).run Tryd.prog W = .ok (.slice (some ⟨g, o', none⟩) (n - 1) c') W) ∧ Rd w B (some ⟨g, o', none⟩) (n - 1) (l.drop 1) ∧ n - 1 ≤ c' := by
  have hl := hr.1
  have hrun : ∀ W, (Instr.slice 22 (.slice (some ⟨g, o, none⟩) n c) (some (.int .i64 1)) none none).run Tryd.prog W = .ok (sliced (some ⟨g, o, none⟩) 1 n c 1) W := by
    intro W
    rw [run_slice_l W 22 _ _ _ (by rw [slice_elem]; exact Tryd.underlying22) .i64 _ (by omega) (by omega), slice_elem, byte_sizeOf]
    rfl
  by_cases hc1 : c = 1
  · refine ⟨o, c - 1, fun W => ?_, ⟨by rw [List.length_drop]; omega, fun h0 => by omega⟩, by omega⟩
    rw [hrun]
    simp [sliced, hc1]
  · refine ⟨o + 1, c - 1, fun W => ?_, ⟨by rw [List.length_drop]; omega, fun h0 => ?_⟩, by omega⟩
    · rw [hrun]
      simp [sliced, hc1, Addr.add]
    · obtain ⟨b', o', e, hb, hcell⟩ := hr.2 (by omega)
      cases e
      refine ⟨g, o + 1, rfl, hb, fun j hj => ?_⟩
      rw [Nat.add_assoc, hcell (1 + j) (by omega)]
      congr 2
      unfold byteAt
      rw [List.getD_eq_getElem?_getD, List.getD_eq_getElem?_getD, List.getElem?_drop]
end Go.Proofs.YtmdlpbgelgeiaaaDoor
