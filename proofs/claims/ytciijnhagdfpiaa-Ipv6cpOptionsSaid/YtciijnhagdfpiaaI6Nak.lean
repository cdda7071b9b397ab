/-
  ipv6cp.Nak: what is asked behind a Nak.
-/
import Derived.Test.YtciijnhagdfpiaaI6Back
import Derived.Test.YtciijnhagdfpiaaI6Look
import Derived.Test.YtciijnhagdfpiaaI6Giv
namespace Go.Proofs.Ytciijnhagdfpiaa
open Go.RowKit Go.Shelf
set_option maxRecDepth 100000
set_option maxHeartbeats 4000000
set_option linter.unusedSimpArgs false
set_option linter.unusedVariables false
attribute [local go_sem] Oper.semAt_some

def nkV (id draw : Int) (o : Opt) : Int := if tkB id o then giv draw id else num o.2 8
def nk6 (id draw : Int) (s : List Opt) : Int × Bool := match s.reverse.find? rgt with
  | none => (id, false)
  | some o => (nkV id draw o, true)
def sAt (s : List Opt) (i : Nat) : Opt := s.getD i (0, [])
theorem revs_map (s : List Opt) : (revs s.length).map (fun x => sAt s x.1) = s.reverse := by
  apply List.ext_getElem?
  intro i
  rw [List.getElem?_map]
  by_cases hi : i < s.length
  · obtain ⟨q, hq⟩ : ∃ q, s.length = i + (q + 1) := ⟨s.length - i - 1, by omega⟩
    have h := revs_at s.length q (by omega)
    rw [show s.length - (q + 1) = i by omega] at h
    rw [h, List.getElem?_reverse hi, show s.length - 1 - i = q by omega]
    simp only [Option.map_some, sAt]
    rw [List.getD_eq_getElem?_getD, List.getElem?_eq_getElem (by omega)]
    rfl
  · rw [List.getElem?_eq_none (by rw [revs_length]; omega), List.getElem?_eq_none (by simp; omega)]
    rfl
theorem nk_none {id draw : Int} {s : List Opt} (h : ∀ x ∈ revs s.length, rgt (sAt s x.1) = false) : nk6 id draw s = (id, false) := by
  unfold nk6
  rw [show s.reverse.find? rgt = none from by
    rw [← revs_map, List.find?_eq_none]
    intro o ho
    obtain ⟨x, hx, rfl⟩ := List.mem_map.1 ho
    rw [h x hx]
    simp]
theorem nk_some {id draw : Int} {s : List Opt} {p q : List (Fin s.length)} {x : Fin s.length} (e : revs s.length = p ++ [x] ++ q) (h : ∀ y ∈ p, rgt (sAt s y.1) = false) (hx : rgt (sAt s x.1) = true) : nk6 id draw s = (nkV id draw (sAt s x.1), true) := by
  unfold nk6
  rw [show s.reverse.find? rgt = some (sAt s x.1) from by
    rw [← revs_map, e, List.map_append, List.map_append, List.append_assoc, List.find?_append]
    rw [show (p.map fun x => sAt s x.1).find? rgt = none from by
      rw [List.find?_eq_none]
      intro o ho
      obtain ⟨y, hy, rfl⟩ := List.mem_map.1 ho
      rw [h y hy]
      simp]
    rw [List.map_singleton, List.singleton_append, List.find?_cons_of_pos hx]
    rfl]
theorem blk_own6 {X Y : World} {row : Option Nat} {g t : Nat} {cs : List Value} (h : Blk X g t cs) (hg : X.grownBy Y row) (hrow : ∀ r, row = some r → ∃ o : Obj, X.heap[r]? = some o ∧ o.isCells = false) : Blk Y g t cs :=
  (hg.block g (Blk.lt h) (fun e => by
    obtain ⟨o, ho, hc⟩ := hrow g e.symm
    rw [show X.heap[g]? = _ from h] at ho
    cases ho
    cases hc)).trans h
/-- the loop's memory: the identifier, the draw, both results -/
structure NkB (w W0 : World) (id draw r : Int) (b : Bool) (W : World) : Prop where
  b0 : Blk W w.heap.size 22 [.int .u64 id]
  b1 : Blk W (w.heap.size + 1) 22 [.int .u64 draw]
  b2 : Blk W (w.heap.size + 2) 22 [.int .u64 r]
  b3 : Blk W (w.heap.size + 3) 4 [.bool b]
  bw : Below w.heap.size w W
  sz : W0.heap.size ≤ W.heap.size
theorem NkB.row {w W0 : World} {id draw r : Int} {b : Bool} (hw : w.heap.size + 4 ≤ W0.heap.size) {X Y : World} {row : Option Nat} (h : NkB w W0 id draw r b X) (hg : X.grownBy Y row) (hr : ∀ r, row = some r → W0.heap.size ≤ r ∧ ∃ o : Obj, X.heap[r]? = some o ∧ o.isCells = false) : NkB w W0 id draw r b Y :=
  ⟨blk_own6 h.b0 hg (fun r e => (hr r e).2), blk_own6 h.b1 hg (fun r e => (hr r e).2), blk_own6 h.b2 hg (fun r e => (hr r e).2), blk_own6 h.b3 hg (fun r e => (hr r e).2), h.bw.grown hg (by have := h.sz; omega) (fun r e => by have := (hr r e).1; omega), Nat.le_trans h.sz hg.size⟩
theorem NkB.later {w W0 : World} {id draw r : Int} {b : Bool} (hw : w.heap.size + 4 ≤ W0.heap.size) {X Y : World} (h : NkB w W0 id draw r b X) (hB : Below X.heap.size X Y) : NkB w W0 id draw r b Y :=
  h.row hw (only_of_below hB none) (fun r e => by cases e)
def NkI (w W0 : World) (id draw : Int) (s : List Opt) (n : Nat) (pre : List (Fin n)) (W : World) : Prop := NkB w W0 id draw 0 false W ∧ ∀ x ∈ pre, rgt (sAt s x.1) = false
def NkX (w W0 : World) (id draw : Int) (s : List Opt) (n : Nat) (c : Code) (pre : List (Fin n)) (W : World) : Prop := c = .ret ∧ ∃ p x, pre = p ++ [x] ∧ NkB w W0 id draw (nkV id draw (sAt s x.1)) true W ∧ (∀ y ∈ p, rgt (sAt s y.1) = false) ∧ rgt (sAt s x.1) = true
/-- both results are stored -/
theorem nk_fin {w W0 W V : World} {id draw : Int} (hw : w.heap.size + 4 ≤ W0.heap.size) (h : NkB w W0 id draw 0 false W) (hB : Below W.heap.size W V) (r : Int) :
    KeepsFrom W0.heap.size W ((V.setCell ⟨w.heap.size + 2, 0, none⟩ (.int .u64 r)).setCell ⟨w.heap.size + 3, 0, none⟩ (.bool true)) ∧ NkB w W0 id draw r true ((V.setCell ⟨w.heap.size + 2, 0, none⟩ (.int .u64 r)).setCell ⟨w.heap.size + 3, 0, none⟩ (.bool true)) := by
  have h1 := h.later hw hB
  have s0 := h.sz
  have s1 := hB.size
  obtain ⟨V1, hV1⟩ : ∃ V1, V.setCell ⟨w.heap.size + 2, 0, none⟩ (.int .u64 r) = V1 := ⟨_, rfl⟩
  have g1 : V.grownBy V1 (some (w.heap.size + 2)) := by rw [← hV1]; exact only_set (p := ⟨w.heap.size + 2, 0, none⟩) _
  have k2 : Blk V1 (w.heap.size + 2) 22 [.int .u64 r] := by rw [← hV1]; exact Blk.set_ h1.b2 0 _
  rw [hV1]
  obtain ⟨V2, hV2⟩ : ∃ V2, V1.setCell ⟨w.heap.size + 3, 0, none⟩ (.bool true) = V2 := ⟨_, rfl⟩
  have g2 : V1.grownBy V2 (some (w.heap.size + 3)) := by rw [← hV2]; exact only_set (p := ⟨w.heap.size + 3, 0, none⟩) _
  have k3' : Blk V1 (w.heap.size + 3) 4 [.bool false] := (g1.block _ (Blk.lt h1.b3) (fun e => by injection e; omega)).trans h1.b3
  have k3 : Blk V2 (w.heap.size + 3) 4 [.bool true] := by rw [← hV2]; exact Blk.set_ k3' 0 _
  rw [hV2]
  have z1 := g1.size
  have z2 := g2.size
  have keep : ∀ i, i < V.heap.size → i ≠ w.heap.size + 2 → i ≠ w.heap.size + 3 → V2.heap[i]? = V.heap[i]? := fun i hi e1 e2 => by
    rw [g2.block i (by omega) (by intro e; injection e with e; exact e2 e), g1.block i hi (by intro e; injection e with e; exact e1 e)]
  refine ⟨⟨by omega, fun i o hi ho hc => ?_⟩, (keep _ (Blk.lt h1.b0) (by omega) (by omega)).trans h1.b0, (keep _ (Blk.lt h1.b1) (by omega) (by omega)).trans h1.b1, (g2.block _ (Blk.lt k2) (fun e => by injection e; omega)).trans k2, k3, ?_, by omega⟩
  · have hi2 := (Array.getElem?_eq_some_iff.1 ho).1
    rw [keep i (by omega) (by omega) (by omega), hB.block i hi2]
    exact ho
  · exact (h1.bw.grown g1 (by omega) (fun q e => by injection e; omega)).grown g2 (by omega) (fun q e => by injection e; omega)
/-- a round's calls -/
def NkC (w W0 W : World) (Bx : Nat) (id draw : Int) (K : Int) (E : Option Addr) (kk cc : Nat) (l : List UInt8) : Prop :=
  Calls Try.prog 44 #[.agg #[.int .i64 K, .slice E kk cc]] W fun e W2 => e = .returned (.bool (rgt (K, l))) ∧ Hid (KeepsFrom W0.heap.size W W2 ∧ Below W.heap.size W W2 ∧ NkB w W0 id draw 0 false W2) ∧ W2.cell? ⟨w.heap.size, 0, none⟩ = some (.int .u64 id) ∧
    (W2.cell? ⟨Bx, 0, none⟩ = some (.int .i64 K) ∧ W2.cell? ⟨Bx, 1, none⟩ = some (.slice E kk cc) ∧ Bx < W2.heap.size) ∧
    (rgt (K, l) = true → Hid (Calls Try.prog 39 #[.pointer (some ⟨W2.heap.size, 0, none⟩), .agg #[.int .i64 K, .slice E kk cc]] (W2.alloc (.cells #[.int .u64 id, .bool false] 58)) fun e W4 => e = .returned (.bool (tkB id (K, l))) ∧
      (W4.cell? ⟨w.heap.size, 0, none⟩ = some (.int .u64 id) ∧ W4.cell? ⟨w.heap.size + 1, 0, none⟩ = some (.int .u64 draw) ∧ W4.cell? ⟨w.heap.size + 2, 0, none⟩ = some (.int .u64 0) ∧ W4.cell? ⟨w.heap.size + 3, 0, none⟩ = some (.bool false) ∧ W4.frozen? ⟨w.heap.size + 2, 0, none⟩ = false ∧ W4.frozen? ⟨w.heap.size + 3, 0, none⟩ = false) ∧
      (W4.cell? ⟨Bx, 0, none⟩ = some (.int .i64 K) ∧ W4.cell? ⟨Bx, 1, none⟩ = some (.slice E kk cc)) ∧
      Hid (Calls Try.prog 24 #[.int .u64 draw, .int .u64 id] W4 fun e W5 => e = .returned (.int .u64 (giv draw id)) ∧ W5 = W4) ∧
      Hid (∀ r, KeepsFrom W0.heap.size W ((W4.setCell ⟨w.heap.size + 2, 0, none⟩ (.int .u64 r)).setCell ⟨w.heap.size + 3, 0, none⟩ (.bool true)) ∧ NkB w W0 id draw r true ((W4.setCell ⟨w.heap.size + 2, 0, none⟩ (.int .u64 r)).setCell ⟨w.heap.size + 3, 0, none⟩ (.bool true))) ∧
      Hid (Calls Try.prog 34 #[.agg #[.int .i64 K, .slice E kk cc]] W4 fun e W5 => e = .returned (.int .u64 (num l 8)) ∧
        (W5.cell? ⟨w.heap.size + 2, 0, none⟩ = some (.int .u64 0) ∧ W5.cell? ⟨w.heap.size + 3, 0, none⟩ = some (.bool false) ∧ W5.frozen? ⟨w.heap.size + 2, 0, none⟩ = false ∧ W5.frozen? ⟨w.heap.size + 3, 0, none⟩ = false) ∧
        Hid (KeepsFrom W0.heap.size W ((W5.setCell ⟨w.heap.size + 2, 0, none⟩ (.int .u64 (num l 8))).setCell ⟨w.heap.size + 3, 0, none⟩ (.bool true)) ∧ NkB w W0 id draw (num l 8) true ((W5.setCell ⟨w.heap.size + 2, 0, none⟩ (.int .u64 (num l 8))).setCell ⟨w.heap.size + 3, 0, none⟩ (.bool true))))))
theorem nk_calls {w W0 W : World} {Bx : Nat} {id draw : Int} {K : Int} {E : Option Addr} {kk cc B : Nat} {l : List UInt8} (hw : w.heap.size + 4 ≤ W0.heap.size) (h : NkB w W0 id draw 0 false W) (hX : Blk W Bx 54 [.int .i64 K, .slice E kk cc]) (hr : Rd W B E kk l) (hB : B ≤ W.heap.size) (hkc : kk ≤ cc) (hd : In64 draw) :
    NkC w W0 W Bx id draw K E kk cc l := by
  unfold NkC
  refine (right6_any K E kk cc l W hr.1).mono ?_
  rintro e W2 ⟨rfl, b2⟩
  have s2 := b2.size
  have h2 := h.later hw b2
  have X2 := (b2.block _ (Blk.lt hX)).trans hX
  refine ⟨rfl, Lib.hid ⟨⟨s2, fun i o hi ho hc => (b2.block i (Array.getElem?_eq_some_iff.1 ho).1).trans ho⟩, b2, h2⟩, Blk.cell h2.b0 0, ⟨Blk.cell X2 0, Blk.cell X2 1, Blk.lt X2⟩, fun hrg => Lib.hid ?_⟩
  obtain ⟨_, h8⟩ := right_yes hrg
  have hl := hr.1
  obtain rfl : kk = 8 := by have : l.length = kk := hl; omega
  have BA : Below W2.heap.size W2 (W2.alloc (.cells #[.int .u64 id, .bool false] 58)) := (Below.refl _ _).alloc (Nat.le_refl _) _
  have kz := blk_new W2 58 (lookC id false)
  have kz' : Blk (W2.alloc (.cells #[.int .u64 id, .bool false] 58)) W2.heap.size 58 (lookC id false) := kz
  have B3 := b2.trans (BA.mono s2)
  generalize W2.alloc (.cells #[.int .u64 id, .bool false] 58) = W3 at kz' BA B3 ⊢
  have s3 := BA.size
  refine (taken6_any W2.heap.size id false K E cc B l W3 kz' (hr.below (B3.mono hB)) (by omega) hkc).mono ?_
  rintro e W4 ⟨rfl, b4⟩
  have B4 := B3.trans (b4.mono (by omega))
  have s4 := b4.size
  have h4 := h.later hw B4
  have X4 := (B4.block _ (Blk.lt hX)).trans hX
  refine ⟨rfl, ⟨Blk.cell h4.b0 0, Blk.cell h4.b1 0, Blk.cell h4.b2 0, Blk.cell h4.b3 0, Blk.frozen h4.b2 0, Blk.frozen h4.b3 0⟩, ⟨Blk.cell X4 0, Blk.cell X4 1⟩, Lib.hid (given_any draw id W4 hd), Lib.hid (fun r => nk_fin hw h B4 r), Lib.hid ((asked_any K E cc B l W4 (hr.below (B4.mono hB)) (by omega) hkc).mono ?_)⟩
  rintro e W5 ⟨rfl, b5⟩
  have B5 := B4.trans (b5.mono (by omega))
  have h5 := h.later hw B5
  exact ⟨rfl, ⟨Blk.cell h5.b2 0, Blk.cell h5.b3 0, Blk.frozen h5.b2 0, Blk.frozen h5.b3 0⟩, Lib.hid (nk_fin hw h B5 _)⟩
end Go.Proofs.Ytciijnhagdfpiaa
