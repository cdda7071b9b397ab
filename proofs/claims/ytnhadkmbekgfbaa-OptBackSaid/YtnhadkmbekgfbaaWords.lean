/-
  Words for byte slices: what a slice of bytes reads as; what is left of it behind draws, new blocks and stores. Nothing here names the program.
-/
import Derived.WalkKit
import Derived.Deep.Draws
namespace Go.Proofs.Ytnhadkmbekgfbaa
open Go.RowKit

/-- a byte as a cell -/
def cellOf (c : UInt8) : Value := .int .u8 (c.toNat : Int)
/-- the number of the byte at place j of l -/
def byteAt (l : List UInt8) (j : Nat) : Int := ((l.getD j 0).toNat : Int)
theorem byteAt_lo (l : List UInt8) (j : Nat) : 0 ≤ byteAt l j := Int.natCast_nonneg _
theorem byteAt_hi (l : List UInt8) (j : Nat) : byteAt l j ≤ 255 := by
  unfold byteAt
  have := (l.getD j 0).toNat_lt
  omega
theorem byteAt_eq (l : List UInt8) (j : Nat) (h : j < l.length) : byteAt l j = (l[j].toNat : Int) := by
  unfold byteAt
  simp [List.getD_eq_getElem?_getD, h]
theorem byteAt_inj {l k : List UInt8} {j : Nat} (h : byteAt l j = byteAt k j) (hl : j < l.length) (hk : j < k.length) : l[j] = k[j] := by
  rw [byteAt_eq l j hl, byteAt_eq k j hk] at h
  exact UInt8.toNat_inj.1 (by omega)
theorem cells_at (l : List UInt8) (j : Nat) (h : j < l.length) : (l.map cellOf)[j]? = some (.int .u8 (byteAt l j)) := by
  rw [byteAt_eq l j h]
  simp [h, cellOf]
theorem cells_one (l : List UInt8) : ∀ u ∈ l.map cellOf, u.oneCell' = true := by
  intro u hu
  obtain ⟨c, _, rfl⟩ := List.mem_map.1 hu
  rfl

/-- The slice at A of n bytes reads as l, all of it in blocks below B. -/
def Rd (w : World) (B : Nat) (A : Option Addr) (n : Nat) (l : List UInt8) : Prop :=
  l.length = n ∧ (0 < n → ∃ b off, A = some ⟨b, off, none⟩ ∧ b < B ∧ ∀ j, j < n → w.cell? ⟨b, off + j, none⟩ = some (.int .u8 (byteAt l j)))

section
variable {w w' : World} {B C n : Nat} {A : Option Addr} {l : List UInt8}
theorem Rd.nil : Rd w B A 0 [] := ⟨rfl, fun h => absurd h (Nat.lt_irrefl 0)⟩
theorem Rd.of_zero (h : Rd w B A 0 l) : l = [] := List.eq_nil_of_length_eq_zero h.1
theorem Rd.kept (h : Rd w B A n l) (hk : ∀ p : Addr, p.block < B → w'.cell? p = w.cell? p) : Rd w' B A n l := by
  refine ⟨h.1, fun hn => ?_⟩
  obtain ⟨b, off, e, hb, hc⟩ := h.2 hn
  exact ⟨b, off, e, hb, fun j hj => (hk _ hb).trans (hc j hj)⟩
theorem Rd.wide (h : Rd w B A n l) (hB : B ≤ C) : Rd w C A n l := by
  refine ⟨h.1, fun hn => ?_⟩
  obtain ⟨b, off, e, hb, hc⟩ := h.2 hn
  exact ⟨b, off, e, by omega, hc⟩
theorem Rd.below (h : Rd w B A n l) (hb : Below B w w') : Rd w' B A n l := h.kept fun _ hp => hb.cell hp
theorem Rd.drew (h : Rd w B A n l) : Rd w.drew B A n l := h
theorem Rd.drewN (h : Rd w B A n l) (k : Nat) : Rd (w.drewN k) B A n l := h
theorem Rd.alloc (h : Rd w B A n l) (hB : B ≤ w.heap.size) (o : Obj) : Rd (w.alloc o) B A n l :=
  h.kept fun p hp => World.cell?_alloc_lt w o p (by omega)
theorem Rd.grown {row : Option Nat} (h : Rd w B A n l) (hg : w.grownBy w' row) (hB : B ≤ w.heap.size) (hr : ∀ g, row = some g → B ≤ g) : Rd w' B A n l :=
  h.kept fun p hp => World.cell?_of_block (hg.block p.block (by omega) (fun e => by have := hr _ e.symm; omega))
end

/-- block g is just the cells cs (of bytes' type), none frozen -/
def Blk (w : World) (g t : Nat) (cs : List Value) : Prop := w.heap[g]? = some (.cells cs.toArray t (0, 0))
theorem Blk.lt {w : World} {g t : Nat} {cs : List Value} (h : Blk w g t cs) : g < w.heap.size := by
  rcases Nat.lt_or_ge g w.heap.size with hlt | hge
  · exact hlt
  · unfold Blk at h
    rw [Array.getElem?_eq_none hge] at h
    cases h
theorem Blk.cell {w : World} {g t : Nat} {cs : List Value} (h : Blk w g t cs) (i : Nat) : w.cell? ⟨g, i, none⟩ = cs[i]? := by
  rw [cell_of_row w g i cs.toArray t (0, 0) h]
  simp
theorem Blk.frozen {w : World} {g t : Nat} {cs : List Value} (h : Blk w g t cs) (i : Nat) : w.frozen? ⟨g, i, none⟩ = false := by
  unfold Blk at h
  simp [World.frozen?, h]
theorem Blk.set_ {w : World} {g t : Nat} {cs : List Value} (h : Blk w g t cs) (i : Nat) (u : Value) : Blk (w.setCell ⟨g, i, none⟩ u) g t (cs.set i u) := by
  unfold Blk at h ⊢
  simp [World.setCell, Array.getElem?_modify, h]

/-- stores into block g, one behind the other from cell o on -/
def wset (w : World) (g o : Nat) : List Value → World
  | [] => w
  | v :: vs => wset (w.setCell ⟨g, o, none⟩ v) g (o + 1) vs
theorem wset_grown (g : Nat) : ∀ (vs : List Value) (w : World) (o : Nat), w.grownBy (wset w g o vs) (some g)
  | [], w, o => ⟨rfl, rfl, rfl, Nat.le_refl _, fun _ _ _ => rfl⟩
  | v :: vs, w, o => by
    have h := wset_grown g vs (w.setCell ⟨g, o, none⟩ v) (o + 1)
    refine ⟨h.os, h.tape, h.output, by have := h.size; rw [World.size_setCell] at this; exact this, fun k hk hne => ?_⟩
    rw [wset, h.block k (by simpa [World.setCell] using hk) hne]
    exact Below.heap_setCell w ⟨g, o, none⟩ v k (fun e => hne (by rw [e]))
theorem wset_blk (g t : Nat) : ∀ (vs : List Value) (w : World) (o : Nat) (cs : List Value), Blk w g t cs → o + vs.length ≤ cs.length →
    Blk (wset w g o vs) g t (cs.take o ++ (vs ++ cs.drop (o + vs.length)))
  | [], w, o, cs, h, _ => by simpa [wset] using h
  | v :: vs, w, o, cs, h, hl => by
    have hl' : o + (vs.length + 1) ≤ cs.length := hl
    have k := wset_blk g t vs _ (o + 1) _ (h.set_ o v) (by rw [List.length_set]; omega)
    have e : (cs.set o v).take (o + 1) ++ (vs ++ (cs.set o v).drop (o + 1 + vs.length)) = cs.take o ++ (v :: vs ++ cs.drop (o + (v :: vs).length)) := by
      have e1 : (cs.set o v).take (o + 1) = cs.take o ++ [v] := by
        rw [List.set_eq_take_append_cons_drop, if_pos (by omega)]
        rw [List.take_append, List.take_take]
        simp [Nat.min_eq_left (show o ≤ cs.length by omega)]
      have e2 : (cs.set o v).drop (o + 1 + vs.length) = cs.drop (o + (v :: vs).length) := by
        rw [List.drop_set_of_lt (by omega)]
        congr 1
        simp
        omega
      rw [e1, e2]
      simp
    rw [e] at k
    exact k

theorem below_drewN {B : Nat} {a w : World} (h : Below B a w) (n : Nat) : Below B a (w.drewN n) := ⟨h.os, h.tape, h.output, h.size, h.block⟩

end Go.Proofs.Ytnhadkmbekgfbaa
