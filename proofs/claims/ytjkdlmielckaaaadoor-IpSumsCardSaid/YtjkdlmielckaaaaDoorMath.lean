/-
  Words for byte slices: what a slice of bytes reads as; what is left of it behind draws, new blocks and stores. Nothing here names the program.
  Plain arithmetic: the number that bytes stand for, highest first; 'or' of numbers whose bits do not meet.
-/
import Derived.WalkKit
import Derived.Deep.Draws
import Derived.Laws.BitsAllLaws
namespace Go.Proofs.YtjkdlmielckaaaaDoor
open Go.RowKit

/-- a byte as a cell -/
def cellOf (c : UInt8) : Value := .int .u8 (c.toNat : Int)
/-- the number of the byte at place j of l -/
def byteAt (l : List UInt8) (j : Nat) : Int := ((l.getD j 0).toNat : Int)
theorem byteAt_lo (l : List UInt8) (j : Nat) : 0 ≤ byteAt l j := Int.natCast_nonneg _
theorem byteAt_hi (l : List UInt8) (j : Nat) : byteAt l j ≤ 255 := by
  unfold byteAt
  have := (l.getD j 0).toNat_lt
  omega
theorem byteAt_eq (l : List UInt8) (j : Nat) (h : j < l.length) : byteAt l j = (l[j].toNat : Int) := by
  unfold byteAt
  simp [List.getD_eq_getElem?_getD, h]
theorem byteAt_inj {l k : List UInt8} {j : Nat} (h : byteAt l j = byteAt k j) (hl : j < l.length) (hk : j < k.length) : l[j] = k[j] := by
  rw [byteAt_eq l j hl, byteAt_eq k j hk] at h
  exact UInt8.toNat_inj.1 (by omega)
theorem cells_at (l : List UInt8) (j : Nat) (h : j < l.length) : (l.map cellOf)[j]? = some (.int .u8 (byteAt l j)) := by
  rw [byteAt_eq l j h]
  simp [h, cellOf]
theorem cells_one (l : List UInt8) : ∀ u ∈ l.map cellOf, u.oneCell' = true := by
  intro u hu
  obtain ⟨c, _, rfl⟩ := List.mem_map.1 hu
  rfl

/-- The slice at A of n bytes reads as l, all of it in blocks below B. -/
def Rd (w : World) (B : Nat) (A : Option Addr) (n : Nat) (l : List UInt8) : Prop :=
  l.length = n ∧ (0 < n → ∃ b off, A = some ⟨b, off, none⟩ ∧ b < B ∧ ∀ j, j < n → w.cell? ⟨b, off + j, none⟩ = some (.int .u8 (byteAt l j)))

section
variable {w w' : World} {B C n : Nat} {A : Option Addr} {l : List UInt8}
theorem Rd.nil : Rd w B A 0 [] := ⟨rfl, fun h => absurd h (Nat.lt_irrefl 0)⟩
theorem Rd.of_zero (h : Rd w B A 0 l) : l = [] := List.eq_nil_of_length_eq_zero h.1
theorem Rd.kept (h : Rd w B A n l) (hk : ∀ p : Addr, p.block < B → w'.cell? p = w.cell? p) : Rd w' B A n l := by
  refine ⟨h.1, fun hn => ?_⟩
  obtain ⟨b, off, e, hb, hc⟩ := h.2 hn
  exact ⟨b, off, e, hb, fun j hj => (hk _ hb).trans (hc j hj)⟩
theorem Rd.wide (h : Rd w B A n l) (hB : B ≤ C) : Rd w C A n l := by
  refine ⟨h.1, fun hn => ?_⟩
  obtain ⟨b, off, e, hb, hc⟩ := h.2 hn
  exact ⟨b, off, e, by omega, hc⟩
theorem Rd.below (h : Rd w B A n l) (hb : Below B w w') : Rd w' B A n l := h.kept fun _ hp => hb.cell hp
theorem Rd.drew (h : Rd w B A n l) : Rd w.drew B A n l := h
theorem Rd.drewN (h : Rd w B A n l) (k : Nat) : Rd (w.drewN k) B A n l := h
theorem Rd.alloc (h : Rd w B A n l) (hB : B ≤ w.heap.size) (o : Obj) : Rd (w.alloc o) B A n l :=
  h.kept fun p hp => World.cell?_alloc_lt w o p (by omega)
theorem Rd.grown {row : Option Nat} (h : Rd w B A n l) (hg : w.grownBy w' row) (hB : B ≤ w.heap.size) (hr : ∀ g, row = some g → B ≤ g) : Rd w' B A n l :=
  h.kept fun p hp => World.cell?_of_block (hg.block p.block (by omega) (fun e => by have := hr _ e.symm; omega))
end

/-- block g is just the cells cs (of bytes' type), none frozen -/
def Blk (w : World) (g t : Nat) (cs : List Value) : Prop := w.heap[g]? = some (.cells cs.toArray t (0, 0))
theorem Blk.lt {w : World} {g t : Nat} {cs : List Value} (h : Blk w g t cs) : g < w.heap.size := by
  rcases Nat.lt_or_ge g w.heap.size with hlt | hge
  · exact hlt
  · unfold Blk at h
    rw [Array.getElem?_eq_none hge] at h
    cases h
theorem Blk.cell {w : World} {g t : Nat} {cs : List Value} (h : Blk w g t cs) (i : Nat) : w.cell? ⟨g, i, none⟩ = cs[i]? := by
  rw [cell_of_row w g i cs.toArray t (0, 0) h]
  simp
theorem Blk.frozen {w : World} {g t : Nat} {cs : List Value} (h : Blk w g t cs) (i : Nat) : w.frozen? ⟨g, i, none⟩ = false := by
  unfold Blk at h
  simp [World.frozen?, h]
theorem Blk.set_ {w : World} {g t : Nat} {cs : List Value} (h : Blk w g t cs) (i : Nat) (u : Value) : Blk (w.setCell ⟨g, i, none⟩ u) g t (cs.set i u) := by
  unfold Blk at h ⊢
  simp [World.setCell, Array.getElem?_modify, h]

/-- stores into block g, one behind the other from cell o on -/
def wset (w : World) (g o : Nat) : List Value → World
  | [] => w
  | v :: vs => wset (w.setCell ⟨g, o, none⟩ v) g (o + 1) vs
theorem wset_grown (g : Nat) : ∀ (vs : List Value) (w : World) (o : Nat), w.grownBy (wset w g o vs) (some g)
  | [], w, o => ⟨rfl, rfl, rfl, Nat.le_refl _, fun _ _ _ => rfl⟩
  | v :: vs, w, o => by
    have h := wset_grown g vs (w.setCell ⟨g, o, none⟩ v) (o + 1)
    refine ⟨h.os, h.tape, h.output, by have := h.size; rw [World.size_setCell] at this; exact this, fun k hk hne => ?_⟩
    rw [wset, h.block k (by simpa [World.setCell] using hk) hne]
    exact Below.heap_setCell w ⟨g, o, none⟩ v k (fun e => hne (by rw [e]))
theorem wset_blk (g t : Nat) : ∀ (vs : List Value) (w : World) (o : Nat) (cs : List Value), Blk w g t cs → o + vs.length ≤ cs.length →
    Blk (wset w g o vs) g t (cs.take o ++ (vs ++ cs.drop (o + vs.length)))
  | [], w, o, cs, h, _ => by simpa [wset] using h
  | v :: vs, w, o, cs, h, hl => by
    have hl' : o + (vs.length + 1) ≤ cs.length := hl
    have k := wset_blk g t vs _ (o + 1) _ (h.set_ o v) (by rw [List.length_set]; omega)
    have e : (cs.set o v).take (o + 1) ++ (vs ++ (cs.set o v).drop (o + 1 + vs.length)) = cs.take o ++ (v :: vs ++ cs.drop (o + (v :: vs).length)) := by
      have e1 : (cs.set o v).take (o + 1) = cs.take o ++ [v] := by
        rw [List.set_eq_take_append_cons_drop, if_pos (by omega)]
        rw [List.take_append, List.take_take]
        simp [Nat.min_eq_left (show o ≤ cs.length by omega)]
      have e2 : (cs.set o v).drop (o + 1 + vs.length) = cs.drop (o + (v :: vs).length) := by
        rw [List.drop_set_of_lt (by omega)]
        congr 1
        simp
        omega
      rw [e1, e2]
      simp
    rw [e] at k
    exact k

theorem below_drewN {B : Nat} {a w : World} (h : Below B a w) (n : Nat) : Below B a (w.drewN n) := ⟨h.os, h.tape, h.output, h.size, h.block⟩

end Go.Proofs.YtjkdlmielckaaaaDoor
namespace Go.Proofs.YtjkdlmielckaaaaDoor
open Go.RowKit
set_option linter.unusedSimpArgs false

/-- the number of the first k bytes of l, the highest first -/
def num (l : List UInt8) : Nat → Int
  | 0 => 0
  | k + 1 => num l k * 256 + byteAt l k

theorem num_lo (l : List UInt8) : ∀ k, 0 ≤ num l k
  | 0 => Int.le_refl 0
  | k + 1 => by
    have := num_lo l k
    have := byteAt_lo l k
    show 0 ≤ num l k * 256 + byteAt l k
    omega
theorem num_hi (l : List UInt8) : ∀ k, num l k < 256 ^ k
  | 0 => by simp [num]
  | k + 1 => by
    have h := num_hi l k
    have := byteAt_hi l k
    show num l k * 256 + byteAt l k < 256 ^ (k + 1)
    rw [Int.pow_succ]
    omega
theorem num_congr (l m : List UInt8) : ∀ k, (∀ j, j < k → byteAt l j = byteAt m j) → num l k = num m k
  | 0, _ => rfl
  | k + 1, h => by
    show num l k * 256 + byteAt l k = num m k * 256 + byteAt m k
    rw [num_congr l m k (fun j hj => h j (by omega)), h k (by omega)]

theorem or_sum (A q : Int) (k : Nat) (h0 : 0 ≤ A) (hd : A % 2 ^ k = 0) (hq0 : 0 ≤ q) (hq : q < 2 ^ k) (hs : A + q < 18446744073709551616) :
    bits .or .u64 A q = A + q := by
  obtain ⟨a, rfl⟩ := Int.eq_ofNat_of_zero_le h0
  obtain ⟨b, rfl⟩ := Int.eq_ofNat_of_zero_le hq0
  rw [u64_or_nat a b (by omega) (by omega)]
  have hb : b < 2 ^ k := by
    have e : ((2 ^ k : Nat) : Int) = (2 : Int) ^ k := by simp
    rw [← e] at hq
    omega
  have ha : a % 2 ^ k = 0 := by
    have e : ((2 ^ k : Nat) : Int) = (2 : Int) ^ k := by simp
    rw [← e] at hd
    omega
  have hc : 2 ^ k * (a / 2 ^ k) = a := by
    have := Nat.div_add_mod a (2 ^ k)
    omega
  have := Nat.two_pow_add_eq_or_of_lt hb (a / 2 ^ k)
  rw [hc] at this
  omega
theorem or_none (q : Int) (hq0 : 0 ≤ q) (hs : q < 18446744073709551616) : bits .or .u64 0 q = q := by
  have := or_sum 0 q 64 (by omega) (by simp) hq0 (by omega) (by omega)
  omega
theorem or_8 (A q : Int) (h0 : 0 ≤ A) (hd : A % 256 = 0) (hq0 : 0 ≤ q) (hq : q < 256) (hs : A + q < 18446744073709551616) : bits .or .u64 A q = A + q := or_sum A q 8 h0 (by omega) hq0 (by omega) hs
theorem or_16 (A q : Int) (h0 : 0 ≤ A) (hd : A % 65536 = 0) (hq0 : 0 ≤ q) (hq : q < 65536) (hs : A + q < 18446744073709551616) : bits .or .u64 A q = A + q := or_sum A q 16 h0 (by omega) hq0 (by omega) hs
theorem or_24 (A q : Int) (h0 : 0 ≤ A) (hd : A % 16777216 = 0) (hq0 : 0 ≤ q) (hq : q < 16777216) (hs : A + q < 18446744073709551616) : bits .or .u64 A q = A + q := or_sum A q 24 h0 (by omega) hq0 (by omega) hs
theorem or_32 (A q : Int) (h0 : 0 ≤ A) (hd : A % 4294967296 = 0) (hq0 : 0 ≤ q) (hq : q < 4294967296) (hs : A + q < 18446744073709551616) : bits .or .u64 A q = A + q := or_sum A q 32 h0 (by omega) hq0 (by omega) hs
theorem or_40 (A q : Int) (h0 : 0 ≤ A) (hd : A % 1099511627776 = 0) (hq0 : 0 ≤ q) (hq : q < 1099511627776) (hs : A + q < 18446744073709551616) : bits .or .u64 A q = A + q := or_sum A q 40 h0 (by omega) hq0 (by omega) hs
theorem or_48 (A q : Int) (h0 : 0 ≤ A) (hd : A % 281474976710656 = 0) (hq0 : 0 ≤ q) (hq : q < 281474976710656) (hs : A + q < 18446744073709551616) : bits .or .u64 A q = A + q := or_sum A q 48 h0 (by omega) hq0 (by omega) hs
theorem or_56 (A q : Int) (h0 : 0 ≤ A) (hd : A % 72057594037927936 = 0) (hq0 : 0 ≤ q) (hq : q < 72057594037927936) (hs : A + q < 18446744073709551616) : bits .or .u64 A q = A + q := or_sum A q 56 h0 (by omega) hq0 (by omega) hs
theorem ret_u64 {a b : Int} (h : a = b) : Ending.returned (.int .u64 a) = .returned (.int .u64 b) := by rw [h]

/-- n in k bytes, the highest first -/
def putB (n : Nat) : Nat → List UInt8
  | 0 => []
  | k + 1 => putB (n / 256) k ++ [UInt8.ofNat (n % 256)]
theorem putB_length (n : Nat) : ∀ k, (putB n k).length = k
  | 0 => rfl
  | k + 1 => by simp [putB, putB_length (n / 256) k]
theorem cellOf_ofNat (m : Nat) : cellOf (UInt8.ofNat (m % 256)) = .int .u8 ((m : Int) % 256) := by
  unfold cellOf
  congr 1
  rw [UInt8.toNat_ofNat']
  omega
theorem putB_cells (n : Nat) (k : Nat) : (putB n (k + 1)).map cellOf = (putB (n / 256) k).map cellOf ++ [.int .u8 ((n : Int) % 256)] := by
  rw [putB, List.map_append, List.map_cons, List.map_nil, cellOf_ofNat]

theorem putB_each (m : Nat) :
    (putB m 1).map cellOf = [.int .u8 ((m : Int) % 256)] ∧
    (putB m 2).map cellOf = [.int .u8 ((m : Int) / 256 % 256), .int .u8 ((m : Int) % 256)] ∧
    (putB m 3).map cellOf = [.int .u8 ((m : Int) / 65536 % 256), .int .u8 ((m : Int) / 256 % 256), .int .u8 ((m : Int) % 256)] ∧
    (putB m 4).map cellOf = [.int .u8 ((m : Int) / 16777216 % 256), .int .u8 ((m : Int) / 65536 % 256), .int .u8 ((m : Int) / 256 % 256), .int .u8 ((m : Int) % 256)] ∧
    (putB m 5).map cellOf = [.int .u8 ((m : Int) / 4294967296 % 256), .int .u8 ((m : Int) / 16777216 % 256), .int .u8 ((m : Int) / 65536 % 256), .int .u8 ((m : Int) / 256 % 256), .int .u8 ((m : Int) % 256)] ∧
    (putB m 6).map cellOf = [.int .u8 ((m : Int) / 1099511627776 % 256), .int .u8 ((m : Int) / 4294967296 % 256), .int .u8 ((m : Int) / 16777216 % 256), .int .u8 ((m : Int) / 65536 % 256), .int .u8 ((m : Int) / 256 % 256), .int .u8 ((m : Int) % 256)] ∧
    (putB m 7).map cellOf = [.int .u8 ((m : Int) / 281474976710656 % 256), .int .u8 ((m : Int) / 1099511627776 % 256), .int .u8 ((m : Int) / 4294967296 % 256), .int .u8 ((m : Int) / 16777216 % 256), .int .u8 ((m : Int) / 65536 % 256), .int .u8 ((m : Int) / 256 % 256), .int .u8 ((m : Int) % 256)] ∧
    (putB m 8).map cellOf = [.int .u8 ((m : Int) / 72057594037927936 % 256), .int .u8 ((m : Int) / 281474976710656 % 256), .int .u8 ((m : Int) / 1099511627776 % 256), .int .u8 ((m : Int) / 4294967296 % 256), .int .u8 ((m : Int) / 16777216 % 256), .int .u8 ((m : Int) / 65536 % 256), .int .u8 ((m : Int) / 256 % 256), .int .u8 ((m : Int) % 256)] := by
  have e1 : ((m / 256 : Nat) : Int) = (m : Int) / 256 := by omega
  have e2 : ((m / 256 / 256 : Nat) : Int) = (m : Int) / 65536 := by omega
  have e3 : ((m / 256 / 256 / 256 : Nat) : Int) = (m : Int) / 16777216 := by omega
  have e4 : ((m / 256 / 256 / 256 / 256 : Nat) : Int) = (m : Int) / 4294967296 := by omega
  have e5 : ((m / 256 / 256 / 256 / 256 / 256 : Nat) : Int) = (m : Int) / 1099511627776 := by omega
  have e6 : ((m / 256 / 256 / 256 / 256 / 256 / 256 : Nat) : Int) = (m : Int) / 281474976710656 := by omega
  have e7 : ((m / 256 / 256 / 256 / 256 / 256 / 256 / 256 : Nat) : Int) = (m : Int) / 72057594037927936 := by omega
  refine ⟨?_, ?_, ?_, ?_, ?_, ?_, ?_, ?_⟩ <;> simp only [putB_cells, show ∀ n, putB n 0 = [] from fun _ => rfl, List.map_nil, List.nil_append, List.cons_append, e1, e2, e3, e4, e5, e6, e7]
end Go.Proofs.YtjkdlmielckaaaaDoor
