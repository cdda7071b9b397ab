/-
  What a reader's memory holds; octet.Reader's calls.
-/
import Derived.Test.YtjkdlmielckaaaaDoorClone
import Derived.Test.YtjkdlmielckaaaaDoorSub
import Derived.Deep.Light
namespace Go.Proofs.YtjkdlmielckaaaaDoor
open Go.RowKit
set_option maxRecDepth 100000
set_option linter.unusedSimpArgs false
set_option linter.unusedVariables false

/-- Block g (of type t) is a reader: the bytes that are left, and the error; itself and its bytes lie below block B. -/
def Rdr (w : World) (B g t : Nat) (rest : List UInt8) (err : Int) : Prop :=
  ∃ A k c, Blk w g t [.slice A k c, .int .i64 err] ∧ Rd w B A k rest ∧ k ≤ c ∧ (k ≤ 140737488420864 ∧ c ≤ 9223372036854775807) ∧ ((A = none ∧ c = 0) ∨ ∃ b off, A = some ⟨b, off, none⟩) ∧ g < B ∧ B ≤ w.heap.size

theorem Rd.apart {w w' : World} {B k c g t : Nat} {A D : Option Addr} {l : List UInt8} {m : Nat} {e : Int} (h : Rd w B A k l) (hb : Blk w g t [.slice D m c, .int .i64 e]) (hB : B ≤ w.heap.size) (hG : w.grownBy w' (some g)) : Rd w' B A k l := by
  refine ⟨h.1, fun h0 => ?_⟩
  obtain ⟨b, off, rfl, hlt, hc⟩ := h.2 h0
  have hne : b ≠ g := by
    rintro rfl
    have h1 := hc 0 h0
    rw [hb.cell] at h1
    rcases (show off = 0 ∨ off = 1 ∨ 2 ≤ off by omega) with rfl | rfl | h2
    · simp at h1
    · simp at h1
    · rw [List.getElem?_eq_none (by simpa using h2)] at h1
      cases h1
  refine ⟨b, off, rfl, hlt, fun j hj => ?_⟩
  rw [World.cell?_of_block (hG.block b (by omega) (by simpa using hne))]
  exact hc j hj

theorem Rdr.later {w w' : World} {B g t : Nat} {r : List UInt8} {e : Int} (h : Rdr w B g t r e) (hB : Below w.heap.size w w') : Rdr w' B g t r e := by
  obtain ⟨A, k, c, hb, hr, h1, h2, h3, h4, h5⟩ := h
  exact ⟨A, k, c, (hB.block g hb.lt).trans hb, hr.below (hB.mono h5), h1, h2, h3, h4, Nat.le_trans h5 hB.size⟩
theorem Rdr.drewN {w : World} {B g t : Nat} {r : List UInt8} {e : Int} (h : Rdr w B g t r e) (k : Nat) : Rdr (w.drewN k) B g t r e := h
theorem Rdr.other {w w' : World} {B B2 g t g2 t2 : Nat} {r r2 : List UInt8} {e e2 : Int} (h : Rdr w B2 g2 t2 r2 e2) (h' : Rdr w B g t r e) (hne : g2 ≠ g) (hG : w.grownBy w' (some g)) : Rdr w' B2 g2 t2 r2 e2 := by
  obtain ⟨A, k, c, hb, hr, h1, h2, h3, h4, h5⟩ := h
  obtain ⟨A', k', c', hb', _⟩ := h'
  exact ⟨A, k, c, (hG.block g2 hb.lt (by simpa using hne)).trans hb, hr.apart hb' h5 hG, h1, h2, h3, h4, Nat.le_trans h5 hG.size⟩
/-- what changes newer blocks alone leaves a reader as it is -/
theorem Rdr.newer {w w' : World} {B g t : Nat} {r : List UInt8} {e : Int} {row : Option Nat} (h : Rdr w B g t r e) (hG : w.grownBy w' row) (hr : ∀ q, row = some q → B ≤ q) : Rdr w' B g t r e := by
  obtain ⟨A, k, c, hb, hrd, h1, h2, h3, h4, h5⟩ := h
  refine ⟨A, k, c, (hG.block g hb.lt ?_).trans hb, hrd.grown hG h5 hr, h1, h2, h3, h4, Nat.le_trans h5 hG.size⟩
  intro e
  have := hr g e.symm
  omega
theorem Blk.drewN {w : World} {g t : Nat} {cs : List Value} (h : Blk w g t cs) (k : Nat) : Blk (w.drewN k) g t cs := h

/-- stores into a reader's two cells -/
theorem Rdr.stored {w : World} {B g t : Nat} {A D : Option Addr} {k m c d : Nat} {e : Int} {l : List UInt8} (hb : Blk w g t [.slice D m d, .int .i64 e]) (hg : g < B) (hB : B ≤ w.heap.size) (hr : Rd w B A k l) (h1 : k ≤ c) (h2 : k ≤ 140737488420864 ∧ c ≤ 9223372036854775807) (h3 : (A = none ∧ c = 0) ∨ ∃ b off, A = some ⟨b, off, none⟩) :
    Rdr (w.setCell ⟨g, 0, none⟩ (.slice A k c)) B g t l e := by
  have hb2 : Blk (w.setCell ⟨g, 0, none⟩ (.slice A k c)) g t [.slice A k c, .int .i64 e] := hb.set_ 0 _
  exact ⟨A, k, c, hb2, hr.apart hb hB (only_set (w := w) (p := ⟨g, 0, none⟩) _), h1, h2, h3, hg, by rw [World.size_setCell]; exact hB⟩
theorem Rdr.failed {w : World} {B g t : Nat} {D : Option Addr} {m d : Nat} {e e2 : Int} (hb : Blk w g t [.slice D m d, .int .i64 e]) (hg : g < B) (hB : B ≤ w.heap.size) :
    Rdr ((w.setCell ⟨g, 1, none⟩ (.int .i64 e2)).setCell ⟨g, 0, none⟩ (.slice none 0 0)) B g t [] e2 := by
  have hb1 : Blk (w.setCell ⟨g, 1, none⟩ (.int .i64 e2)) g t [.slice D m d, .int .i64 e2] := hb.set_ 1 _
  exact Rdr.stored hb1 hg (by rw [World.size_setCell]; exact hB) Rd.nil (Nat.le_refl _) (by omega) (.inl ⟨rfl, rfl⟩)

theorem fail_any (B g : Nat) (z : Int) (r : List UInt8) (e0 : Int) (w : World) (h : Rdr w B g 60 r e0) :
    Calls Tryd.prog 49 #[.pointer (some ⟨g, 0, none⟩), .int .i64 z] w fun e w' => e = .returned (.slice none 0 0) ∧ Rdr w' B g 60 [] z ∧ w.grownBy w' (some g) := by
  obtain ⟨A, k, c, hb, _, _, _, _, hg, hB⟩ := h
  have c0 : w.cell? ⟨g, 0, none⟩ = some (.slice A k c) := hb.cell 0
  have c1 : w.cell? ⟨g, 1, none⟩ = some (.int .i64 e0) := hb.cell 1
  have f0 := hb.frozen 0
  have f1 := hb.frozen 1
  have R := Lib.hid (Rdr.failed (e2 := z) hb hg hB)
  have G := Lib.hid (only_then (only_set (w := w) (p := ⟨g, 1, none⟩) (.int .i64 z)) (only_set (w := w.setCell ⟨g, 1, none⟩ (.int .i64 z)) (p := ⟨g, 0, none⟩) (.slice none 0 0)) (fun i hi => .inl hi))
  clear hb
  go_enter Tryd.func49, Tryd.ntmps49
  go_wp2
  go_ret
  exact ⟨rfl, R.out, G.out⟩

theorem next_err (B g : Nat) (n : Int) (b : Bool) (r : List UInt8) (e0 : Int) (w : World) (h : Rdr w B g 60 r e0) (he : e0 ≠ 0) :
    Calls Tryd.prog 36 #[.pointer (some ⟨g, 0, none⟩), .int .i64 n, .bool b] w fun e w' => e = .returned (.slice none 0 0) ∧ w = w' := by
  obtain ⟨A, k, c, hb, _⟩ := h
  have c0 : w.cell? ⟨g, 0, none⟩ = some (.slice A k c) := hb.cell 0
  have c1 : w.cell? ⟨g, 1, none⟩ = some (.int .i64 e0) := hb.cell 1
  have hz : (e0 != 0) = true := by simpa using he
  clear hb he
  go_enter Tryd.func36, Tryd.ntmps36
  go_wp2
  go_ret
  exact ⟨rfl, rfl⟩

theorem next_wrong (B g : Nat) (n : Int) (r : List UInt8) (w : World) (h : Rdr w B g 60 r 0) :
    Calls Tryd.prog 36 #[.pointer (some ⟨g, 0, none⟩), .int .i64 n, .bool false] w fun e w' => e = .returned (.slice none 0 0) ∧ Rdr w' B g 60 [] 1 ∧ w.grownBy w' (some g) := by
  have F := Lib.hid (fail_any B g 1 r 0 w h)
  obtain ⟨A, k, c, hb, _⟩ := h
  have c0 : w.cell? ⟨g, 0, none⟩ = some (.slice A k c) := hb.cell 0
  have c1 : w.cell? ⟨g, 1, none⟩ = some (.int .i64 0) := hb.cell 1
  clear hb
  go_enter Tryd.func36, Tryd.ntmps36
  go_wp2_with (first
    | (go_at_call 49; refine (F.out).mono ?_; rintro e w' ⟨rfl, hR, hG⟩; have R := Lib.hid hR; have G := Lib.hid hG; clear hR hG)
    | go_in)
  go_ret
  exact ⟨rfl, R.out, G.out⟩

theorem next_short (B g : Nat) (n : Int) (r : List UInt8) (w : World) (h : Rdr w B g 60 r 0) (hn : (r.length : Int) < n) :
    Calls Tryd.prog 36 #[.pointer (some ⟨g, 0, none⟩), .int .i64 n, .bool true] w fun e w' => e = .returned (.slice none 0 0) ∧ Rdr w' B g 60 [] 8 ∧ w.grownBy w' (some g) := by
  have F := Lib.hid (fail_any B g 8 r 0 w h)
  obtain ⟨A, k, c, hb, hr, _⟩ := h
  have c0 : w.cell? ⟨g, 0, none⟩ = some (.slice A k c) := hb.cell 0
  have c1 : w.cell? ⟨g, 1, none⟩ = some (.int .i64 0) := hb.cell 1
  rw [hr.1] at hn
  clear hb hr
  go_enter Tryd.func36, Tryd.ntmps36
  go_wp2_with (first
    | (go_at_call 49; refine (F.out).mono ?_; rintro e w' ⟨rfl, hR, hG⟩; have R := Lib.hid hR; have G := Lib.hid hG; clear hR hG)
    | go_in)
  go_ret
  exact ⟨rfl, R.out, G.out⟩

/-- a cut at k: the bytes behind -/
theorem Rd.cut {w : World} {B n c k : Nat} {A : Option Addr} {l : List UInt8} (h : Rd w B A n l) (hk : k ≤ n) (hc : n ≤ c) :
    Rd w B (if c = k then A else A.map fun a => ⟨a.block, a.off + k, none⟩) (n - k) (l.drop k) := by
  have hl := h.1
  refine ⟨by rw [List.length_drop]; omega, fun h0 => ?_⟩
  obtain ⟨b, off, rfl, hlt, hcell⟩ := h.2 (by omega)
  rw [if_neg (by omega)]
  refine ⟨b, off + k, rfl, hlt, fun j hj => ?_⟩
  rw [Nat.add_assoc, hcell (k + j) (by omega), byteAt_drop]
theorem Rd.front {w : World} {B n k : Nat} {A : Option Addr} {l : List UInt8} (h : Rd w B A n l) (hk : k ≤ n) : Rd w B A k (l.take k) := by
  have hl := h.1
  refine ⟨by rw [List.length_take]; omega, fun h0 => ?_⟩
  obtain ⟨b, off, rfl, hlt, hcell⟩ := h.2 (by omega)
  exact ⟨b, off, rfl, hlt, fun j hj => by rw [hcell j (by omega), byteAt_take _ _ _ hj]⟩

theorem next_ok (B g n : Nat) (r : List UInt8) (w : World) (h : Rdr w B g 60 r 0) (hn : n ≤ r.length) :
    Calls Tryd.prog 36 #[.pointer (some ⟨g, 0, none⟩), .int .i64 (n : Int), .bool true] w fun e w' =>
      ∃ A c, e = .returned (.slice A n c) ∧ Rd w' B A n (r.take n) ∧ n ≤ c ∧ c ≤ 9223372036854775807 ∧ Rdr w' B g 60 (r.drop n) 0 ∧ w.grownBy w' (some g) := by
  obtain ⟨A, k, c, hb, hr, h1, h2, h3, hg, hB⟩ := h
  have hl := hr.1
  have f0 := hb.frozen 0
  have hnk : n ≤ k := by omega
  have hnk' : (n : Int) ≤ (k : Int) := by omega
  have h2' : c ≤ 9223372036854775807 := h2.2
  have cut := hr.cut hnk h1
  have front := hr.front hnk
  have c1 : w.cell? ⟨g, 1, none⟩ = some (.int .i64 0) := hb.cell 1
  have c0 : w.cell? ⟨g, 0, none⟩ = some (.slice A k c) := hb.cell 0
  by_cases hcn : c = n
  · subst hcn
    obtain rfl : k = c := by omega
    rw [if_pos rfl, Nat.sub_self] at cut
    have R := Lib.hid (Rdr.stored (c := 0) hb hg hB cut (by omega) (by omega) (by
      rcases h3 with ⟨h, _⟩ | h
      · exact .inl ⟨h, rfl⟩
      · exact .inr h))
    have FR := Lib.hid (front.apart hb hB (only_set (w := w) (p := ⟨g, 0, none⟩) (.slice A 0 0)))
    have G := Lib.hid (only_set (w := w) (p := ⟨g, 0, none⟩) (.slice A 0 0))
    clear hb hr cut front hl h3
    go_enter Tryd.func36, Tryd.ntmps36
    go_wp2
    go_ret
    exact ⟨_, _, rfl, FR.out, h1, h2', R.out, G.out⟩
  · rcases h3 with ⟨rfl, rfl⟩ | ⟨b, off, rfl⟩
    · omega
    · rw [if_neg hcn] at cut
      have cut2 : Rd w B (some ⟨b, off + n, none⟩) (k - n) (r.drop n) := cut
      have R := Lib.hid (Rdr.stored (c := c - n) hb hg hB cut2 (by omega) (by omega) (.inr ⟨_, _, rfl⟩))
      have FR := Lib.hid (front.apart hb hB (only_set (w := w) (p := ⟨g, 0, none⟩) (.slice (some ⟨b, off + n, none⟩) (k - n) (c - n))))
      have G := Lib.hid (only_set (w := w) (p := ⟨g, 0, none⟩) (.slice (some ⟨b, off + n, none⟩) (k - n) (c - n)))
      have hnc : n ≤ c := by omega
      clear hb hr cut cut2 front hl
      go_enter Tryd.func36, Tryd.ntmps36
      go_wp2
      go_ret
      exact ⟨_, _, rfl, FR.out, hnc, h2', R.out, G.out⟩
end Go.Proofs.YtjkdlmielckaaaaDoor
