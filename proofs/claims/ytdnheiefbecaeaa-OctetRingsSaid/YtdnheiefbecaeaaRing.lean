/-
  octet's rings, call by call.
-/
import Derived.Test.YtdnheiefbecaeaaRingMath
import Derived.Test.YtdnheiefbecaeaaSliceFrom
import Derived.Lib.Hide
import Derived.Deep.QuietTactic
import Derived.BigQuiet
import Derived.WalkLawsBesides
import Derived.Deep.RegionHeld3
import Derived.Deep.RegionHeldLaw
import Derived.Deep.RegionLaw
import Derived.Deep.Light
namespace Go.Proofs.Ytdnheiefbecaeaa
open Go.RowKit
set_option maxRecDepth 100000
set_option maxHeartbeats 1000000
set_option linter.unusedSimpArgs false
set_option linter.unusedVariables false

/-- block g is a ring over the cells of block c: h bytes wait from cell f on -/
structure RingAt (w : World) (g c room f h : Nat) (cs : List UInt8) : Prop where
  ring : Blk w g 41 [.slice (some ⟨c, 0, none⟩) room room, .int .i64 (f : Int), .int .i64 (h : Int)]
  cells : Blk w c 5 (cs.map cellOf)
  len : cs.length = room
  first : f < room
  held : h ≤ room
  most : room ≤ 65536
  apart : g ≠ c
theorem RingAt.at0 {w : World} {g c room f h : Nat} {cs : List UInt8} (r : RingAt w g c room f h cs) : w.cell? ⟨g, 0, none⟩ = some (.slice (some ⟨c, 0, none⟩) room room) ∧ w.cell? ⟨g, 1, none⟩ = some (.int .i64 (f : Int)) ∧ w.cell? ⟨g, 2, none⟩ = some (.int .i64 (h : Int)) :=
  ⟨r.ring.cell 0, r.ring.cell 1, r.ring.cell 2⟩
theorem RingAt.kept {w w' : World} {g c room f h : Nat} {cs : List UInt8} {row : Option Nat} (r : RingAt w g c room f h cs) (hG : w.grownBy w' row) (h1 : some g ≠ row) (h2 : some c ≠ row) : RingAt w' g c room f h cs :=
  ⟨(hG.block g r.ring.lt h1).trans r.ring, (hG.block c r.cells.lt h2).trans r.cells, r.len, r.first, r.held, r.most, r.apart⟩
theorem RingAt.drewN {w : World} {g c room f h : Nat} {cs : List UInt8} (r : RingAt w g c room f h cs) (k : Nat) : RingAt (w.drewN k) g c room f h cs := ⟨r.ring, r.cells, r.len, r.first, r.held, r.most, r.apart⟩

theorem newring_yes (n : Nat) (w : World) (h1 : 1 ≤ n) (h2 : n ≤ 65536) :
    Calls Try.prog 4 #[.int .i64 (n : Int)] w fun e w' => ∃ g c, e = .returned (.pointer (some ⟨g, 0, none⟩)) ∧ w.heap.size ≤ g ∧ w.heap.size ≤ c ∧ (∃ cs, RingAt w' g c n 0 0 cs) ∧ Below w.heap.size w w' := by
  have hmk := fun w => mk_run n (n : Int) rfl (by omega) w
  have i1 : (1 : Int) ≤ (n : Int) := by omega
  have i2 : (n : Int) ≤ 65536 := by omega
  go_enter Try.func4, Try.ntmps4
  go_wp2
  go_ret
  refine ⟨w.heap.size + 1, w.heap.size, by simp, by omega, by omega, ⟨List.replicate n 0, ?_⟩, ((Below.refl _ _).alloc (Nat.le_refl _) _).alloc (by simp) _⟩
  have hb := blk_new w 5 (zeros n)
  have e : (List.replicate n (0 : UInt8)).map cellOf = zeros n := by simp [zeros, cellOf]
  refine ⟨?_, ?_, by simp, by omega, by omega, h2, by omega⟩
  · have := blk_new (w.alloc (.cells (zeros n).toArray 5)) 41 [.slice (some ⟨w.heap.size, 0, none⟩) n n, .int .i64 0, .int .i64 0]
    simpa using this
  · rw [e]
    exact (Below.heap_alloc _ _ _ (by simp)).trans hb
theorem newring_no (n : Int) (w : World) (h : n < 1 ∨ 65536 < n) :
    Calls Try.prog 4 #[.int .i64 n] w fun e w' => e = .returned (.pointer none) ∧ w = w' := by
  rcases h with h | h
  · go_enter Try.func4, Try.ntmps4
    go_wp2
    go_ret
    exact ⟨rfl, rfl⟩
  · have h1 : ¬ n < 1 := by omega
    go_enter Try.func4, Try.ntmps4
    go_wp2
    go_ret
    exact ⟨rfl, rfl⟩
theorem ringlen_any (g c room f h : Nat) (cs : List UInt8) (w : World) (r : RingAt w g c room f h cs) :
    Calls Try.prog 17 #[.pointer (some ⟨g, 0, none⟩)] w fun e w' => e = .returned (.int .i64 (h : Int)) ∧ w = w' := by
  obtain ⟨c0, c1, c2⟩ := r.at0
  clear r
  go_enter Try.func17, Try.ntmps17
  go_wp2
  go_ret
  exact ⟨rfl, rfl⟩
theorem ringroom_any (g c room f h : Nat) (cs : List UInt8) (w : World) (r : RingAt w g c room f h cs) :
    Calls Try.prog 18 #[.pointer (some ⟨g, 0, none⟩)] w fun e w' => e = .returned (.int .i64 ((room - h : Nat) : Int)) ∧ ∃ k, w' = w.drewN k := by
  obtain ⟨c0, c1, c2⟩ := r.at0
  have h1 := r.held
  have h2 := r.most
  have e : ((room - h : Nat) : Int) = (room : Int) - (h : Int) := by omega
  have hw : IntKind.i64.wrap ((room : Int) - (h : Int)) = ((room - h : Nat) : Int) := by rw [IntKind.wrap_i64, e]; omega
  have E := Lib.hid e
  clear r e
  go_enter Try.func18, Try.ntmps18
  go_wp2
  go_quiet (fail)
  go_wp2
  go_ret
  exact ⟨by first | rfl | rw [E.out]; rfl, _, rfl⟩
theorem ringcell_any (g c room f h n : Nat) (cs : List UInt8) (w : World) (r : RingAt w g c room f h cs) (hn : n ≤ room) :
    Calls Try.prog 21 #[.pointer (some ⟨g, 0, none⟩), .int .i64 (n : Int)] w fun e w' => e = .returned (.int .i64 ((around room f n : Nat) : Int)) ∧ w = w' := by
  obtain ⟨c0, c1, c2⟩ := r.at0
  have h1 := r.first
  have h2 := r.most
  clear r
  unfold around
  by_cases hlt : f + n < room
  · rw [if_pos hlt]
    have i1 : (f : Int) + (n : Int) < (room : Int) := by omega
    go_enter Try.func21, Try.ntmps21
    go_wp2
    go_ret
    exact ⟨by first | rfl | (rw [Int.natCast_add]; rfl), rfl⟩
  · rw [if_neg hlt]
    have i1 : (room : Int) ≤ (f : Int) + (n : Int) := by omega
    have e : ((f + n - room : Nat) : Int) = (f : Int) + (n : Int) - (room : Int) := by omega
    have E := Lib.hid e
    clear e
    go_enter Try.func21, Try.ntmps21
    go_wp2
    go_ret
    exact ⟨by rw [E.out]; rfl, rfl⟩
/-- how many of h are told where n are asked for -/
def reach (h : Nat) (n : Int) : Nat := min n.toNat h
theorem ringreach_any (g c room f h : Nat) (n : Int) (cs : List UInt8) (w : World) (r : RingAt w g c room f h cs) :
    Calls Try.prog 22 #[.pointer (some ⟨g, 0, none⟩), .int .i64 n] w fun e w' => e = .returned (.int .i64 ((reach h n : Nat) : Int)) ∧ w = w' := by
  obtain ⟨c0, c1, c2⟩ := r.at0
  clear r
  have hc : (n < 0 ∧ ((reach h n : Nat) : Int) = 0) ∨ (0 ≤ n ∧ n ≤ (h : Int) ∧ ((reach h n : Nat) : Int) = n) ∨ ((h : Int) < n ∧ ((reach h n : Nat) : Int) = (h : Int)) := by unfold reach; omega
  rcases hc with ⟨h1, e⟩ | ⟨h1, h2, e⟩ | ⟨h1, e⟩
  · have E := Lib.hid e
    clear e
    go_enter Try.func22, Try.ntmps22
    go_wp2
    all_goals (go_ret; exact ⟨by rw [E.out]; rfl, rfl⟩)
  · have E := Lib.hid e
    clear e
    go_enter Try.func22, Try.ntmps22
    go_wp2
    all_goals (go_ret; exact ⟨by rw [E.out]; rfl, rfl⟩)
  · have E := Lib.hid e
    have h0 : ¬ n < 0 := by omega
    have h0' : 0 ≤ n := by omega
    clear e
    go_enter Try.func22, Try.ntmps22
    go_wp2
    all_goals (go_ret; exact ⟨by rw [E.out]; rfl, rfl⟩)
end Go.Proofs.Ytdnheiefbecaeaa
