/-
  octet.fill writes a number's bytes into the slice's cells, the highest first.
-/
import Derived.Test.YtjkdlmielckaaaaDoorProg
import Derived.Test.YtjkdlmielckaaaaDoorMath
import Derived.Lib.Hide
namespace Go.Proofs.YtjkdlmielckaaaaDoor
open Go.RowKit
set_option maxRecDepth 100000
set_option linter.unusedSimpArgs false
set_option linter.unusedVariables false

set_option maxHeartbeats 800000 in
theorem fill_any (g o c s m : Nat) (w : World) (cs : List Value) (hb : Blk w g 5 cs) (hs : 1 ≤ s ∧ s ≤ 8) (ho : o + s ≤ cs.length) (hm : m < 18446744073709551616) (hc : s ≤ c) :
    Calls Tryd.prog 57 #[.slice (some ⟨g, o, none⟩) s c, .int .u64 (m : Int)] w fun e w' => e = .returned (.tuple #[]) ∧ wset w g o ((putB m s).map cellOf) = w' := by
  have hcell : ∀ j, j < s → ∃ v, w.cell? ⟨g, o + j, none⟩ = some v := fun j hj => ⟨cs[o + j], by rw [hb.cell]; exact List.getElem?_eq_getElem (by omega)⟩
  have f := hb.frozen
  have m0 : (0 : Int) ≤ (m : Int) := Int.natCast_nonneg _
  have m1 : (m : Int) < 18446744073709551616 := by omega
  have P := Lib.hid (putB_each m)
  have X := Lib.hid (show (m : Int) / 72057594037927936 % 256 = (m : Int) / 72057594037927936 by omega)
  have H := Lib.hid hcell
  clear hcell hb
  obtain ⟨h1, h8⟩ := hs
  rcases (show s = 1 ∨ s = 2 ∨ s = 3 ∨ s = 4 ∨ s = 5 ∨ s = 6 ∨ s = 7 ∨ s = 8 by omega) with rfl | rfl | rfl | rfl | rfl | rfl | rfl | rfl
  · obtain ⟨v0, g0⟩ := H.out 0 (by omega)
    have g0 : w.cell? ⟨g, o, none⟩ = some v0 := g0
    clear H
    go_enter Tryd.func57, Tryd.ntmps57
    go_wp2
    go_end0
    exact ⟨rfl, by rw [P.out.1]; rfl⟩
  · obtain ⟨v0, g0⟩ := H.out 0 (by omega)
    have g0 : w.cell? ⟨g, o, none⟩ = some v0 := g0
    obtain ⟨v1, g1⟩ := H.out 1 (by omega)
    clear H
    go_enter Tryd.func57, Tryd.ntmps57
    go_wp2
    go_end0
    exact ⟨rfl, by rw [P.out.2.1]; rfl⟩
  · obtain ⟨v0, g0⟩ := H.out 0 (by omega)
    have g0 : w.cell? ⟨g, o, none⟩ = some v0 := g0
    obtain ⟨v1, g1⟩ := H.out 1 (by omega)
    obtain ⟨v2, g2⟩ := H.out 2 (by omega)
    clear H
    go_enter Tryd.func57, Tryd.ntmps57
    go_wp2
    go_end0
    exact ⟨rfl, by rw [P.out.2.2.1]; rfl⟩
  · obtain ⟨v0, g0⟩ := H.out 0 (by omega)
    have g0 : w.cell? ⟨g, o, none⟩ = some v0 := g0
    obtain ⟨v1, g1⟩ := H.out 1 (by omega)
    obtain ⟨v2, g2⟩ := H.out 2 (by omega)
    obtain ⟨v3, g3⟩ := H.out 3 (by omega)
    clear H
    go_enter Tryd.func57, Tryd.ntmps57
    go_wp2
    go_end0
    exact ⟨rfl, by rw [P.out.2.2.2.1]; rfl⟩
  · obtain ⟨v0, g0⟩ := H.out 0 (by omega)
    have g0 : w.cell? ⟨g, o, none⟩ = some v0 := g0
    obtain ⟨v1, g1⟩ := H.out 1 (by omega)
    obtain ⟨v2, g2⟩ := H.out 2 (by omega)
    obtain ⟨v3, g3⟩ := H.out 3 (by omega)
    obtain ⟨v4, g4⟩ := H.out 4 (by omega)
    clear H
    go_enter Tryd.func57, Tryd.ntmps57
    go_wp2
    go_end0
    exact ⟨rfl, by rw [P.out.2.2.2.2.1]; rfl⟩
  · obtain ⟨v0, g0⟩ := H.out 0 (by omega)
    have g0 : w.cell? ⟨g, o, none⟩ = some v0 := g0
    obtain ⟨v1, g1⟩ := H.out 1 (by omega)
    obtain ⟨v2, g2⟩ := H.out 2 (by omega)
    obtain ⟨v3, g3⟩ := H.out 3 (by omega)
    obtain ⟨v4, g4⟩ := H.out 4 (by omega)
    obtain ⟨v5, g5⟩ := H.out 5 (by omega)
    clear H
    go_enter Tryd.func57, Tryd.ntmps57
    go_wp2
    go_end0
    exact ⟨rfl, by rw [P.out.2.2.2.2.2.1]; rfl⟩
  · obtain ⟨v0, g0⟩ := H.out 0 (by omega)
    have g0 : w.cell? ⟨g, o, none⟩ = some v0 := g0
    obtain ⟨v1, g1⟩ := H.out 1 (by omega)
    obtain ⟨v2, g2⟩ := H.out 2 (by omega)
    obtain ⟨v3, g3⟩ := H.out 3 (by omega)
    obtain ⟨v4, g4⟩ := H.out 4 (by omega)
    obtain ⟨v5, g5⟩ := H.out 5 (by omega)
    obtain ⟨v6, g6⟩ := H.out 6 (by omega)
    clear H
    go_enter Tryd.func57, Tryd.ntmps57
    go_wp2
    go_end0
    exact ⟨rfl, by rw [P.out.2.2.2.2.2.2.1]; rfl⟩
  · obtain ⟨v0, g0⟩ := H.out 0 (by omega)
    have g0 : w.cell? ⟨g, o, none⟩ = some v0 := g0
    obtain ⟨v1, g1⟩ := H.out 1 (by omega)
    obtain ⟨v2, g2⟩ := H.out 2 (by omega)
    obtain ⟨v3, g3⟩ := H.out 3 (by omega)
    obtain ⟨v4, g4⟩ := H.out 4 (by omega)
    obtain ⟨v5, g5⟩ := H.out 5 (by omega)
    obtain ⟨v6, g6⟩ := H.out 6 (by omega)
    obtain ⟨v7, g7⟩ := H.out 7 (by omega)
    clear H
    go_enter Tryd.func57, Tryd.ntmps57
    go_wp2
    go_end0
    exact ⟨rfl, by rw [P.out.2.2.2.2.2.2.2, X.out]; rfl⟩

theorem fill_int (g o c s : Nat) (x : Int) (w : World) (cs : List Value) (hb : Blk w g 5 cs) (hs : 1 ≤ s ∧ s ≤ 8) (ho : o + s ≤ cs.length) (hx0 : 0 ≤ x) (hx : x < 18446744073709551616) (hc : s ≤ c) :
    Calls Tryd.prog 57 #[.slice (some ⟨g, o, none⟩) s c, .int .u64 x] w fun e w' => e = .returned (.tuple #[]) ∧ wset w g o ((putB x.toNat s).map cellOf) = w' := by
  obtain ⟨m, rfl⟩ := Int.eq_ofNat_of_zero_le hx0
  rw [Int.toNat_natCast]
  exact fill_any g o c s m w cs hb hs ho (by omega) hc
end Go.Proofs.YtjkdlmielckaaaaDoor
