/-
  fcs.New, Check.Reset, Check.Len.
-/
import Derived.Test.YtdnheiefbecaeaaDoorBase
import Derived.Lib.Hide
import Derived.Deep.Light
namespace Go.Proofs.YtdnheiefbecaeaaDoor
open Go.RowKit
set_option maxRecDepth 100000
set_option maxHeartbeats 800000
set_option linter.unusedSimpArgs false
set_option linter.unusedVariables false

/-- block g is a check of so many bits: its register, how many bytes -/
def Chk (w : World) (g : Nat) (bits reg n : Int) : Prop := Blk w g 98 [.int .i64 bits, .int .u32 reg, .int .i64 n]
theorem Chk.cells {w : World} {g : Nat} {b r n : Int} (h : Chk w g b r n) : w.cell? ⟨g, 0, none⟩ = some (.int .i64 b) ∧ w.cell? ⟨g, 1, none⟩ = some (.int .u32 r) ∧ w.cell? ⟨g, 2, none⟩ = some (.int .i64 n) := ⟨Blk.cell h 0, Blk.cell h 1, Blk.cell h 2⟩
theorem Chk.kept {w w' : World} {g : Nat} {b r n : Int} {row : Option Nat} (h : Chk w g b r n) (hG : w.grownBy w' row) (hne : some g ≠ row) : Chk w' g b r n := (hG.block g (Blk.lt h) hne).trans h

theorem reset_any (g : Nat) (b r n : Int) (w : World) (h : Chk w g b r n) :
    Calls Tryd.prog 31 #[.pointer (some ⟨g, 0, none⟩)] w fun e w' => e = .returned (.tuple #[]) ∧ Chk w' g b 4294967295 0 ∧ w.grownBy w' (some g) := by
  obtain ⟨c0, c1, c2⟩ := h.cells
  have f1 := Blk.frozen h 1
  have f2 := Blk.frozen h 2
  have h1 : Blk (w.setCell ⟨g, 2, none⟩ (.int .i64 0)) g 98 [.int .i64 b, .int .u32 r, .int .i64 0] := Blk.set_ h 2 _
  have H2 : Hid (Chk ((w.setCell ⟨g, 2, none⟩ (.int .i64 0)).setCell ⟨g, 1, none⟩ (.int .u32 4294967295)) g b 4294967295 0) := Blk.set_ h1 1 _
  have G := Lib.hid (only_then (only_set (w := w) (p := ⟨g, 2, none⟩) (.int .i64 0)) (only_set (w := w.setCell ⟨g, 2, none⟩ (.int .i64 0)) (p := ⟨g, 1, none⟩) (.int .u32 4294967295)) (fun i hi => .inl hi))
  clear h h1
  go_enter Tryd.func31, Tryd.ntmps31
  go_wp2
  go_end0
  exact ⟨rfl, H2.out, G.out⟩

theorem new_yes (b : Int) (w : World) (hb : b = 16 ∨ b = 32) :
    Calls Tryd.prog 20 #[.int .i64 b] w fun e w' => e = .returned (.pointer (some ⟨w.heap.size, 0, none⟩)) ∧ Chk w' w.heap.size b 4294967295 0 ∧ Below w.heap.size w w' := by
  have R : Hid (∀ b : Int, Calls Tryd.prog 31 #[.pointer (some ⟨w.heap.size, 0, none⟩)] (w.alloc (.cells #[.int .i64 b, .int .u32 0, .int .i64 0] 98)) fun e w' => e = .returned (.tuple #[]) ∧ Chk w' w.heap.size b 4294967295 0 ∧ Below w.heap.size w w') := by
    show ∀ b : Int, Calls _ _ _ _ _
    intro b
    refine (reset_any w.heap.size b 0 0 _ (blk_new w _ _)).mono ?_
    rintro e w' ⟨rfl, hc, hG⟩
    exact ⟨rfl, hc, ((Below.refl _ _).alloc (Nat.le_refl _) _).grown hG (by simp) (by intro k hk; injection hk with hk; omega)⟩
  rcases hb with rfl | rfl
  all_goals
    go_enter Tryd.func20, Tryd.ntmps20
    go_wp2_with fail
    refine (R.out _).mono ?_
    rintro e w1 ⟨rfl, hc, hB⟩
    have C := Lib.hid hc
    have BB := Lib.hid hB
    clear hc hB
    go_wp2
    go_ret
    exact ⟨rfl, C.out, BB.out⟩
theorem new_no (b : Int) (w : World) (h1 : b ≠ 16) (h2 : b ≠ 32) :
    Calls Tryd.prog 20 #[.int .i64 b] w fun e w' => e = .returned (.pointer none) ∧ w = w' := by
  have z1 : (b != 16) = true := by simpa using h1
  have z2 : (b != 32) = true := by simpa using h2
  clear h1 h2
  go_enter Tryd.func20, Tryd.ntmps20
  go_wp2
  go_ret
  exact ⟨rfl, rfl⟩
theorem len_any (g : Nat) (b r n : Int) (w : World) (h : Chk w g b r n) :
    Calls Tryd.prog 30 #[.pointer (some ⟨g, 0, none⟩)] w fun e w' => e = .returned (.int .i64 n) ∧ w = w' := by
  obtain ⟨c0, c1, c2⟩ := h.cells
  clear h
  go_enter Tryd.func30, Tryd.ntmps30
  go_wp2
  go_ret
  exact ⟨rfl, rfl⟩
theorem reset_nil (w : World) : Calls Tryd.prog 31 #[.pointer none] w fun e w' => e = .returned (.tuple #[]) ∧ w = w' := by
  go_enter Tryd.func31, Tryd.ntmps31
  go_wp2
  first
    | (go_end0; exact ⟨rfl, rfl⟩)
    | (refine bodyPost_ret (results_none rfl _ _ _) rfl ?_; exact ⟨rfl, rfl⟩)
end Go.Proofs.YtdnheiefbecaeaaDoor
