/-
  The reference's automaton: New, Do, Timeout.
-/
import Derived.Test.YtpkmddagcfjadaaDoorAuTable
import Derived.Test.YtpkmddagcfjadaaDoorAuTime
namespace Go.Proofs.YtpkmddagcfjadaaDoor
open Go.RowKit
set_option maxRecDepth 100000
set_option maxHeartbeats 4000000
set_option linter.unusedSimpArgs false
set_option linter.unusedVariables false

/-- the reference's cells -/
def rauC (s c mc mt : Int) : List Value := [.int .i64 mc, .int .i64 mt, .int .i64 s, .int .i64 c]
def RAuB (w : World) (g : Nat) (s c mc mt : Int) : Prop := Blk w g 41 (rauC s c mc mt)
theorem RAuB.set3 {w : World} {g : Nat} {s c mc mt : Int} (h : RAuB w g s c mc mt) (z : Int) : RAuB (w.setCell ⟨g, 3, none⟩ (.int .i64 z)) g s z mc mt := Blk.set_ h 3 (.int .i64 z)
theorem RAuB.set2 {w : World} {g : Nat} {s c mc mt : Int} (h : RAuB w g s c mc mt) (z : Int) : RAuB (w.setCell ⟨g, 2, none⟩ (.int .i64 z)) g z c mc mt := Blk.set_ h 2 (.int .i64 z)
theorem rnew_yes (mc mt : Int) (w : World) (h1 : 1 ≤ mc ∧ mc ≤ 255) (h2 : 1 ≤ mt ∧ mt ≤ 255) : Calls Tryd.prog 27 #[.int .i64 mc, .int .i64 mt] w fun r w' => r = .returned (.pointer (some ⟨w.heap.size, 0, none⟩)) ∧ RAuB w' w.heap.size 0 0 mc mt ∧ Below w.heap.size w w' := by
  have hz : ∀ W, (zeroValue 41).run Tryd.prog W = .ok (.agg #[.int .i64 0, .int .i64 0, .int .i64 0, .int .i64 0]) W := fun W => by kernel_rfl
  have HA : Hid (RAuB (w.alloc (.cells #[.int .i64 mc, .int .i64 mt, .int .i64 0, .int .i64 0] 41)) w.heap.size 0 0 mc mt) := blk_new w 41 (rauC 0 0 mc mt)
  have HB : Hid (Below w.heap.size w (w.alloc (.cells #[.int .i64 mc, .int .i64 mt, .int .i64 0, .int .i64 0] 41))) := (Below.refl _ _).alloc (Nat.le_refl _) _
  have a1 : ¬ mc < 1 := by omega
  have a2 : ¬ 255 < mc := by omega
  have a3 : ¬ mt < 1 := by omega
  have a4 : ¬ 255 < mt := by omega
  clear h1 h2
  go_enter Tryd.func27, Tryd.ntmps27
  go_wp2
  go_ret
  exact ⟨rfl, HA.out, HB.out⟩
theorem rnew_no (mc mt : Int) (w : World) (h : ¬ ((1 ≤ mc ∧ mc ≤ 255) ∧ (1 ≤ mt ∧ mt ≤ 255))) : Calls Tryd.prog 27 #[.int .i64 mc, .int .i64 mt] w fun r w' => r = .returned (.pointer none) ∧ w = w' := by
  by_cases a1 : mc < 1
  · clear h
    go_enter Tryd.func27, Tryd.ntmps27
    go_wp2
    go_ret
    exact ⟨rfl, rfl⟩
  · by_cases a2 : 255 < mc
    · clear h
      go_enter Tryd.func27, Tryd.ntmps27
      go_wp2
      go_ret
      exact ⟨rfl, rfl⟩
    · by_cases a3 : mt < 1
      · clear h
        go_enter Tryd.func27, Tryd.ntmps27
        go_wp2
        go_ret
        exact ⟨rfl, rfl⟩
      · have a4 : 255 < mt := by omega
        clear h
        go_enter Tryd.func27, Tryd.ntmps27
        go_wp2
        go_ret
        exact ⟨rfl, rfl⟩
def RDoJ (w W : World) (g : Nat) (s c mc mt : Int) (l : List Int) (v : Value) (k : Nat) : Prop := RAuB W g s (rkn mc mt l (l.take k) c) mc mt ∧ OwnI W w.heap.size v l ∧ w.grownBy W (some g)
theorem rdoJ_set {w W : World} {g : Nat} {s c mc mt : Int} {l : List Int} {v : Value} {k : Nat} {z : Int} (h : RDoJ w W g s c mc mt l v k) (hg : g < w.heap.size) (hz : rkn mc mt l (l.take (k + 1)) c = z) : RDoJ w (W.setCell ⟨g, 3, none⟩ (.int .i64 z)) g s c mc mt l v (k + 1) := by
  refine ⟨?_, h.2.1.grown (only_set _) ?_, grown_set h.2.2 _ _⟩
  · rw [hz]
    exact h.1.set3 z
  · rcases e : v.ownBlock with _ | q
    · exact .inl rfl
    · have := h.2.1.form.2 q e
      exact .inr (fun e => by injection e with e; have e2 : q = g := e; omega)
theorem rdoJ_set2 {w W : World} {g : Nat} {s c mc mt : Int} {l : List Int} {v : Value} {k : Nat} {z y : Int} (h : RDoJ w W g s c mc mt l v k) (hg : g < w.heap.size) (hz : rkn mc mt l (l.take (k + 1)) c = z) : RDoJ w ((W.setCell ⟨g, 3, none⟩ (.int .i64 y)).setCell ⟨g, 3, none⟩ (.int .i64 z)) g s c mc mt l v (k + 1) := by
  have hfar : v.ownBlock = none ∨ v.ownBlock ≠ some g := by
    rcases e : v.ownBlock with _ | q
    · exact .inl rfl
    · have := h.2.1.form.2 q e
      exact .inr (fun e => by injection e with e; have e2 : q = g := e; omega)
  refine ⟨?_, (h.2.1.grown (only_set _) hfar).grown (only_set _) hfar, grown_set (grown_set h.2.2 _ _) _ _⟩
  rw [hz]
  exact (h.1.set3 y).set3 z
theorem rdoJ_same {w W : World} {g : Nat} {s c mc mt : Int} {l : List Int} {v : Value} {k : Nat} {z : Int} (h : RDoJ w W g s c mc mt l v k) (h0 : rkn mc mt l (l.take k) c = z) (hz : rkn mc mt l (l.take (k + 1)) c = z) : RDoJ w W g s c mc mt l v (k + 1) := by
  refine ⟨?_, h.2⟩
  rw [hz, ← h0]
  exact h.1
end Go.Proofs.YtpkmddagcfjadaaDoor
