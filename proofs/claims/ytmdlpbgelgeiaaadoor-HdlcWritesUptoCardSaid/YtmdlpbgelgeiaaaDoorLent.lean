/-
  tetherref01.Lent: a copy with a mark behind it; Kept: is it as it was; Spoil writes over a slice of the call's own.
-/
import Derived.Test.YtmdlpbgelgeiaaaDoorOne
import Derived.Test.YtmdlpbgelgeiaaaDoorSame
import Derived.Lib.Hide
import Derived.Deep.Light
namespace Go.Proofs.YtmdlpbgelgeiaaaDoor
open Go.RowKit
set_option maxRecDepth 100000
set_option linter.unusedSimpArgs false
set_option linter.unusedVariables false

theorem lent_any (A : Option Addr) (n c : Nat) (l : List UInt8) (w : World) (hr : Rd w w.heap.size A n l) (hnil : A = none → c = 0) (hm : n ≤ 140737488351232) :
    Calls Tryd.prog 10 #[.slice A n c] w fun e w' =>
      ∃ g cap, e = .returned (.slice (some ⟨g, 0, none⟩) n cap) ∧ Own w' w.heap.size (.slice (some ⟨g, 0, none⟩) (n + 1) cap) (l ++ [77]) ∧ Below w.heap.size w w' := by
  have hl := hr.1
  obtain ⟨v1, w1, r1, o1, g1, b1⟩ := append_run (Own.nil w w.heap.size) c hr hnil (by simp; omega) (Nat.le_refl _)
  have B1 : Below w.heap.size w w1 := (Below.refl _ _).grown g1 (Nat.le_refl _) (by simp [Value.ownBlock])
  obtain ⟨v2, w2, r2, o2, g2, b2⟩ := append_run (o1.alloc (.cells #[.int .u8 77] 5)) 1 (rd_one w1 77 77 rfl) (by simp) (by simp; omega) (by have := B1.size; simp; omega)
  have B2 : Below w.heap.size w w2 := (B1.alloc B1.size _).grown g2 (by have := B1.size; simp; omega) (by
    intro k hk
    rcases b1 with e | e <;> rw [e] at hk <;> simp [Value.ownBlock] at hk
    omega)
  have hv2 : ∃ g cap, v2 = .slice (some ⟨g, 0, none⟩) (n + 1) cap ∧ n + 1 ≤ cap := by
    rcases o2.2 with ⟨_, e⟩ | ⟨g, cap, cur, e, _, _, h1, _⟩
    · simp at e
    · refine ⟨g, cap, ?_, ?_⟩
      · rw [e]
        simp [hl]
      · simpa [hl] using h1
  obtain ⟨g, cap, rfl, hcap⟩ := hv2
  have O2 := Lib.hid o2
  have BB := Lib.hid B2
  have R1 := Lib.hid r1
  have R2 := Lib.hid r2
  clear o1 o2 g1 g2 b1 b2 B1 B2 hr hl r1 r2
  go_enter Tryd.func10, Tryd.ntmps10
  go_wp2_with (first
    | (at_builtin; refine wpList_app rfl (.tmp 4) (.tmp 5) rfl _ _ rfl rfl _ _ R1.out ?_)
    | (at_builtin; refine wpList_app rfl (.tmp 7) (.tmp 8) rfl _ _ rfl rfl _ _ R2.out ?_))
  go_ret
  exact ⟨g, cap, rfl, by simpa using O2.out, BB.out⟩
end Go.Proofs.YtmdlpbgelgeiaaaDoor
