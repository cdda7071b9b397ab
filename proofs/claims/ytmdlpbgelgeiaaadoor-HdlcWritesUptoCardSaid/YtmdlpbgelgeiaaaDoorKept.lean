/-
  tetherref01.Kept: the copy is as it was; tetherref01.Spoil writes over a slice of the call's own and nothing else.
-/
import Derived.Test.YtmdlpbgelgeiaaaDoorLent
import Derived.Test.YtmdlpbgelgeiaaaDoorSpoilB
import Derived.LoopTactic
import Derived.Laws.BitsAllLaws
namespace Go.Proofs.YtmdlpbgelgeiaaaDoor
open Go.RowKit
set_option maxRecDepth 100000
set_option linter.unusedSimpArgs false
set_option linter.unusedVariables false

theorem kept_any (A : Option Addr) (g n c cap base B : Nat) (l : List UInt8) (w : World) (ho : Own w base (.slice (some ⟨g, 0, none⟩) (n + 1) cap) (l ++ [77])) (hr : Rd w B A n l) (hm : n ≤ 140737488351232) :
    Calls Tryd.prog 20 #[.slice (some ⟨g, 0, none⟩) n cap, .slice A n c] w fun e w' => e = .returned (.bool true) ∧ ∃ k, w' = w.drewN k := by
  have hl := hr.1
  have hlen : n + 1 = (l ++ [77]).length := by simp [hl]
  have hcap : n + 1 ≤ cap := by
    rcases ho.form with ⟨e, _⟩ | ⟨g', cap', e, _, _, h⟩
    · cases e
    · injection e with e1 e2 e3
      omega
  have hrd := ho.rd hlen n (by omega)
  rw [List.take_append_of_le_length (by omega), List.take_of_length_le (by omega)] at hrd
  have hlast := ho.cell hlen n (by omega)
  have e77 : byteAt (l ++ [77]) n = 77 := by
    rw [byteAt_eq _ _ (by omega)]
    simp [← hl]
  rw [e77] at hlast
  have S := Lib.hid (same_yes (some ⟨g, 0, none⟩) A n cap c l w (max w.heap.size B) (hrd.wide (by omega)) (hr.wide (by omega)) (by unfold maxLen; omega))
  clear hl hlen hrd e77 ho hr
  go_enter Tryd.func20, Tryd.ntmps20
  go_wp2_with (go_at_call 18; refine (S.out).mono ?_; rintro e w' ⟨rfl, k, rfl⟩)
  go_ret
  exact ⟨rfl, _, rfl⟩

end Go.Proofs.YtmdlpbgelgeiaaaDoor
