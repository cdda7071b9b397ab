/-
  bytes.Clone.
-/
import Derived.Test.YtlpboleclehilaaDoorClone0
import Derived.Lib.Hide
namespace Go.Proofs.YtlpboleclehilaaDoor
open Go.RowKit
set_option maxRecDepth 100000
set_option maxHeartbeats 4000000
set_option linter.unusedSimpArgs false
set_option linter.unusedVariables false

theorem nil_yes (W : World) : (binOp .eql 51 (.slice none 0 0) (.slice none 0 0)).run Tryd.prog W = .ok (.bool true) W := by kernel_rfl
theorem nil_no (W : World) (a : Addr) (n c : Nat) : (binOp .eql 51 (.slice (some a) n c) (.slice none 0 0)).run Tryd.prog W = .ok (.bool false) W := by kernel_rfl
theorem bclone_any (A : Option Addr) (n c B : Nat) (l : List UInt8) (w : World) (hr : Rd w B A n l) (hB : B ≤ w.heap.size) (hnil : A = none → c = 0) (hn : n ≤ 140737488355328) :
    Calls Tryd.prog 55 #[.slice A n c] w fun e w' => ∃ v, e = .returned v ∧ Own w' w.heap.size v l ∧ Below w.heap.size w w' := by
  rcases A with _ | a
  · have hc := hnil rfl
    subst hc
    obtain rfl : n = 0 := by
      rcases Nat.eq_zero_or_pos n with h | h
      · exact h
      · obtain ⟨b, off, e, _⟩ := hr.2 h
        cases e
    have hl := hr.of_zero
    subst hl
    clear hr hB hnil hn
    have NY := nil_yes
    go_enter Tryd.func55, Tryd.ntmps55
    go_wp2
    go_ret
    exact ⟨_, rfl, Own.nil _ _, Below.refl _ _⟩
  · have ho : Own (w.alloc (.cells #[] 5)) w.heap.size (.slice (some ⟨w.heap.size, 0, none⟩) 0 0) [] := own_of_blk (l := []) (blk_new w 5 []) (Nat.le_refl _) (by simp)
    obtain ⟨v, w2, r1, o1, g1, b1⟩ := append_run ho c (hr.alloc hB _) (fun e => by cases e) (by simpa using hn) (by simp)
    have B1 : Below w.heap.size w w2 := ((Below.refl _ _).alloc (Nat.le_refl _) _).grown g1 (by simp) (fun q hq => by simp [Value.ownBlock] at hq; omega)
    have R1 := Lib.hid r1
    have O1 := Lib.hid o1
    have HB := Lib.hid B1
    clear hr hB hnil hn ho r1 o1 g1 b1 B1
    have NN := nil_no
    go_enter Tryd.func55, Tryd.ntmps55
    go_wp2_with (at_builtin; refine wpList_app rfl (.tmp 5) (.tmp 6) rfl _ _ rfl rfl _ _ R1.out ?_)
    go_ret
    exact ⟨v, rfl, O1.out, HB.out⟩
end Go.Proofs.YtlpboleclehilaaDoor
