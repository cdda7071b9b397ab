/-
  tetherlaw04.lent: a copy with a mark behind it; kept: is it as it was.
-/
import Derived.Test.YtnlhjlmjbmaipaaDoorMdSame
namespace Go.Proofs.YtnlhjlmjbmaipaaDoor
open Go.RowKit
set_option maxRecDepth 100000
set_option maxHeartbeats 400000
set_option linter.unusedSimpArgs false
set_option linter.unusedVariables false

theorem rd_one (w : World) (c : UInt8) (x : Int) (hx : x = (c.toNat : Int)) : Rd (w.alloc (.cells #[.int .u8 x] 5)) (w.heap.size + 1) (some ⟨w.heap.size, 0, none⟩) 1 [c] := by
  subst hx
  refine ⟨rfl, fun _ => ⟨w.heap.size, 0, rfl, by omega, fun j hj => ?_⟩⟩
  obtain rfl : j = 0 := by omega
  have h := (blk_new w 5 [.int .u8 (c.toNat : Int)]).cell 0
  rw [Nat.add_zero]
  exact h

theorem lent2_any (A : Option Addr) (n c B : Nat) (l : List UInt8) (w : World) (hr : Rd w B A n l) (hnil : A = none → c = 0) (hm : n ≤ 140737488351240) :
    Calls Tryd.prog 7 #[.slice A n c] w fun e w' =>
      ∃ g cap, e = .returned (.slice (some ⟨g, 0, none⟩) n cap) ∧ n + 1 ≤ cap ∧ Own w' w.heap.size (.slice (some ⟨g, 0, none⟩) (n + 1) cap) (l ++ [77]) ∧ Below w.heap.size w w' := by
  have hl := hr.1
  obtain ⟨v1, w1, r1, o1, g1, b1⟩ := append_run (Own.nil w w.heap.size) c hr hnil (by simp; omega) (Nat.le_refl _)
  have B1 : Below w.heap.size w w1 := (Below.refl _ _).grown g1 (Nat.le_refl _) (by simp [Value.ownBlock])
  obtain ⟨v2, w2, r2, o2, g2, b2⟩ := append_run (o1.alloc (.cells #[.int .u8 77] 5)) 1 (rd_one w1 77 77 rfl) (by simp) (by simp; omega) (by have := B1.size; simp; omega)
  have B2 : Below w.heap.size w w2 := (B1.alloc B1.size _).grown g2 (by have := B1.size; simp; omega) (by
    intro k hk
    rcases b1 with e | e <;> rw [e] at hk <;> simp [Value.ownBlock] at hk
    omega)
  have hv2 : ∃ g cap, v2 = .slice (some ⟨g, 0, none⟩) (n + 1) cap ∧ n + 1 ≤ cap := by
    rcases o2.2 with ⟨_, e⟩ | ⟨g, cap, cur, e, _, _, h1, _⟩
    · simp at e
    · refine ⟨g, cap, ?_, ?_⟩
      · rw [e]
        simp [hl]
      · simpa [hl] using h1
  obtain ⟨g, cap, rfl, hcap⟩ := hv2
  have O2 := Lib.hid o2
  have BB := Lib.hid B2
  have R1 := Lib.hid r1
  have R2 := Lib.hid r2
  clear o1 o2 g1 g2 b1 b2 B1 B2 hr hl r1 r2
  go_enter Tryd.func7, Tryd.ntmps7
  go_wp2_with (first
    | (at_builtin; refine wpList_app rfl (.tmp 4) (.tmp 5) rfl _ _ rfl rfl _ _ R1.out ?_)
    | (at_builtin; refine wpList_app rfl (.tmp 7) (.tmp 8) rfl _ _ rfl rfl _ _ R2.out ?_))
  go_ret
  exact ⟨g, cap, rfl, hcap, by simpa using O2.out, BB.out⟩

theorem kept2_any (A : Option Addr) (g n c cap base B : Nat) (l : List UInt8) (w : World) (ho : Own w base (.slice (some ⟨g, 0, none⟩) (n + 1) cap) (l ++ [77])) (hr : Rd w B A n l) (hm : n ≤ 140737488351240) :
    Calls Tryd.prog 9 #[.slice (some ⟨g, 0, none⟩) n cap, .slice A n c] w fun e w' => e = .returned (.bool true) ∧ w = w' := by
  have hl := hr.1
  have hlen : n + 1 = (l ++ [77]).length := by simp [hl]
  have hcap : n + 1 ≤ cap := by
    rcases ho.form with ⟨e, _⟩ | ⟨g', cap', e, _, _, h⟩
    · cases e
    · injection e with e1 e2 e3
      omega
  have hrd := ho.rd hlen n (by omega)
  rw [List.take_append_of_le_length (by omega), List.take_of_length_le (by omega)] at hrd
  have hlast := ho.cell hlen n (by omega)
  have e77 : byteAt (l ++ [77]) n = 77 := by
    rw [byteAt_eq _ _ (by omega)]
    simp [← hl]
  rw [e77] at hlast
  have S := Lib.hid (same2_yes (some ⟨g, 0, none⟩) A n cap c (max w.heap.size B) l w (hrd.wide (by omega)) (hr.wide (by omega)))
  clear hl hlen hrd e77 ho hr
  go_enter Tryd.func9, Tryd.ntmps9
  go_wp2_with (go_at_call 21; refine (S.out).mono ?_; rintro e w' ⟨rfl, rfl⟩)
  go_ret
  exact ⟨rfl, rfl⟩
end Go.Proofs.YtnlhjlmjbmaipaaDoor
