/-
  ip.Text of the chapter's example.
-/
import Derived.Test.YtjkdlmielckaaaaDoorIpAddr
import Derived.Deep.RegionHeld3
import Derived.Deep.RegionHeldLaw
namespace Go.Proofs.YtjkdlmielckaaaaDoor
open Go.RowKit
set_option maxRecDepth 100000
set_option maxHeartbeats 4000000
set_option linter.unusedSimpArgs false
set_option linter.unusedVariables false

theorem fourText_1 (w : World) : Calls Tryd.prog 30 #[.int .i64 167772161] w fun e w' => e = .returned (.string ⟨#[49, 48, 46, 48, 46, 48, 46, 49]⟩) ∧ Below w.heap.size w w' := by
  have b : bits .and .i64 167772161 4294967295 = 167772161 := by decide
  have HA := Lib.hid (addr_1 w)
  go_enter Tryd.func30, Tryd.ntmps30
  go_wp2_with (go_at_call 44; ((with_reducible refine HA.out.mono ?_); rintro e w1 ⟨rfl, HB⟩))
  go_ret
  exact ⟨rfl, HB⟩
theorem fourText_2 (w : World) : Calls Tryd.prog 30 #[.int .i64 167772162] w fun e w' => e = .returned (.string ⟨#[49, 48, 46, 48, 46, 48, 46, 50]⟩) ∧ Below w.heap.size w w' := by
  have b : bits .and .i64 167772162 4294967295 = 167772162 := by decide
  have HA := Lib.hid (addr_2 w)
  go_enter Tryd.func30, Tryd.ntmps30
  go_wp2_with (go_at_call 44; ((with_reducible refine HA.out.mono ?_); rintro e w1 ⟨rfl, HB⟩))
  go_ret
  exact ⟨rfl, HB⟩
theorem withPort_1 (w : World) : Calls Tryd.prog 32 #[.int .i64 4, .string ⟨#[49, 48, 46, 48, 46, 48, 46, 49]⟩, .int .i64 5] w fun e w' => e = .returned (.string ⟨#[49, 48, 46, 48, 46, 48, 46, 49, 58, 53]⟩) ∧ w = w' := by
  have HA := Lib.hid (itoa_5 w)
  go_enter Tryd.func32, Tryd.ntmps32
  go_wp2_with (go_at_call 47; ((with_reducible refine HA.out.mono ?_); rintro e w1 ⟨rfl, rfl⟩))
  go_ret
  exact ⟨rfl, rfl⟩
theorem withPort_2 (w : World) : Calls Tryd.prog 32 #[.int .i64 4, .string ⟨#[49, 48, 46, 48, 46, 48, 46, 50]⟩, .int .i64 7] w fun e w' => e = .returned (.string ⟨#[49, 48, 46, 48, 46, 48, 46, 50, 58, 55]⟩) ∧ w = w' := by
  have HA := Lib.hid (itoa_7 w)
  go_enter Tryd.func32, Tryd.ntmps32
  go_wp2_with (go_at_call 47; ((with_reducible refine HA.out.mono ?_); rintro e w1 ⟨rfl, rfl⟩))
  go_ret
  exact ⟨rfl, rfl⟩
theorem text_cells {W1 W : World} {z : Nat} (h : Blk W1 z 25 ipF3) (hB : Below W1.heap.size W1 W) : (W.cell? ⟨z, 11, none⟩ = some (.int .i64 167772161) ∧ W.cell? ⟨z, 12, none⟩ = some (.int .i64 167772162)) ∧ (W.cell? ⟨z, 0, none⟩ = some (.int .i64 4) ∧ W.cell? ⟨z, 46, none⟩ = some (.int .i64 5) ∧ W.cell? ⟨z, 47, none⟩ = some (.int .i64 7)) ∧ (W.cell? ⟨z, 10, none⟩ = some (.int .i64 17) ∧ W.cell? ⟨z, 45, none⟩ = some (.bool true)) := by
  have k : Blk W z 25 ipF3 := (hB.block z h.lt).trans h
  exact ⟨⟨k.cell 11, k.cell 12⟩, ⟨k.cell 0, k.cell 46, k.cell 47⟩, k.cell 10, k.cell 45⟩
theorem text_ex (w : World) : Calls Tryd.prog 16 #[.agg ipF3.toArray] w fun e w' => e = .returned (.string ⟨#[49, 48, 46, 48, 46, 48, 46, 49, 58, 53, 32, 62, 32, 49, 48, 46, 48, 46, 48, 46, 50, 58, 55, 32, 117, 100, 112]⟩) ∧ Below w.heap.size w w' := by
  obtain ⟨W1, hW1⟩ : ∃ W1, w.alloc (.cells ipF3.toArray 25) = W1 := ⟨_, rfl⟩
  have k1 : Blk W1 w.heap.size 25 ipF3 := by rw [← hW1]; exact blk_new w _ ipF3
  have B1 : Hid (Below w.heap.size w W1) := by rw [← hW1]; exact (Below.refl _ _).alloc (Nat.le_refl _) _
  obtain ⟨z, hz⟩ : ∃ z, w.heap.size = z := ⟨_, rfl⟩
  rw [hz] at k1
  have HZ := Lib.hid hz
  obtain ⟨⟨c11, c12⟩, ⟨c0, c46, c47⟩, c10, c45⟩ := text_cells k1 (Below.refl _ _)
  have KC : Hid (∀ V, Hid (Below W1.heap.size W1 V) → (V.cell? ⟨z, 11, none⟩ = some (.int .i64 167772161) ∧ V.cell? ⟨z, 12, none⟩ = some (.int .i64 167772162)) ∧ (V.cell? ⟨z, 0, none⟩ = some (.int .i64 4) ∧ V.cell? ⟨z, 46, none⟩ = some (.int .i64 5) ∧ V.cell? ⟨z, 47, none⟩ = some (.int .i64 7)) ∧ (V.cell? ⟨z, 10, none⟩ = some (.int .i64 17) ∧ V.cell? ⟨z, 45, none⟩ = some (.bool true))) := Lib.hid (fun V h => text_cells k1 h.out)
  have T1 : Hid (∀ V, Hid (Below W1.heap.size W1 V) → Calls Tryd.prog 30 #[.int .i64 167772161] V fun e w' => e = .returned (.string ⟨#[49, 48, 46, 48, 46, 48, 46, 49]⟩) ∧ ((w'.cell? ⟨z, 11, none⟩ = some (.int .i64 167772161) ∧ w'.cell? ⟨z, 12, none⟩ = some (.int .i64 167772162)) ∧ (w'.cell? ⟨z, 0, none⟩ = some (.int .i64 4) ∧ w'.cell? ⟨z, 46, none⟩ = some (.int .i64 5) ∧ w'.cell? ⟨z, 47, none⟩ = some (.int .i64 7)) ∧ (w'.cell? ⟨z, 10, none⟩ = some (.int .i64 17) ∧ w'.cell? ⟨z, 45, none⟩ = some (.bool true))) ∧ Hid (Below W1.heap.size W1 w')) := Lib.hid (fun V h => by
    refine (fourText_1 V).mono ?_
    rintro e w' ⟨rfl, hb⟩
    have h2 : Hid (Below W1.heap.size W1 w') := h.out.trans (hb.mono h.out.size)
    exact ⟨rfl, KC.out _ h2, h2⟩)
  have T2 : Hid (∀ V, Hid (Below W1.heap.size W1 V) → Calls Tryd.prog 30 #[.int .i64 167772162] V fun e w' => e = .returned (.string ⟨#[49, 48, 46, 48, 46, 48, 46, 50]⟩) ∧ ((w'.cell? ⟨z, 11, none⟩ = some (.int .i64 167772161) ∧ w'.cell? ⟨z, 12, none⟩ = some (.int .i64 167772162)) ∧ (w'.cell? ⟨z, 0, none⟩ = some (.int .i64 4) ∧ w'.cell? ⟨z, 46, none⟩ = some (.int .i64 5) ∧ w'.cell? ⟨z, 47, none⟩ = some (.int .i64 7)) ∧ (w'.cell? ⟨z, 10, none⟩ = some (.int .i64 17) ∧ w'.cell? ⟨z, 45, none⟩ = some (.bool true))) ∧ Hid (Below W1.heap.size W1 w')) := Lib.hid (fun V h => by
    refine (fourText_2 V).mono ?_
    rintro e w' ⟨rfl, hb⟩
    have h2 : Hid (Below W1.heap.size W1 w') := h.out.trans (hb.mono h.out.size)
    exact ⟨rfl, KC.out _ h2, h2⟩)
  have P1 : Hid (∀ V, Hid (Below W1.heap.size W1 V) → Calls Tryd.prog 32 #[.int .i64 4, .string ⟨#[49, 48, 46, 48, 46, 48, 46, 49]⟩, .int .i64 5] V fun e w' => e = .returned (.string ⟨#[49, 48, 46, 48, 46, 48, 46, 49, 58, 53]⟩) ∧ ((w'.cell? ⟨z, 11, none⟩ = some (.int .i64 167772161) ∧ w'.cell? ⟨z, 12, none⟩ = some (.int .i64 167772162)) ∧ (w'.cell? ⟨z, 0, none⟩ = some (.int .i64 4) ∧ w'.cell? ⟨z, 46, none⟩ = some (.int .i64 5) ∧ w'.cell? ⟨z, 47, none⟩ = some (.int .i64 7)) ∧ (w'.cell? ⟨z, 10, none⟩ = some (.int .i64 17) ∧ w'.cell? ⟨z, 45, none⟩ = some (.bool true))) ∧ Hid (Below W1.heap.size W1 w')) := Lib.hid (fun V h => by
    refine (withPort_1 V).mono ?_
    rintro e w' ⟨rfl, rfl⟩
    exact ⟨rfl, KC.out _ h, h⟩)
  have P2 : Hid (∀ V, Hid (Below W1.heap.size W1 V) → Calls Tryd.prog 32 #[.int .i64 4, .string ⟨#[49, 48, 46, 48, 46, 48, 46, 50]⟩, .int .i64 7] V fun e w' => e = .returned (.string ⟨#[49, 48, 46, 48, 46, 48, 46, 50, 58, 55]⟩) ∧ ((w'.cell? ⟨z, 11, none⟩ = some (.int .i64 167772161) ∧ w'.cell? ⟨z, 12, none⟩ = some (.int .i64 167772162)) ∧ (w'.cell? ⟨z, 0, none⟩ = some (.int .i64 4) ∧ w'.cell? ⟨z, 46, none⟩ = some (.int .i64 5) ∧ w'.cell? ⟨z, 47, none⟩ = some (.int .i64 7)) ∧ (w'.cell? ⟨z, 10, none⟩ = some (.int .i64 17) ∧ w'.cell? ⟨z, 45, none⟩ = some (.bool true))) ∧ Hid (Below W1.heap.size W1 w')) := Lib.hid (fun V h => by
    refine (withPort_2 V).mono ?_
    rintro e w' ⟨rfl, rfl⟩
    exact ⟨rfl, KC.out _ h, h⟩)
  have SD : ∀ V, Hid (Below W1.heap.size W1 V) → Hid (Below W1.heap.size W1 V.drew) := fun V h => below_drewN h.out 1
  have SS : Hid (Below W1.heap.size W1 W1) := Below.refl _ _
  clear k1
  go_enter Tryd.func16, Tryd.ntmps16
  go_wp2
  go_region_held3 (fun w' => w'.cell? ⟨z, 11, none⟩ = some (.int .i64 167772161) ∧ w'.cell? ⟨z, 12, none⟩ = some (.int .i64 167772162)) (go_keep) (first
    | (go_at_call 30; (with_reducible refine (T1.out _ (by first | assumption | exact SD _ (by assumption))).mono ?_); rintro e V ⟨rfl, ⟨⟨y11, y12⟩, ⟨y0, y46, y47⟩, y10, y45⟩, S3⟩)
    | (go_at_call 30; (with_reducible refine (T2.out _ (by first | assumption | exact SD _ (by assumption))).mono ?_); rintro e V ⟨rfl, ⟨⟨y11, y12⟩, ⟨y0, y46, y47⟩, y10, y45⟩, S3⟩))
  all_goals go_wp2
  all_goals go_region_held3 (fun w' => w'.cell? ⟨z, 0, none⟩ = some (.int .i64 4) ∧ w'.cell? ⟨z, 46, none⟩ = some (.int .i64 5) ∧ w'.cell? ⟨z, 47, none⟩ = some (.int .i64 7)) (go_keep) (first
    | (go_at_call 32; (with_reducible refine (P1.out _ (by first | assumption | exact SD _ (by assumption))).mono ?_); rintro e V2 ⟨rfl, ⟨-, ⟨y0, y46, y47⟩, y10, y45⟩, S4⟩)
    | (go_at_call 32; (with_reducible refine (P2.out _ (by first | assumption | exact SD _ (by assumption))).mono ?_); rintro e V2 ⟨rfl, ⟨-, ⟨y0, y46, y47⟩, y10, y45⟩, S4⟩))
  all_goals go_wp2
  all_goals go_ret
  all_goals exact ⟨rfl, B1.out.trans (S4.out.mono B1.out.size)⟩
end Go.Proofs.YtjkdlmielckaaaaDoor
