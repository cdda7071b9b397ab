/-
  spell.AddrText, ip.fourText of the chapter's example.
-/
import Derived.Test.YtjkdlmielckaaaaDoorIpSmall
import Derived.Lib.BufferRead
import Derived.LoopTactic
namespace Go.Proofs.YtjkdlmielckaaaaDoor
open Go.RowKit
set_option maxRecDepth 100000
set_option maxHeartbeats 4000000
set_option linter.unusedSimpArgs false
set_option linter.unusedVariables false

theorem rd_dot (w : World) : Rd (w.alloc (.cells #[.int .u8 46] 5)) (w.heap.size + 1) (some ⟨w.heap.size, 0, none⟩) 1 [46] := by
  refine ⟨rfl, fun _ => ⟨w.heap.size, 0, rfl, by omega, fun j hj => ?_⟩⟩
  have h := (blk_new w 5 [.int .u8 46]).cell j
  rw [Nat.zero_add]
  obtain rfl : j = 0 := by omega
  exact h
theorem own_dot {base : Nat} {v : Value} {l : List UInt8} {W : World} (ho : Own W base v l) (hb : base ≤ W.heap.size) (hl : l.length ≤ 100) :
    ∃ v2 w2, (Builtin.append_ #[22, 22] 22 #[v, .slice (some ⟨W.heap.size, 0, none⟩) 1 1]).run Tryd.prog (W.alloc (.cells #[.int .u8 46] 5)) = .ok v2 w2 ∧ Own w2 base v2 (l ++ [46]) ∧ Below base W w2 := by
  obtain ⟨v2, w2, r2, o2, g2, b2⟩ := append_run (ho.alloc (.cells #[.int .u8 46] 5)) 1 (rd_dot W) (by simp) (by omega) (by simp; omega)
  exact ⟨v2, w2, r2, o2, ((Below.refl _ _).alloc hb _).grown g2 (by simp; omega) (fun j hj => (ho.block j hj).1)⟩
theorem conv_front {w : World} {base : Nat} {g cap n : Nat} {l : List UInt8} (ho : Own w base (.slice (some ⟨g, 0, none⟩) (n + 1) cap) l) (hl : l.length = n + 1) :
    (convert 22 9 (.slice (some ⟨g, 0, none⟩) n cap)).run Tryd.prog w = .ok (.string ⟨(l.take n).toArray⟩) w := by
  have e : n = (l.take n).length := by rw [List.length_take]; omega
  have h := run_convert_bytes_back (P := Tryd.prog) w 22 9 5 ⟨g, 0, none⟩ cap (l.take n) Tryd.underlying22 Tryd.underlying5 Tryd.underlying9 (fun j hj => by
    have e2 : (⟨g, 0, none⟩ : Addr).add j = ⟨g, j, none⟩ := by
      unfold Addr.add
      split
      · subst_vars
        rfl
      · simp
    rw [e2, ho.cell hl.symm j (by omega), byteAt_eq l j (by omega)]
    simp [List.getElem_take])
  rw [← e] at h
  exact h
def adL1 : Nat → List UInt8
  | 0 => []
  | 1 => [49, 48, 46]
  | 2 => [49, 48, 46, 48, 46]
  | 3 => [49, 48, 46, 48, 46, 48, 46]
  | _ => [49, 48, 46, 48, 46, 48, 46, 49, 46]
theorem addr_1 (w : World) : Calls Tryd.prog 44 #[.int .i64 167772161] w fun e w' => e = .returned (.tuple #[.string ⟨#[49, 48, 46, 48, 46, 48, 46, 49]⟩, .int .i64 0]) ∧ Below w.heap.size w w' := by
  have b10 : bits .and .i64 10 255 = 10 := by decide
  have b11 : bits .and .i64 2560 255 = 0 := by decide
  have b12 : bits .and .i64 655360 255 = 0 := by decide
  have b13 : bits .and .i64 167772161 255 = 1 := by decide
  go_enter Tryd.func44, Tryd.ntmps44
  go_wp2
  go_loopw [4, 5] (fun v i wr => ∃ k : Nat, k ≤ 4 ∧ i = .int .i64 (24 - 8 * (k : Int)) ∧ Hid (Own wr w.heap.size v (adL1 k)) ∧ Hid (Below w.heap.size w wr)) (fun _ i _ => (intOf i + 8).toNat)
  case atStart => exact ⟨0, by decide, rfl, Own.nil _ _, Below.refl _ _⟩
  case round =>
    rename_i wr
    obtain ⟨k, hk, rfl, ho, hB⟩ := hrel
    rcases (show k = 0 ∨ k = 1 ∨ k = 2 ∨ k = 3 ∨ k = 4 by omega) with rfl | rfl | rfl | rfl | rfl
    · obtain ⟨A, c, rfl, _⟩ := own_later ho.out (Below.refl _ _)
      have AP := Lib.hid (app_10 wr w.heap.size _ _ ho.out hB.out.size (by decide))
      clear ho
      go_wp2_with (first
        | (go_at_call 51; ((with_reducible refine AP.out.mono ?_); rintro e w1 ⟨v1, rfl, O1, B1⟩; obtain ⟨v2, w2, r2, o2, b2⟩ := own_dot O1.out (Nat.le_trans hB.out.size B1.out.size) (by decide); have R2 := Lib.hid r2; have O2 := Lib.hid o2; have B2 : Hid (Below w.heap.size w w2) := (hB.out.trans B1.out).trans b2; obtain ⟨A1, c1, rfl, _⟩ := own_later O1.out (Below.refl _ _); clear r2 o2 b2))
        | (at_builtin; refine wpList_app rfl (.tmp 22) (.tmp 23) rfl _ _ rfl rfl _ _ R2.out ?_)
        | go_in)
      go_roundw
      case rel => exact ⟨1, by decide, by go_num, O2, B2⟩
      case measure => simp [intOf]
    · obtain ⟨A, c, rfl, _⟩ := own_later ho.out (Below.refl _ _)
      have AP := Lib.hid (app_0 wr w.heap.size _ _ ho.out hB.out.size (by decide))
      clear ho
      go_wp2_with (first
        | (go_at_call 51; ((with_reducible refine AP.out.mono ?_); rintro e w1 ⟨v1, rfl, O1, B1⟩; obtain ⟨v2, w2, r2, o2, b2⟩ := own_dot O1.out (Nat.le_trans hB.out.size B1.out.size) (by decide); have R2 := Lib.hid r2; have O2 := Lib.hid o2; have B2 : Hid (Below w.heap.size w w2) := (hB.out.trans B1.out).trans b2; obtain ⟨A1, c1, rfl, _⟩ := own_later O1.out (Below.refl _ _); clear r2 o2 b2))
        | (at_builtin; refine wpList_app rfl (.tmp 22) (.tmp 23) rfl _ _ rfl rfl _ _ R2.out ?_)
        | go_in)
      go_roundw
      case rel => exact ⟨2, by decide, by go_num, O2, B2⟩
      case measure => simp [intOf]
    · obtain ⟨A, c, rfl, _⟩ := own_later ho.out (Below.refl _ _)
      have AP := Lib.hid (app_0 wr w.heap.size _ _ ho.out hB.out.size (by decide))
      clear ho
      go_wp2_with (first
        | (go_at_call 51; ((with_reducible refine AP.out.mono ?_); rintro e w1 ⟨v1, rfl, O1, B1⟩; obtain ⟨v2, w2, r2, o2, b2⟩ := own_dot O1.out (Nat.le_trans hB.out.size B1.out.size) (by decide); have R2 := Lib.hid r2; have O2 := Lib.hid o2; have B2 : Hid (Below w.heap.size w w2) := (hB.out.trans B1.out).trans b2; obtain ⟨A1, c1, rfl, _⟩ := own_later O1.out (Below.refl _ _); clear r2 o2 b2))
        | (at_builtin; refine wpList_app rfl (.tmp 22) (.tmp 23) rfl _ _ rfl rfl _ _ R2.out ?_)
        | go_in)
      go_roundw
      case rel => exact ⟨3, by decide, by go_num, O2, B2⟩
      case measure => simp [intOf]
    · obtain ⟨A, c, rfl, _⟩ := own_later ho.out (Below.refl _ _)
      have AP := Lib.hid (app_1 wr w.heap.size _ _ ho.out hB.out.size (by decide))
      clear ho
      go_wp2_with (first
        | (go_at_call 51; ((with_reducible refine AP.out.mono ?_); rintro e w1 ⟨v1, rfl, O1, B1⟩; obtain ⟨v2, w2, r2, o2, b2⟩ := own_dot O1.out (Nat.le_trans hB.out.size B1.out.size) (by decide); have R2 := Lib.hid r2; have O2 := Lib.hid o2; have B2 : Hid (Below w.heap.size w w2) := (hB.out.trans B1.out).trans b2; obtain ⟨A1, c1, rfl, _⟩ := own_later O1.out (Below.refl _ _); clear r2 o2 b2))
        | (at_builtin; refine wpList_app rfl (.tmp 22) (.tmp 23) rfl _ _ rfl rfl _ _ R2.out ?_)
        | go_in)
      go_roundw
      case rel => exact ⟨4, by decide, by go_num, O2, B2⟩
      case measure => simp [intOf]
    · obtain ⟨g, cap, rfl⟩ : ∃ g cap, _ = Value.slice (some ⟨g, 0, none⟩) 9 cap := by
        rcases ho.out.form with ⟨_, h⟩ | ⟨g, cap, e, _⟩
        · cases h
        · exact ⟨g, cap, e⟩
      have hcap : 9 ≤ cap := by
        rcases ho.out.form with ⟨h, _⟩ | ⟨g', cap', e, _, _, h⟩
        · cases h
        · injection e with e1 e2 e3
          subst e3
          exact h
      have hcv := conv_front (n := 8) ho.out (by rfl)
      clear ho
      go_wp2
      go_ret2
      exact ⟨rfl, hB.out⟩
def adL2 : Nat → List UInt8
  | 0 => []
  | 1 => [49, 48, 46]
  | 2 => [49, 48, 46, 48, 46]
  | 3 => [49, 48, 46, 48, 46, 48, 46]
  | _ => [49, 48, 46, 48, 46, 48, 46, 50, 46]
theorem addr_2 (w : World) : Calls Tryd.prog 44 #[.int .i64 167772162] w fun e w' => e = .returned (.tuple #[.string ⟨#[49, 48, 46, 48, 46, 48, 46, 50]⟩, .int .i64 0]) ∧ Below w.heap.size w w' := by
  have b10 : bits .and .i64 10 255 = 10 := by decide
  have b11 : bits .and .i64 2560 255 = 0 := by decide
  have b12 : bits .and .i64 655360 255 = 0 := by decide
  have b13 : bits .and .i64 167772162 255 = 2 := by decide
  go_enter Tryd.func44, Tryd.ntmps44
  go_wp2
  go_loopw [4, 5] (fun v i wr => ∃ k : Nat, k ≤ 4 ∧ i = .int .i64 (24 - 8 * (k : Int)) ∧ Hid (Own wr w.heap.size v (adL2 k)) ∧ Hid (Below w.heap.size w wr)) (fun _ i _ => (intOf i + 8).toNat)
  case atStart => exact ⟨0, by decide, rfl, Own.nil _ _, Below.refl _ _⟩
  case round =>
    rename_i wr
    obtain ⟨k, hk, rfl, ho, hB⟩ := hrel
    rcases (show k = 0 ∨ k = 1 ∨ k = 2 ∨ k = 3 ∨ k = 4 by omega) with rfl | rfl | rfl | rfl | rfl
    · obtain ⟨A, c, rfl, _⟩ := own_later ho.out (Below.refl _ _)
      have AP := Lib.hid (app_10 wr w.heap.size _ _ ho.out hB.out.size (by decide))
      clear ho
      go_wp2_with (first
        | (go_at_call 51; ((with_reducible refine AP.out.mono ?_); rintro e w1 ⟨v1, rfl, O1, B1⟩; obtain ⟨v2, w2, r2, o2, b2⟩ := own_dot O1.out (Nat.le_trans hB.out.size B1.out.size) (by decide); have R2 := Lib.hid r2; have O2 := Lib.hid o2; have B2 : Hid (Below w.heap.size w w2) := (hB.out.trans B1.out).trans b2; obtain ⟨A1, c1, rfl, _⟩ := own_later O1.out (Below.refl _ _); clear r2 o2 b2))
        | (at_builtin; refine wpList_app rfl (.tmp 22) (.tmp 23) rfl _ _ rfl rfl _ _ R2.out ?_)
        | go_in)
      go_roundw
      case rel => exact ⟨1, by decide, by go_num, O2, B2⟩
      case measure => simp [intOf]
    · obtain ⟨A, c, rfl, _⟩ := own_later ho.out (Below.refl _ _)
      have AP := Lib.hid (app_0 wr w.heap.size _ _ ho.out hB.out.size (by decide))
      clear ho
      go_wp2_with (first
        | (go_at_call 51; ((with_reducible refine AP.out.mono ?_); rintro e w1 ⟨v1, rfl, O1, B1⟩; obtain ⟨v2, w2, r2, o2, b2⟩ := own_dot O1.out (Nat.le_trans hB.out.size B1.out.size) (by decide); have R2 := Lib.hid r2; have O2 := Lib.hid o2; have B2 : Hid (Below w.heap.size w w2) := (hB.out.trans B1.out).trans b2; obtain ⟨A1, c1, rfl, _⟩ := own_later O1.out (Below.refl _ _); clear r2 o2 b2))
        | (at_builtin; refine wpList_app rfl (.tmp 22) (.tmp 23) rfl _ _ rfl rfl _ _ R2.out ?_)
        | go_in)
      go_roundw
      case rel => exact ⟨2, by decide, by go_num, O2, B2⟩
      case measure => simp [intOf]
    · obtain ⟨A, c, rfl, _⟩ := own_later ho.out (Below.refl _ _)
      have AP := Lib.hid (app_0 wr w.heap.size _ _ ho.out hB.out.size (by decide))
      clear ho
      go_wp2_with (first
        | (go_at_call 51; ((with_reducible refine AP.out.mono ?_); rintro e w1 ⟨v1, rfl, O1, B1⟩; obtain ⟨v2, w2, r2, o2, b2⟩ := own_dot O1.out (Nat.le_trans hB.out.size B1.out.size) (by decide); have R2 := Lib.hid r2; have O2 := Lib.hid o2; have B2 : Hid (Below w.heap.size w w2) := (hB.out.trans B1.out).trans b2; obtain ⟨A1, c1, rfl, _⟩ := own_later O1.out (Below.refl _ _); clear r2 o2 b2))
        | (at_builtin; refine wpList_app rfl (.tmp 22) (.tmp 23) rfl _ _ rfl rfl _ _ R2.out ?_)
        | go_in)
      go_roundw
      case rel => exact ⟨3, by decide, by go_num, O2, B2⟩
      case measure => simp [intOf]
    · obtain ⟨A, c, rfl, _⟩ := own_later ho.out (Below.refl _ _)
      have AP := Lib.hid (app_2 wr w.heap.size _ _ ho.out hB.out.size (by decide))
      clear ho
      go_wp2_with (first
        | (go_at_call 51; ((with_reducible refine AP.out.mono ?_); rintro e w1 ⟨v1, rfl, O1, B1⟩; obtain ⟨v2, w2, r2, o2, b2⟩ := own_dot O1.out (Nat.le_trans hB.out.size B1.out.size) (by decide); have R2 := Lib.hid r2; have O2 := Lib.hid o2; have B2 : Hid (Below w.heap.size w w2) := (hB.out.trans B1.out).trans b2; obtain ⟨A1, c1, rfl, _⟩ := own_later O1.out (Below.refl _ _); clear r2 o2 b2))
        | (at_builtin; refine wpList_app rfl (.tmp 22) (.tmp 23) rfl _ _ rfl rfl _ _ R2.out ?_)
        | go_in)
      go_roundw
      case rel => exact ⟨4, by decide, by go_num, O2, B2⟩
      case measure => simp [intOf]
    · obtain ⟨g, cap, rfl⟩ : ∃ g cap, _ = Value.slice (some ⟨g, 0, none⟩) 9 cap := by
        rcases ho.out.form with ⟨_, h⟩ | ⟨g, cap, e, _⟩
        · cases h
        · exact ⟨g, cap, e⟩
      have hcap : 9 ≤ cap := by
        rcases ho.out.form with ⟨h, _⟩ | ⟨g', cap', e, _, _, h⟩
        · cases h
        · injection e with e1 e2 e3
          subst e3
          exact h
      have hcv := conv_front (n := 8) ho.out (by rfl)
      clear ho
      go_wp2
      go_ret2
      exact ⟨rfl, hB.out⟩
end Go.Proofs.YtjkdlmielckaaaaDoor
