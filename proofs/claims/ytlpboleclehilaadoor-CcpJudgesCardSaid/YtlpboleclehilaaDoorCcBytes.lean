/-
  ccp.Bytes and the reference's.
-/
import Derived.Test.YtlpboleclehilaaDoorCcApp
import Derived.Test.YtlpboleclehilaaDoorOpTail
import Derived.Test.YtlpboleclehilaaDoorBytesClone
import Derived.Deep.RegionHeld3
namespace Go.Proofs.YtlpboleclehilaaDoor
open Go.RowKit
set_option maxRecDepth 100000
set_option maxHeartbeats 2000000
set_option linter.unusedSimpArgs false
set_option linter.unusedVariables false

theorem byte_hi (p : Int) : cellOf (byN (p / 256)) = .int .u8 (p / 256 % 256) := by
  unfold cellOf
  rw [byN_nat]
  congr 1
  omega
theorem byte_lo (p : Int) : cellOf (byN p) = .int .u8 (p % 256) := by
  unfold cellOf
  rw [byN_nat]
  congr 1
  omega
/-- what is told of a frame's bytes -/
def BtR (w : World) (p : Int) (l : List UInt8) (e : Ending) (w' : World) : Prop := ∃ A n c, e = .returned (.tuple #[.slice A n c, .int .i64 (btE p l.length)]) ∧ Rd w' w'.heap.size A n (btL p l) ∧ (A = none → c = 0) ∧ n ≤ c ∧ Below w.heap.size w w'
theorem bytes_any (p : Int) (D : Option Addr) (m c B : Nat) (l : List UInt8) (w : World) (hr : Rd w B D m l) (hB : B ≤ w.heap.size) (hD : D = none → c = 0) (hmc : m ≤ c) (hm : m ≤ 140737488351232) :
    Calls Tryd.prog 21 #[.agg #[.int .i64 p, .slice D m c]] w fun e w' => BtR w p l e w' := by
  obtain ⟨W1, hW1⟩ : ∃ W1, w.alloc (.cells #[.int .i64 p, .slice D m c] 53) = W1 := ⟨_, rfl⟩
  have k1 : Blk W1 w.heap.size 53 [.int .i64 p, .slice D m c] := by rw [← hW1]; exact blk_new w _ _
  have B1 : Below w.heap.size w W1 := by rw [← hW1]; exact (Below.refl _ _).alloc (Nat.le_refl _) _
  have s1 : W1.heap.size = w.heap.size + 1 := by rw [← hW1]; simp
  have HW := Lib.hid hW1
  have c0 := k1.cell 0
  have c1 := k1.cell 1
  have PR := Lib.hid (protoRight_any p W1)
  have hl := hr.1
  by_cases hp : prB p = true
  · rw [hp] at PR
    have hp2 := hp
    unfold prB at hp2
    simp only [Bool.and_eq_true, decide_eq_true_eq, beq_iff_eq] at hp2
    obtain ⟨⟨⟨p0, p1⟩, p2⟩, p3⟩ := hp2
    by_cases hn : 16384 < m
    · have HE : Hid (btE p l.length = 4 ∧ btL p l = []) := by
        have : btE p l.length = 4 := by unfold btE; rw [hp, if_neg (by simp), if_pos (by omega)]
        exact ⟨this, by unfold btL; rw [this]; rfl⟩
      have hn' : (16384 : Int) < (m : Int) := by omega
      have HB := Lib.hid B1
      clear hW1 k1 B1 hr hp p0 p1 p2 p3 hn hl
      go_enter Tryd.func21, Tryd.ntmps21
      go_wp2_with (first
        | (rw [HW.out])
        | (go_at_call 42; ((with_reducible refine PR.out.mono ?_); rintro e w' ⟨rfl, rfl⟩)))
      go_ret2
      refine ⟨none, 0, 0, ?_, ?_, fun _ => rfl, Nat.le_refl _, HB.out⟩
      · rw [HE.out.1]; rfl
      · rw [HE.out.2]; exact Rd.nil
    · have h1 : ¬ (16384 : Int) < (m : Int) := by omega
      have HE : Hid (btE p l.length = 0 ∧ btL p l = numL p ++ l) := by
        have : btE p l.length = 0 := by unfold btE; rw [hp, if_neg (by simp), if_neg (by omega)]
        exact ⟨this, by unfold btL; rw [this]; rfl⟩
      have HS1 := Lib.hid s1
      by_cases hs : p < 256
      · have hn1 : numL p = [byN p] := if_pos hs
        rw [hn1] at HE
        have hx : ∃ A cc w', (Builtin.append_ #[51, 51] 51 #[.slice (some ⟨w.heap.size + 1, 1, none⟩) 1 1, .slice D m c]).run Tryd.prog (W1.alloc (.cells #[.int .u8 (p / 256), .int .u8 p] 5)) = .ok (.slice A (1 + m) cc) w' ∧ Rd w' w'.heap.size A (1 + m) ([byN p] ++ l) ∧ (A = none → cc = 0) ∧ 1 + m ≤ cc ∧ Below w.heap.size w w' := by
          have kb := blk_new W1 5 [.int .u8 (p / 256), .int .u8 p]
          rw [s1] at kb
          have bA : Below W1.heap.size W1 (W1.alloc (.cells #[.int .u8 (p / 256), .int .u8 p] 5)) := (Below.refl _ _).alloc (Nat.le_refl _) _
          have b02 := B1.trans (bA.mono (by omega))
          have hcl : ∀ i, i < 1 → (W1.alloc (.cells #[.int .u8 (p / 256), .int .u8 p] 5)).cell? ⟨w.heap.size + 1, 1 + i, none⟩ = some (.int .u8 (byteAt [byN p] i)) := by
            intro i hi
            match i, hi with
            | 0, _ =>
              rw [kb.cell 1]
              show some (Value.int .u8 p) = some (Value.int .u8 (((byN p).toNat : Nat) : Int))
              rw [byN_nat]
              congr 2
              omega
          obtain ⟨A, cc, w', r1, r2, r3, r4, r5⟩ := app_full (w := W1.alloc (.cells #[.int .u8 (p / 256), .int .u8 p] 5)) (w.heap.size + 1) 1 1 [byN p] rfl (by decide) hcl (Blk.lt kb) D m c B l (hr.below (b02.mono hB)) (by have := b02.size; omega) hD (by omega)
          exact ⟨A, cc, w', r1, r2, r3, r4, b02.trans (r5.mono b02.size)⟩
        obtain ⟨A, cc, w', r1, r2, r3, r4, r5⟩ := hx
        have HX := Lib.hid r1
        have HY := Lib.hid (And.intro r2 (And.intro r3 (And.intro r4 r5)))
        clear r1 r2 r3 r4 r5 hn1
        have s1 := HS1.out
        clear hr hW1 k1 B1 hp hn hl
        go_enter Tryd.func21, Tryd.ntmps21
        go_wp2_with (first
          | (rw [HW.out])
          | (go_at_call 42; ((with_reducible refine PR.out.mono ?_); rintro e w' ⟨rfl, rfl⟩))
          | (at_builtin; refine wpList_app rfl (.tmp 28) (.tmp 30) rfl _ _ rfl rfl _ _ HX.out ?_))
        go_ret2
        refine ⟨A, _, cc, ?_, ?_, HY.out.2.1, HY.out.2.2.1, HY.out.2.2.2⟩
        · rw [HE.out.1]; rfl
        · rw [HE.out.2]; exact HY.out.1
      · have hn1 : numL p = [byN (p / 256), byN p] := if_neg hs
        rw [hn1] at HE
        have hx : ∃ A cc w', (Builtin.append_ #[51, 51] 51 #[.slice (some ⟨w.heap.size + 1, 0, none⟩) 2 2, .slice D m c]).run Tryd.prog (W1.alloc (.cells #[.int .u8 (p / 256), .int .u8 (p % 256)] 5)) = .ok (.slice A (2 + m) cc) w' ∧ Rd w' w'.heap.size A (2 + m) ([byN (p / 256), byN p] ++ l) ∧ (A = none → cc = 0) ∧ 2 + m ≤ cc ∧ Below w.heap.size w w' := by
          have kb := blk_new W1 5 [.int .u8 (p / 256), .int .u8 (p % 256)]
          rw [s1] at kb
          have bA : Below W1.heap.size W1 (W1.alloc (.cells #[.int .u8 (p / 256), .int .u8 (p % 256)] 5)) := (Below.refl _ _).alloc (Nat.le_refl _) _
          have b02 := B1.trans (bA.mono (by omega))
          have hcl : ∀ i, i < 2 → (W1.alloc (.cells #[.int .u8 (p / 256), .int .u8 (p % 256)] 5)).cell? ⟨w.heap.size + 1, 0 + i, none⟩ = some (.int .u8 (byteAt [byN (p / 256), byN p] i)) := by
            intro i hi
            match i, hi with
            | 0, _ =>
              rw [kb.cell 0]
              show some (Value.int .u8 (p / 256)) = some (Value.int .u8 (((byN (p / 256)).toNat : Nat) : Int))
              rw [byN_nat]
              congr 2
              omega
            | 1, _ =>
              rw [kb.cell 1]
              show some (Value.int .u8 (p % 256)) = some (Value.int .u8 (((byN p).toNat : Nat) : Int))
              rw [byN_nat]
              congr 2
              omega
          obtain ⟨A, cc, w', r1, r2, r3, r4, r5⟩ := app_full (w := W1.alloc (.cells #[.int .u8 (p / 256), .int .u8 (p % 256)] 5)) (w.heap.size + 1) 0 2 [byN (p / 256), byN p] rfl (by decide) hcl (Blk.lt kb) D m c B l (hr.below (b02.mono hB)) (by have := b02.size; omega) hD (by omega)
          exact ⟨A, cc, w', r1, r2, r3, r4, b02.trans (r5.mono b02.size)⟩
        obtain ⟨A, cc, w', r1, r2, r3, r4, r5⟩ := hx
        have HX := Lib.hid r1
        have HY := Lib.hid (And.intro r2 (And.intro r3 (And.intro r4 r5)))
        clear r1 r2 r3 r4 r5 hn1
        have s1 := HS1.out
        clear hr hW1 k1 B1 hp hn hl
        go_enter Tryd.func21, Tryd.ntmps21
        go_wp2_with (first
          | (rw [HW.out])
          | (go_at_call 42; ((with_reducible refine PR.out.mono ?_); rintro e w' ⟨rfl, rfl⟩))
          | (at_builtin; refine wpList_app rfl (.tmp 28) (.tmp 30) rfl _ _ rfl rfl _ _ HX.out ?_))
        go_ret2
        refine ⟨A, _, cc, ?_, ?_, HY.out.2.1, HY.out.2.2.1, HY.out.2.2.2⟩
        · rw [HE.out.1]; rfl
        · rw [HE.out.2]; exact HY.out.1
  · have hp : prB p = false := by simpa using hp
    rw [hp] at PR
    have HE : Hid (btE p l.length = 30 ∧ btL p l = []) := by
      have : btE p l.length = 30 := by unfold btE; rw [hp, if_pos rfl]
      exact ⟨this, by unfold btL; rw [this]; rfl⟩
    have HB := Lib.hid B1
    clear hW1 k1 B1 hr hp hl
    go_enter Tryd.func21, Tryd.ntmps21
    go_wp2_with (first
      | (rw [HW.out])
      | (go_at_call 42; ((with_reducible refine PR.out.mono ?_); rintro e w' ⟨rfl, rfl⟩)))
    go_ret2
    refine ⟨none, 0, 0, ?_, ?_, fun _ => rfl, Nat.le_refl _, HB.out⟩
    · rw [HE.out.1]; rfl
    · rw [HE.out.2]; exact Rd.nil
end Go.Proofs.YtlpboleclehilaaDoor
