/-
  tetherref09.Unpack of four bytes and more, where it refuses.
-/
import Derived.Test.YtakenibeaodnkaaOpRUnpack
import Derived.Test.YtakenibeaodnkaaOpRPack
import Derived.RegionTactic
import Derived.ChangeAlike
namespace Go.Proofs.Ytakenibeaodnkaa
open Go.RowKit
set_option maxRecDepth 100000
set_option maxHeartbeats 4000000
set_option linter.unusedSimpArgs false
set_option linter.unusedVariables false

theorem num_one (l : List UInt8) : num l 1 = byteAt l 0 := by
  show num l 0 * 256 + byteAt l 0 = _
  show (0 : Int) * 256 + byteAt l 0 = _
  omega
theorem num_two (l : List UInt8) : num l 2 = 256 * byteAt l 0 + byteAt l 1 := by
  show (num l 1) * 256 + byteAt l 1 = _
  rw [num_one]
  omega
theorem upN_eq (l : List UInt8) : upN l = 256 * byteAt l 2 + byteAt l 3 := by
  unfold upN
  rw [num_two, byteAt_drop, byteAt_drop]
theorem runpack_refused (A : Option Addr) (n c B : Nat) (l : List UInt8) (w : World) (hr : Rd w B A n l) (hB : B ≤ w.heap.size) (hn : n ≤ 140737488351240) (hc : n ≤ c) (h4 : 4 ≤ l.length) (C I : Int) (hC : num l 1 = C) (hI : num (l.drop 1) 1 = I) (hne : upE l ≠ 0) :
    Calls Try.prog 13 #[.slice A n c] w fun e w' => UpPost w C I l (upE l) e w' := by
  have hz : ∀ W, (zeroValue 24).run Try.prog W = .ok (.agg #[.int .i64 0, .int .i64 0, .slice none 0 0]) W := fun W => by kernel_rfl
  have hl := hr.1
  obtain ⟨b, off, rfl, hbl, hcell⟩ := hr.2 (by omega)
  have hE : upE l = if upN l < 4 ∨ 16384 < upN l then 4 else if (l.length : Int) < upN l then 8 else 0 := by
    unfold upE
    rw [if_neg (by omega)]
  rw [num_one] at hC hI
  rw [byteAt_drop] at hI
  have k0 : w.cell? ⟨b, off, none⟩ = some (.int .u8 (byteAt l 0)) := hcell 0 (by omega)
  have k1 := hcell 1 (by omega)
  have k2 := hcell 2 (by omega)
  have k3 := hcell 3 (by omega)
  rw [hC] at k0
  rw [show byteAt l 1 = I from hI] at k1
  have hN := upN_eq l
  have b2 := byteAt_lo l 2
  have c2 := byteAt_hi l 2
  have b3 := byteAt_lo l 3
  have c3 := byteAt_hi l 3
  have bC : 0 ≤ C ∧ C ≤ 255 := by rw [← hC]; exact ⟨byteAt_lo _ _, byteAt_hi _ _⟩
  have bI : 0 ≤ I ∧ I ≤ 255 := by rw [← hI]; exact ⟨byteAt_lo _ _, byteAt_hi _ _⟩
  obtain ⟨p, hp⟩ : ∃ p, byteAt l 2 = p := ⟨_, rfl⟩
  obtain ⟨q, hq⟩ : ∃ q, byteAt l 3 = q := ⟨_, rfl⟩
  rw [hp] at k2 b2 c2 hN
  rw [hq] at k3 b3 c3 hN
  obtain ⟨bC1, bC2⟩ := bC
  obtain ⟨bI1, bI2⟩ := bI
  have hbs : b < w.heap.size := by omega
  have n4 : ¬ n < 4 := by omega
  have n0 : 0 < n := by omega
  have n1 : 1 < n := by omega
  have HR := Lib.hid hr
  have HL := Lib.hid hl
  have HE := Lib.hid hE
  have HN := Lib.hid hN
  clear hcell hC hI hp hq hr hl hE hN h4
  have fin : ∀ w5 E, E ≠ 0 → Below w.heap.size w w5 → UpPost w C I l E (.returned (.tuple #[.agg #[.int .i64 0, .int .i64 0, .slice none 0 0], .int .i64 E])) w5 :=
    fun w5 E hE hb => ⟨_, rfl, hb, fun _ => rfl, fun h => absurd h hE⟩
  have FIN := Lib.hid fin
  have HB1 : Hid (Below w.heap.size w (w.alloc (.cells #[.int .i64 0, .int .i64 0, .slice none 0 0] 24))) := (Below.refl _ _).alloc (Nat.le_refl _) _
  clear fin
  by_cases hbad : 256 * p + q < 4 ∨ 16384 < 256 * p + q
  · have e4 : Hid (upE l = 4) := by
      show _ = _
      rw [HE.out, HN.out, if_pos hbad]
    have tb : 256 * p + q < 4 ∨ (¬ 256 * p + q < 4 ∧ 16384 < 256 * p + q) := by omega
    clear hbad
    rcases tb with t1 | ⟨t1, t2⟩
    all_goals
      go_enter Try.func13, Try.ntmps13
      go_wp2
      go_quiet (fail)
      go_wp2
      refine bodyPost_ret (v := .tuple #[.agg #[.int .i64 0, .int .i64 0, .slice none 0 0], .int .i64 4]) (by simp [results, Try.results13, go_sem]) rfl ?_
      rw [e4.out]
      exact FIN.out _ 4 (by omega) ((((below_drewN HB1.out _).setCell (Nat.le_refl _) _).setCell (Nat.le_refl _) _).setCell (Nat.le_refl _) _)
  · have t1 : ¬ 256 * p + q < 4 := by omega
    have t2 : ¬ 16384 < 256 * p + q := by omega
    by_cases hcut : (n : Int) < 256 * p + q
    · have e8 : Hid (upE l = 8) := by
        show _ = _
        rw [HE.out, HN.out, if_neg hbad, HL.out, if_pos hcut]
      clear hbad
      go_enter Try.func13, Try.ntmps13
      go_wp2
      go_quiet (fail)
      go_wp2
      refine bodyPost_ret (v := .tuple #[.agg #[.int .i64 0, .int .i64 0, .slice none 0 0], .int .i64 8]) (by simp [results, Try.results13, go_sem]) rfl ?_
      rw [e8.out]
      exact FIN.out _ 8 (by omega) ((((below_drewN HB1.out _).setCell (Nat.le_refl _) _).setCell (Nat.le_refl _) _).setCell (Nat.le_refl _) _)
    · have e0 : Hid (upE l = 0) := by
        show _ = _
        rw [HE.out, HN.out, if_neg hbad, HL.out, if_neg hcut]
      exact absurd e0.out hne
end Go.Proofs.Ytakenibeaodnkaa
