/-
  tetherlaw02.FcsGood is true, whatever it is asked, and writes nothing that was there.
-/
import Derived.Test.YtamcoppfjmggcaaDoorPuts16
import Derived.Test.YtamcoppfjmggcaaDoorPuts32
import Derived.Test.YtamcoppfjmggcaaDoorSame2
namespace Go.Proofs.YtamcoppfjmggcaaDoor
open Go.RowKit
set_option maxRecDepth 100000
set_option maxHeartbeats 1000000
set_option linter.unusedSimpArgs false
set_option linter.unusedVariables false

theorem awake_behind (w : World) (h16 : Tab16 w) (h32 : Tab32 w) :
    ∀ W, Below w.heap.size w W → Calls Tryd.prog 31 #[] W fun e w' => e = .returned (.bool true) ∧ Below w.heap.size w w' := by
  intro W hB
  refine (awake_yes W (h16.kept hB) (h32.kept hB)).mono ?_
  rintro e w' ⟨rfl, hB'⟩
  exact ⟨rfl, hB.trans (hB'.mono hB.size)⟩

theorem fcsgood_walk (A : Option Addr) (n c : Nat) (l : List UInt8) (w : World) (hr : Rd w w.heap.size A n l) (hc : n ≤ c) (hn : c ≤ 140737488351232) (h16 : Tab16 w) (h32 : Tab32 w) :
    Calls Tryd.prog 9 #[.slice A n c] w fun e w' => e = .returned (.bool true) ∧ Below w.heap.size w w' := by
  have hl := hr.1
  have P16 : Hid (∀ W, Below w.heap.size w W → Calls Tryd.prog 17 #[.slice A n c] W fun e w' => ∃ g, e = .returned (.slice (some ⟨g, 0, none⟩) (n + 2) (n + 2)) ∧ Rd w' w'.heap.size (some ⟨g, 0, none⟩) (n + 2) (l ++ low16 (sum16 l)) ∧ Below W.heap.size W w') := by
    show ∀ W, _ → Calls _ _ _ W _
    intro W hB
    refine (put16_any A n c w.heap.size l W (hr.below hB) hB.size hc (by omega) (h16.kept hB)).mono ?_
    rintro e w' ⟨g, rfl, ho, hB'⟩
    have hrd := ho.rd (by rw [List.length_append, low16_length]; omega) (n + 2) (Nat.le_refl _)
    rw [List.take_of_length_le (by rw [List.length_append, low16_length]; omega)] at hrd
    exact ⟨g, rfl, hrd, hB'⟩
  have P32 : Hid (∀ W, Below w.heap.size w W → Calls Tryd.prog 18 #[.slice A n c] W fun e w' => ∃ g, e = .returned (.slice (some ⟨g, 0, none⟩) (n + 4) (n + 4)) ∧ Rd w' w'.heap.size (some ⟨g, 0, none⟩) (n + 4) (l ++ low32 (sum32 l)) ∧ Below W.heap.size W w') := by
    show ∀ W, _ → Calls _ _ _ W _
    intro W hB
    refine (put32_any A n c w.heap.size l W (hr.below hB) hB.size hc (by omega) (h32.kept hB)).mono ?_
    rintro e w' ⟨g, rfl, ho, hB'⟩
    have hrd := ho.rd (by rw [List.length_append, low32_length]; omega) (n + 4) (Nat.le_refl _)
    rw [List.take_of_length_le (by rw [List.length_append, low32_length]; omega)] at hrd
    exact ⟨g, rfl, hrd, hB'⟩
  have C16 : Hid (∀ W g, Below w.heap.size w W → Rd W W.heap.size (some ⟨g, 0, none⟩) (n + 2) (l ++ low16 (sum16 l)) → Calls Tryd.prog 32 #[.slice (some ⟨g, 0, none⟩) (n + 2) (n + 2)] W fun e w' => ∃ g, e = .returned (.tuple #[.slice (some ⟨g, 0, none⟩) n n, .int .i64 0]) ∧ Rd w' w'.heap.size (some ⟨g, 0, none⟩) n l ∧ Below W.heap.size W w') := by
    show ∀ W g, _ → _ → Calls _ _ _ W _
    intro W g hB hrd
    refine (cut16_ok _ (n + 2) (n + 2) W.heap.size _ W hrd (Nat.le_refl _) (Nat.le_refl _) (by omega) (by omega) (h16.kept hB) (good16 l)).mono ?_
    rintro e w' ⟨g', rfl, ho, hB'⟩
    have et : (l ++ low16 (sum16 l)).take (n + 2 - 2) = l := by
      rw [List.take_append_of_le_length (by omega), List.take_of_length_le (by omega)]
    rw [et] at ho
    have hrd := ho.rd (by omega) n (by omega)
    rw [List.take_of_length_le (by omega)] at hrd
    exact ⟨g', rfl, hrd, hB'⟩
  have C32 : Hid (∀ W g, Below w.heap.size w W → Rd W W.heap.size (some ⟨g, 0, none⟩) (n + 4) (l ++ low32 (sum32 l)) → Calls Tryd.prog 34 #[.slice (some ⟨g, 0, none⟩) (n + 4) (n + 4)] W fun e w' => ∃ g, e = .returned (.tuple #[.slice (some ⟨g, 0, none⟩) n n, .int .i64 0]) ∧ Rd w' w'.heap.size (some ⟨g, 0, none⟩) n l ∧ Below W.heap.size W w') := by
    show ∀ W g, _ → _ → Calls _ _ _ W _
    intro W g hB hrd
    refine (cut32_ok _ (n + 4) (n + 4) W.heap.size _ W hrd (Nat.le_refl _) (Nat.le_refl _) (by omega) (by omega) (h32.kept hB) (good32 l)).mono ?_
    rintro e w' ⟨g', rfl, ho, hB'⟩
    have et : (l ++ low32 (sum32 l)).take (n + 4 - 4) = l := by
      rw [List.take_append_of_le_length (by omega), List.take_of_length_le (by omega)]
    rw [et] at ho
    have hrd := ho.rd (by omega) n (by omega)
    rw [List.take_of_length_le (by omega)] at hrd
    exact ⟨g', rfl, hrd, hB'⟩
  have O16 : Hid (∀ W g, Below w.heap.size w W → Rd W W.heap.size (some ⟨g, 0, none⟩) (n + 2) (l ++ low16 (sum16 l)) → Calls Tryd.prog 24 #[.int .u16 65535, .slice (some ⟨g, 0, none⟩) (n + 2) (n + 2)] W fun e w' => e = .returned (.int .u16 61624) ∧ Below W.heap.size W w') := by
    show ∀ W g, _ → _ → Calls _ _ _ W _
    intro W g hB hrd
    have h := on16_any _ (n + 2) (n + 2) 65535 W.heap.size _ W hrd (Nat.le_refl _) (by unfold maxLen; omega) (by omega) (h16.kept hB)
    rw [good16 l] at h
    refine h.mono ?_
    rintro e w' ⟨rfl, k, rfl⟩
    exact ⟨rfl, below_drewN (Below.refl _ _) k⟩
  have O32 : Hid (∀ W g, Below w.heap.size w W → Rd W W.heap.size (some ⟨g, 0, none⟩) (n + 4) (l ++ low32 (sum32 l)) → Calls Tryd.prog 26 #[.int .u32 4294967295, .slice (some ⟨g, 0, none⟩) (n + 4) (n + 4)] W fun e w' => e = .returned (.int .u32 3736805603) ∧ Below W.heap.size W w') := by
    show ∀ W g, _ → _ → Calls _ _ _ W _
    intro W g hB hrd
    have h := on32_any _ (n + 4) (n + 4) 4294967295 W.heap.size _ W hrd (Nat.le_refl _) (by unfold maxLen; omega) (by omega) (h32.kept hB)
    rw [good32 l] at h
    refine h.mono ?_
    rintro e w' ⟨rfl, k, rfl⟩
    exact ⟨rfl, below_drewN (Below.refl _ _) k⟩
  have AW := Lib.hid (awake_behind w h16 h32)
  have HR := Lib.hid hr
  clear hr h16 h32 hl
  go_enter Tryd.func9, Tryd.ntmps9
  go_wp2_with fail
  refine (P16.out w (Below.refl _ _)).mono ?_
  rintro e w1 ⟨g1, rfl, h1, hB1⟩
  have R1 := Lib.hid h1
  have B1 := Lib.hid hB1
  clear h1 hB1
  go_wp2_with fail
  refine (C16.out w1 g1 B1.out R1.out).mono ?_
  rintro e w2 ⟨g2, rfl, h2, hB2⟩
  have X2 := Lib.hid h2
  have B2 := Lib.hid (B1.out.trans (hB2.mono B1.out.size))
  clear h2 hB2 R1 B1
  go_wp2_with fail
  refine (P32.out w2 B2.out).mono ?_
  rintro e w3 ⟨g3, rfl, h3, hB3⟩
  have R3 := Lib.hid h3
  have B3 := Lib.hid (B2.out.trans (hB3.mono B2.out.size))
  have X3 := Lib.hid ((X2.out.below hB3).wide hB3.size)
  clear h3 hB3 X2 B2
  go_wp2_with fail
  refine (C32.out w3 g3 B3.out R3.out).mono ?_
  rintro e w4 ⟨g4, rfl, h4, hB4⟩
  have Y4 := Lib.hid h4
  have B4 := Lib.hid (B3.out.trans (hB4.mono B3.out.size))
  have X4 := Lib.hid ((X3.out.below hB4).wide hB4.size)
  clear h4 hB4 X3 B3 R3
  go_wp2_with fail
  refine (same2_yes (some ⟨g2, 0, none⟩) A n n c w4.heap.size l w4 X4.out ((HR.out.below B4.out).wide B4.out.size)).mono ?_
  rintro e w5 ⟨rfl, rfl⟩
  go_wp2_with fail
  refine (same2_yes (some ⟨g4, 0, none⟩) A n n c w4.heap.size l w4 Y4.out ((HR.out.below B4.out).wide B4.out.size)).mono ?_
  rintro e w5 ⟨rfl, rfl⟩
  go_wp2_with fail
  refine (P16.out w4 B4.out).mono ?_
  rintro e w5 ⟨g5, rfl, h5, hB5⟩
  have R5 := Lib.hid h5
  have B5 := Lib.hid (B4.out.trans (hB5.mono B4.out.size))
  clear h5 hB5 X4 Y4 B4
  go_wp2_with fail
  refine (O16.out w5 g5 B5.out R5.out).mono ?_
  rintro e w6 ⟨rfl, hB6⟩
  have B6 := Lib.hid (B5.out.trans (hB6.mono B5.out.size))
  clear hB6 B5 R5
  go_wp2_with fail
  refine (P32.out w6 B6.out).mono ?_
  rintro e w7 ⟨g7, rfl, h7, hB7⟩
  have R7 := Lib.hid h7
  have B7 := Lib.hid (B6.out.trans (hB7.mono B6.out.size))
  clear h7 hB7 B6
  go_wp2_with fail
  refine (O32.out w7 g7 B7.out R7.out).mono ?_
  rintro e w8 ⟨rfl, hB8⟩
  have B8 := Lib.hid (B7.out.trans (hB8.mono B7.out.size))
  clear hB8 B7 R7
  go_wp2_with fail
  refine (AW.out w8 B8.out).mono ?_
  rintro e w9 ⟨rfl, hB9⟩
  have B9 := Lib.hid hB9
  clear hB9
  go_wp2
  go_ret
  exact ⟨rfl, B9.out⟩
end Go.Proofs.YtamcoppfjmggcaaDoor
