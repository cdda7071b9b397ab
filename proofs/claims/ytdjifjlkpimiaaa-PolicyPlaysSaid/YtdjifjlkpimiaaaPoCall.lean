/-
  A law's call of a policy, and PolicyNil.
-/
import Derived.Test.YtdjifjlkpimiaaaPoAw
namespace Go.Proofs.Ytdjifjlkpimiaaa
open Go.RowKit
set_option maxRecDepth 100000
set_option maxHeartbeats 4000000
set_option linter.unusedSimpArgs false
set_option linter.unusedVariables false

/-- a law's kind of a call as what it does -/
def kdO (k : Int) (m : Bool) : Int := if k = 1 then pkK m else if k = 0 ∨ k = 2 ∨ k = 3 ∨ k = 4 ∨ k = 5 then k else 9
theorem call_nil  (k b t : Int) (m : Bool) (w : World)  :
    Calls Try.prog 11 #[.pointer none, .agg #[.int .i64 k, .int .i64 b, .bool m], .int .i64 t] w fun e w' => e = .returned (.tuple #[.slice none 0 0, .int .i64 2]) ∧ Below w.heap.size w w' := by
  have hk : k = 0 ∨ k = 1 ∨ k = 2 ∨ k = 3 ∨ k = 4 ∨ k = 5 ∨ (k ≠ 0 ∧ k ≠ 1 ∧ k ≠ 2 ∧ k ≠ 3 ∧ k ≠ 4 ∧ k ≠ 5) := by omega
  rcases hk with rfl | rfl | rfl | rfl | rfl | rfl | ⟨n0, n1, n2, n3, n4, n5⟩
  · have HC : Hid (Calls Try.prog 26 #[.pointer none, .int .i64 t] (w.alloc (.cells #[.int .i64 0, .int .i64 b, .bool m] 36)) fun e w2 => e = .returned (.tuple #[.slice none 0 0, .int .i64 2]) ∧ Hid (Below w.heap.size w w2)) := (poMStart_nil t _).mono fun e w2 h => ⟨h.1, by rw [← h.2]; exact (Below.refl _ _).alloc (Nat.le_refl _) _⟩
    go_enter Try.func11, Try.ntmps11
    go_wp2_with (go_at_call 26; ((with_reducible refine HC.out.mono ?_); rintro e w2 ⟨rfl, B2⟩))
    go_ret2
    exact ⟨rfl, B2.out⟩
  · have HC : Hid (Calls Try.prog 23 #[.pointer none, .int .i64 t, .bool m] (w.alloc (.cells #[.int .i64 1, .int .i64 b, .bool m] 36)) fun e w2 => e = .returned (.tuple #[.slice none 0 0, .int .i64 2]) ∧ Hid (Below w.heap.size w w2)) := (poMPacket_nil t m _).mono fun e w2 h => ⟨h.1, bto ((Below.refl _ _).alloc (Nat.le_refl _) _) h.2⟩
    go_enter Try.func11, Try.ntmps11
    go_wp2_with (go_at_call 23; ((with_reducible refine HC.out.mono ?_); rintro e w2 ⟨rfl, B2⟩))
    go_ret2
    exact ⟨rfl, B2.out⟩
  · have HC : Hid (Calls Try.prog 27 #[.pointer none, .int .i64 t] (w.alloc (.cells #[.int .i64 2, .int .i64 b, .bool m] 36)) fun e w2 => e = .returned (.tuple #[.slice none 0 0, .int .i64 2]) ∧ Hid (Below w.heap.size w w2)) := (poMUp_nil t _).mono fun e w2 h => ⟨h.1, by rw [← h.2]; exact (Below.refl _ _).alloc (Nat.le_refl _) _⟩
    go_enter Try.func11, Try.ntmps11
    go_wp2_with (go_at_call 27; ((with_reducible refine HC.out.mono ?_); rintro e w2 ⟨rfl, B2⟩))
    go_ret2
    exact ⟨rfl, B2.out⟩
  · have HC : Hid (Calls Try.prog 28 #[.pointer none, .int .i64 t] (w.alloc (.cells #[.int .i64 3, .int .i64 b, .bool m] 36)) fun e w2 => e = .returned (.tuple #[.slice none 0 0, .int .i64 2]) ∧ Hid (Below w.heap.size w w2)) := (poMDown_nil t _).mono fun e w2 h => ⟨h.1, by rw [← h.2]; exact (Below.refl _ _).alloc (Nat.le_refl _) _⟩
    go_enter Try.func11, Try.ntmps11
    go_wp2_with (go_at_call 28; ((with_reducible refine HC.out.mono ?_); rintro e w2 ⟨rfl, B2⟩))
    go_ret2
    exact ⟨rfl, B2.out⟩
  · have HC : Hid (Calls Try.prog 24 #[.pointer none, .int .i64 t] (w.alloc (.cells #[.int .i64 4, .int .i64 b, .bool m] 36)) fun e w2 => e = .returned (.tuple #[.slice none 0 0, .int .i64 2]) ∧ Hid (Below w.heap.size w w2)) := (poMLinkUp_nil t _).mono fun e w2 h => ⟨h.1, by rw [← h.2]; exact (Below.refl _ _).alloc (Nat.le_refl _) _⟩
    go_enter Try.func11, Try.ntmps11
    go_wp2_with (go_at_call 24; ((with_reducible refine HC.out.mono ?_); rintro e w2 ⟨rfl, B2⟩))
    go_ret2
    exact ⟨rfl, B2.out⟩
  · have HC : Hid (Calls Try.prog 25 #[.pointer none, .int .i64 t] (w.alloc (.cells #[.int .i64 5, .int .i64 b, .bool m] 36)) fun e w2 => e = .returned (.tuple #[.slice none 0 0, .int .i64 2]) ∧ Hid (Below w.heap.size w w2)) := (poMLinkDown_nil t _).mono fun e w2 h => ⟨h.1, by rw [← h.2]; exact (Below.refl _ _).alloc (Nat.le_refl _) _⟩
    go_enter Try.func11, Try.ntmps11
    go_wp2_with (go_at_call 25; ((with_reducible refine HC.out.mono ?_); rintro e w2 ⟨rfl, B2⟩))
    go_ret2
    exact ⟨rfl, B2.out⟩
  · have t0 : (k == 0) = false := by simp; omega
    have t1 : (k == 1) = false := by simp; omega
    have t2 : (k == 2) = false := by simp; omega
    have t3 : (k == 3) = false := by simp; omega
    have t4 : (k == 4) = false := by simp; omega
    have t5 : (k == 5) = false := by simp; omega
    have ek : kdO k m = 9 := by unfold kdO; rw [if_neg n1, if_neg (by omega)]
    have HC : Hid (Calls Try.prog 19 #[.pointer none, .int .i64 t] (w.alloc (.cells #[.int .i64 k, .int .i64 b, .bool m] 36)) fun e w2 => e = .returned (.tuple #[.slice none 0 0, .int .i64 2]) ∧ Hid (Below w.heap.size w w2)) := (poMTick_nil t _).mono fun e w2 h => ⟨h.1, by rw [← h.2]; exact (Below.refl _ _).alloc (Nat.le_refl _) _⟩
    clear n0 n1 n2 n3 n4 n5 ek
    go_enter Try.func11, Try.ntmps11
    go_wp2_with (go_at_call 19; ((with_reducible refine HC.out.mono ?_); rintro e w2 ⟨rfl, B2⟩))
    go_ret2
    exact ⟨rfl, B2.out⟩
theorem call_bad (g : Nat) (x : PoS) (k b t : Int) (m : Bool) (w : World) (hx : PoB w g x) (hb : poBad t x = true) :
    Calls Try.prog 11 #[.pointer (some ⟨g, 0, none⟩), .agg #[.int .i64 k, .int .i64 b, .bool m], .int .i64 t] w fun e w' => e = .returned (.tuple #[.slice none 0 0, .int .i64 1]) ∧ Below w.heap.size w w' := by
  have HX := Lib.hid hx
  have HB := Lib.hid hb
  clear hx hb
  have hk : k = 0 ∨ k = 1 ∨ k = 2 ∨ k = 3 ∨ k = 4 ∨ k = 5 ∨ (k ≠ 0 ∧ k ≠ 1 ∧ k ≠ 2 ∧ k ≠ 3 ∧ k ≠ 4 ∧ k ≠ 5) := by omega
  rcases hk with rfl | rfl | rfl | rfl | rfl | rfl | ⟨n0, n1, n2, n3, n4, n5⟩
  · have HC : Hid (Calls Try.prog 26 #[.pointer (some ⟨g, 0, none⟩), .int .i64 t] (w.alloc (.cells #[.int .i64 0, .int .i64 b, .bool m] 36)) fun e w2 => e = .returned (.tuple #[.slice none 0 0, .int .i64 1]) ∧ Hid (Below w.heap.size w w2)) := (poMStart_bad g x t _ (HX.out.alloc _) HB.out).mono fun e w2 h => ⟨h.1, by rw [← h.2]; exact (Below.refl _ _).alloc (Nat.le_refl _) _⟩
    go_enter Try.func11, Try.ntmps11
    go_wp2_with (go_at_call 26; ((with_reducible refine HC.out.mono ?_); rintro e w2 ⟨rfl, B2⟩))
    go_ret2
    exact ⟨rfl, B2.out⟩
  · have HC : Hid (Calls Try.prog 23 #[.pointer (some ⟨g, 0, none⟩), .int .i64 t, .bool m] (w.alloc (.cells #[.int .i64 1, .int .i64 b, .bool m] 36)) fun e w2 => e = .returned (.tuple #[.slice none 0 0, .int .i64 1]) ∧ Hid (Below w.heap.size w w2)) := (poMPacket_bad g x t m _ (HX.out.alloc _) HB.out).mono fun e w2 h => ⟨h.1, bto ((Below.refl _ _).alloc (Nat.le_refl _) _) h.2⟩
    go_enter Try.func11, Try.ntmps11
    go_wp2_with (go_at_call 23; ((with_reducible refine HC.out.mono ?_); rintro e w2 ⟨rfl, B2⟩))
    go_ret2
    exact ⟨rfl, B2.out⟩
  · have HC : Hid (Calls Try.prog 27 #[.pointer (some ⟨g, 0, none⟩), .int .i64 t] (w.alloc (.cells #[.int .i64 2, .int .i64 b, .bool m] 36)) fun e w2 => e = .returned (.tuple #[.slice none 0 0, .int .i64 1]) ∧ Hid (Below w.heap.size w w2)) := (poMUp_bad g x t _ (HX.out.alloc _) HB.out).mono fun e w2 h => ⟨h.1, by rw [← h.2]; exact (Below.refl _ _).alloc (Nat.le_refl _) _⟩
    go_enter Try.func11, Try.ntmps11
    go_wp2_with (go_at_call 27; ((with_reducible refine HC.out.mono ?_); rintro e w2 ⟨rfl, B2⟩))
    go_ret2
    exact ⟨rfl, B2.out⟩
  · have HC : Hid (Calls Try.prog 28 #[.pointer (some ⟨g, 0, none⟩), .int .i64 t] (w.alloc (.cells #[.int .i64 3, .int .i64 b, .bool m] 36)) fun e w2 => e = .returned (.tuple #[.slice none 0 0, .int .i64 1]) ∧ Hid (Below w.heap.size w w2)) := (poMDown_bad g x t _ (HX.out.alloc _) HB.out).mono fun e w2 h => ⟨h.1, by rw [← h.2]; exact (Below.refl _ _).alloc (Nat.le_refl _) _⟩
    go_enter Try.func11, Try.ntmps11
    go_wp2_with (go_at_call 28; ((with_reducible refine HC.out.mono ?_); rintro e w2 ⟨rfl, B2⟩))
    go_ret2
    exact ⟨rfl, B2.out⟩
  · have HC : Hid (Calls Try.prog 24 #[.pointer (some ⟨g, 0, none⟩), .int .i64 t] (w.alloc (.cells #[.int .i64 4, .int .i64 b, .bool m] 36)) fun e w2 => e = .returned (.tuple #[.slice none 0 0, .int .i64 1]) ∧ Hid (Below w.heap.size w w2)) := (poMLinkUp_bad g x t _ (HX.out.alloc _) HB.out).mono fun e w2 h => ⟨h.1, by rw [← h.2]; exact (Below.refl _ _).alloc (Nat.le_refl _) _⟩
    go_enter Try.func11, Try.ntmps11
    go_wp2_with (go_at_call 24; ((with_reducible refine HC.out.mono ?_); rintro e w2 ⟨rfl, B2⟩))
    go_ret2
    exact ⟨rfl, B2.out⟩
  · have HC : Hid (Calls Try.prog 25 #[.pointer (some ⟨g, 0, none⟩), .int .i64 t] (w.alloc (.cells #[.int .i64 5, .int .i64 b, .bool m] 36)) fun e w2 => e = .returned (.tuple #[.slice none 0 0, .int .i64 1]) ∧ Hid (Below w.heap.size w w2)) := (poMLinkDown_bad g x t _ (HX.out.alloc _) HB.out).mono fun e w2 h => ⟨h.1, by rw [← h.2]; exact (Below.refl _ _).alloc (Nat.le_refl _) _⟩
    go_enter Try.func11, Try.ntmps11
    go_wp2_with (go_at_call 25; ((with_reducible refine HC.out.mono ?_); rintro e w2 ⟨rfl, B2⟩))
    go_ret2
    exact ⟨rfl, B2.out⟩
  · have t0 : (k == 0) = false := by simp; omega
    have t1 : (k == 1) = false := by simp; omega
    have t2 : (k == 2) = false := by simp; omega
    have t3 : (k == 3) = false := by simp; omega
    have t4 : (k == 4) = false := by simp; omega
    have t5 : (k == 5) = false := by simp; omega
    have ek : kdO k m = 9 := by unfold kdO; rw [if_neg n1, if_neg (by omega)]
    have HC : Hid (Calls Try.prog 19 #[.pointer (some ⟨g, 0, none⟩), .int .i64 t] (w.alloc (.cells #[.int .i64 k, .int .i64 b, .bool m] 36)) fun e w2 => e = .returned (.tuple #[.slice none 0 0, .int .i64 1]) ∧ Hid (Below w.heap.size w w2)) := (poMTick_bad g x t _ (HX.out.alloc _) HB.out).mono fun e w2 h => ⟨h.1, by rw [← h.2]; exact (Below.refl _ _).alloc (Nat.le_refl _) _⟩
    clear n0 n1 n2 n3 n4 n5 ek
    go_enter Try.func11, Try.ntmps11
    go_wp2_with (go_at_call 19; ((with_reducible refine HC.out.mono ?_); rintro e w2 ⟨rfl, B2⟩))
    go_ret2
    exact ⟨rfl, B2.out⟩
theorem call_any (g : Nat) (x : PoS) (k b t : Int) (m : Bool) (w : World) (hx : PoB w g x) (ho : PoOk x) (hb : poBad t x = false) :
    Calls Try.prog 11 #[.pointer (some ⟨g, 0, none⟩), .agg #[.int .i64 k, .int .i64 b, .bool m], .int .i64 t] w (PoC w g (poStep (kdO k m) t x) (poStepL (kdO k m) t x)) := by
  have HX := Lib.hid hx
  have HO := Lib.hid ho
  have HB := Lib.hid hb
  clear hx ho hb
  have hk : k = 0 ∨ k = 1 ∨ k = 2 ∨ k = 3 ∨ k = 4 ∨ k = 5 ∨ (k ≠ 0 ∧ k ≠ 1 ∧ k ≠ 2 ∧ k ≠ 3 ∧ k ≠ 4 ∧ k ≠ 5) := by omega
  rcases hk with rfl | rfl | rfl | rfl | rfl | rfl | ⟨n0, n1, n2, n3, n4, n5⟩
  · have HC : Hid (Calls Try.prog 26 #[.pointer (some ⟨g, 0, none⟩), .int .i64 t] (w.alloc (.cells #[.int .i64 0, .int .i64 b, .bool m] 36)) fun e w2 => ∃ v, e = .returned (.tuple #[v, .int .i64 0]) ∧ Hid (OwnI w2 w.heap.size v (poStepL (kdO 0 m) t x) ∧ PoB w2 g (poStep (kdO 0 m) t x) ∧ w.grownBy w2 (some g))) := by
      show Calls _ _ _ _ fun e w2 => ∃ v, e = .returned (.tuple #[v, .int .i64 0]) ∧ (OwnI w2 w.heap.size v (poStepL (kdO 0 m) t x) ∧ PoB w2 g (poStep (kdO 0 m) t x) ∧ w.grownBy w2 (some g))
      exact (poMStart_any g x t _ (HX.out.alloc _) HO.out HB.out).mono fun e w2 h => h.from (galloc' (World.grownBy.refl _ _) _)
    go_enter Try.func11, Try.ntmps11
    go_wp2_with (go_at_call 26; ((with_reducible refine HC.out.mono ?_); rintro e w2 ⟨v, rfl, H2⟩))
    go_ret2
    exact ⟨v, rfl, H2.out⟩
  · have HC : Hid (Calls Try.prog 23 #[.pointer (some ⟨g, 0, none⟩), .int .i64 t, .bool m] (w.alloc (.cells #[.int .i64 1, .int .i64 b, .bool m] 36)) fun e w2 => ∃ v, e = .returned (.tuple #[v, .int .i64 0]) ∧ Hid (OwnI w2 w.heap.size v (poStepL (kdO 1 m) t x) ∧ PoB w2 g (poStep (kdO 1 m) t x) ∧ w.grownBy w2 (some g))) := by
      show Calls _ _ _ _ fun e w2 => ∃ v, e = .returned (.tuple #[v, .int .i64 0]) ∧ (OwnI w2 w.heap.size v (poStepL (kdO 1 m) t x) ∧ PoB w2 g (poStep (kdO 1 m) t x) ∧ w.grownBy w2 (some g))
      exact (poMPacket_any g x t m _ (HX.out.alloc _) HO.out HB.out).mono fun e w2 h => h.from (galloc' (World.grownBy.refl _ _) _)
    go_enter Try.func11, Try.ntmps11
    go_wp2_with (go_at_call 23; ((with_reducible refine HC.out.mono ?_); rintro e w2 ⟨v, rfl, H2⟩))
    go_ret2
    exact ⟨v, rfl, H2.out⟩
  · have HC : Hid (Calls Try.prog 27 #[.pointer (some ⟨g, 0, none⟩), .int .i64 t] (w.alloc (.cells #[.int .i64 2, .int .i64 b, .bool m] 36)) fun e w2 => ∃ v, e = .returned (.tuple #[v, .int .i64 0]) ∧ Hid (OwnI w2 w.heap.size v (poStepL (kdO 2 m) t x) ∧ PoB w2 g (poStep (kdO 2 m) t x) ∧ w.grownBy w2 (some g))) := by
      show Calls _ _ _ _ fun e w2 => ∃ v, e = .returned (.tuple #[v, .int .i64 0]) ∧ (OwnI w2 w.heap.size v (poStepL (kdO 2 m) t x) ∧ PoB w2 g (poStep (kdO 2 m) t x) ∧ w.grownBy w2 (some g))
      exact (poMUp_any g x t _ (HX.out.alloc _) HO.out HB.out).mono fun e w2 h => h.from (galloc' (World.grownBy.refl _ _) _)
    go_enter Try.func11, Try.ntmps11
    go_wp2_with (go_at_call 27; ((with_reducible refine HC.out.mono ?_); rintro e w2 ⟨v, rfl, H2⟩))
    go_ret2
    exact ⟨v, rfl, H2.out⟩
  · have HC : Hid (Calls Try.prog 28 #[.pointer (some ⟨g, 0, none⟩), .int .i64 t] (w.alloc (.cells #[.int .i64 3, .int .i64 b, .bool m] 36)) fun e w2 => ∃ v, e = .returned (.tuple #[v, .int .i64 0]) ∧ Hid (OwnI w2 w.heap.size v (poStepL (kdO 3 m) t x) ∧ PoB w2 g (poStep (kdO 3 m) t x) ∧ w.grownBy w2 (some g))) := by
      show Calls _ _ _ _ fun e w2 => ∃ v, e = .returned (.tuple #[v, .int .i64 0]) ∧ (OwnI w2 w.heap.size v (poStepL (kdO 3 m) t x) ∧ PoB w2 g (poStep (kdO 3 m) t x) ∧ w.grownBy w2 (some g))
      exact (poMDown_any g x t _ (HX.out.alloc _) HO.out HB.out).mono fun e w2 h => h.from (galloc' (World.grownBy.refl _ _) _)
    go_enter Try.func11, Try.ntmps11
    go_wp2_with (go_at_call 28; ((with_reducible refine HC.out.mono ?_); rintro e w2 ⟨v, rfl, H2⟩))
    go_ret2
    exact ⟨v, rfl, H2.out⟩
  · have HC : Hid (Calls Try.prog 24 #[.pointer (some ⟨g, 0, none⟩), .int .i64 t] (w.alloc (.cells #[.int .i64 4, .int .i64 b, .bool m] 36)) fun e w2 => ∃ v, e = .returned (.tuple #[v, .int .i64 0]) ∧ Hid (OwnI w2 w.heap.size v (poStepL (kdO 4 m) t x) ∧ PoB w2 g (poStep (kdO 4 m) t x) ∧ w.grownBy w2 (some g))) := by
      show Calls _ _ _ _ fun e w2 => ∃ v, e = .returned (.tuple #[v, .int .i64 0]) ∧ (OwnI w2 w.heap.size v (poStepL (kdO 4 m) t x) ∧ PoB w2 g (poStep (kdO 4 m) t x) ∧ w.grownBy w2 (some g))
      exact (poMLinkUp_any g x t _ (HX.out.alloc _) HO.out HB.out).mono fun e w2 h => h.from (galloc' (World.grownBy.refl _ _) _)
    go_enter Try.func11, Try.ntmps11
    go_wp2_with (go_at_call 24; ((with_reducible refine HC.out.mono ?_); rintro e w2 ⟨v, rfl, H2⟩))
    go_ret2
    exact ⟨v, rfl, H2.out⟩
  · have HC : Hid (Calls Try.prog 25 #[.pointer (some ⟨g, 0, none⟩), .int .i64 t] (w.alloc (.cells #[.int .i64 5, .int .i64 b, .bool m] 36)) fun e w2 => ∃ v, e = .returned (.tuple #[v, .int .i64 0]) ∧ Hid (OwnI w2 w.heap.size v (poStepL (kdO 5 m) t x) ∧ PoB w2 g (poStep (kdO 5 m) t x) ∧ w.grownBy w2 (some g))) := by
      show Calls _ _ _ _ fun e w2 => ∃ v, e = .returned (.tuple #[v, .int .i64 0]) ∧ (OwnI w2 w.heap.size v (poStepL (kdO 5 m) t x) ∧ PoB w2 g (poStep (kdO 5 m) t x) ∧ w.grownBy w2 (some g))
      exact (poMLinkDown_any g x t _ (HX.out.alloc _) HO.out HB.out).mono fun e w2 h => h.from (galloc' (World.grownBy.refl _ _) _)
    go_enter Try.func11, Try.ntmps11
    go_wp2_with (go_at_call 25; ((with_reducible refine HC.out.mono ?_); rintro e w2 ⟨v, rfl, H2⟩))
    go_ret2
    exact ⟨v, rfl, H2.out⟩
  · have t0 : (k == 0) = false := by simp; omega
    have t1 : (k == 1) = false := by simp; omega
    have t2 : (k == 2) = false := by simp; omega
    have t3 : (k == 3) = false := by simp; omega
    have t4 : (k == 4) = false := by simp; omega
    have t5 : (k == 5) = false := by simp; omega
    have ek : kdO k m = 9 := by unfold kdO; rw [if_neg n1, if_neg (by omega)]
    have HC : Hid (Calls Try.prog 19 #[.pointer (some ⟨g, 0, none⟩), .int .i64 t] (w.alloc (.cells #[.int .i64 k, .int .i64 b, .bool m] 36)) fun e w2 => ∃ v, e = .returned (.tuple #[v, .int .i64 0]) ∧ Hid (OwnI w2 w.heap.size v (poStepL (kdO k m) t x) ∧ PoB w2 g (poStep (kdO k m) t x) ∧ w.grownBy w2 (some g))) := by
      show Calls _ _ _ _ fun e w2 => ∃ v, e = .returned (.tuple #[v, .int .i64 0]) ∧ (OwnI w2 w.heap.size v (poStepL (kdO k m) t x) ∧ PoB w2 g (poStep (kdO k m) t x) ∧ w.grownBy w2 (some g))
      rw [ek]; exact (poMTick_any g x t _ (HX.out.alloc _) HO.out HB.out).mono fun e w2 h => h.from (galloc' (World.grownBy.refl _ _) _)
    clear n0 n1 n2 n3 n4 n5 ek
    go_enter Try.func11, Try.ntmps11
    go_wp2_with (go_at_call 19; ((with_reducible refine HC.out.mono ?_); rintro e w2 ⟨v, rfl, H2⟩))
    go_ret2
    exact ⟨v, rfl, H2.out⟩
theorem policynil_walk (k b t : Int) (m : Bool) (w : World) : Calls Try.prog 7 #[.agg #[.int .i64 k, .int .i64 b, .bool m], .int .i64 t] w fun e w' => e = .returned (.bool true) ∧ Below w.heap.size w w' := by
  have AL : Hid (Below w.heap.size w (w.alloc (.cells #[.int .i64 k, .int .i64 b, .bool m] 36))) := (Below.refl _ _).alloc (Nat.le_refl _) _
  go_enter Try.func7, Try.ntmps7
  go_wp2_with (first | (go_at_call 11; refine (call_nil _ _ _ _ _).mono ?_; rintro e w2 ⟨rfl, h2⟩; have H2 := Lib.hid (bto AL.out h2); clear h2) | (go_at_call 18; refine (poNext_nil _).mono ?_; rintro e w' ⟨rfl, rfl⟩) | (go_at_call 16; refine (poMState_nil _).mono ?_; rintro e w' ⟨rfl, rfl⟩) | (go_at_call 20; refine (poMFailures_nil _).mono ?_; rintro e w' ⟨rfl, rfl⟩) | (go_at_call 21; refine (poMWhy_nil _).mono ?_; rintro e w' ⟨rfl, rfl⟩) | (go_at_call 10; refine (awake28 _).mono ?_; rintro e w3 ⟨rfl, h3⟩; have H3 := Lib.hid (bto H2.out h3); clear h3))
  go_ret
  exact ⟨rfl, H3.out⟩
end Go.Proofs.Ytdjifjlkpimiaaa
