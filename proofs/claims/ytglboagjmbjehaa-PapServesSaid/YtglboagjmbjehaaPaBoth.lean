/-
  pap: Request and Answer of anything, the program's and the reference's.
-/
import Derived.Test.YtglboagjmbjehaaPaRMake
namespace Go.Proofs.Ytglboagjmbjehaa
open Go.RowKit Go.Shelf
set_option maxRecDepth 100000
set_option maxHeartbeats 4000000
set_option linter.unusedSimpArgs false
set_option linter.unusedVariables false

theorem request_any (id : Int) (a b : ByteArray) (w : World) (ha : a.size ≤ maxLen) (hb : b.size ≤ maxLen) :
    Calls Try.prog 35 #[.int .i64 id, .string a, .string b] w (PktZ w 1 id (jnL [a, b]) (reqE id a b)) := by
  have ID := Lib.hid (fun W => idRight_any id W)
  unfold maxLen at ha hb
  cases hi : idB id
  · have he : reqE id a b = 1 := by unfold reqE; rw [hi]; rfl
    have F : Hid (PktZ w 1 id (jnL [a, b]) (reqE id a b) (.returned (.tuple #[.agg #[.int .i64 0, .int .i64 0, .slice none 0 0], .int .i64 1])) (w.alloc (.cells #[.int .i64 0, .int .i64 0, .slice none 0 0] 38))) := by
      show PktZ _ _ _ _ _ _ _
      rw [he]
      exact pktZ_no (by omega) ((Below.refl _ _).alloc (Nat.le_refl _) _)
    rw [hi] at ID
    clear he hi
    go_enter Try.func35, Try.ntmps35
    go_wp2_with (go_at_call 48; ((with_reducible refine (ID.out _).mono ?_); rintro e w' ⟨rfl, rfl⟩))
    exact bodyPost_ret (v := .tuple #[.agg #[.int .i64 0, .int .i64 0, .slice none 0 0], .int .i64 1]) (by simp [results, Try.results35, go_sem]) rfl F.out
  · by_cases hs : 255 < a.size ∨ 255 < b.size
    · have he : reqE id a b = 4 := by unfold reqE; rw [hi, if_neg (by simp), if_pos hs]
      have F : Hid (PktZ w 1 id (jnL [a, b]) (reqE id a b) (.returned (.tuple #[.agg #[.int .i64 0, .int .i64 0, .slice none 0 0], .int .i64 4])) (w.alloc (.cells #[.int .i64 0, .int .i64 0, .slice none 0 0] 38))) := by
        show PktZ _ _ _ _ _ _ _
        rw [he]
        exact pktZ_no (by omega) ((Below.refl _ _).alloc (Nat.le_refl _) _)
      rw [hi] at ID
      clear he hi
      by_cases h1 : 255 < a.size
      · have s1 : (255 : Int) < (a.size : Int) := by omega
        clear hs h1
        go_enter Try.func35, Try.ntmps35
        go_wp2_with (go_at_call 48; ((with_reducible refine (ID.out _).mono ?_); rintro e w' ⟨rfl, rfl⟩))
        exact bodyPost_ret (v := .tuple #[.agg #[.int .i64 0, .int .i64 0, .slice none 0 0], .int .i64 4]) (by simp [results, Try.results35, go_sem]) rfl F.out
      · have s1 : ¬ (255 : Int) < (a.size : Int) := by omega
        have s2 : (255 : Int) < (b.size : Int) := by omega
        clear hs h1
        go_enter Try.func35, Try.ntmps35
        go_wp2_with (go_at_call 48; ((with_reducible refine (ID.out _).mono ?_); rintro e w' ⟨rfl, rfl⟩))
        exact bodyPost_ret (v := .tuple #[.agg #[.int .i64 0, .int .i64 0, .slice none 0 0], .int .i64 4]) (by simp [results, Try.results35, go_sem]) rfl F.out
    · have he : reqE id a b = 0 := by unfold reqE; rw [hi, if_neg (by simp), if_neg hs]
      rw [he]
      have hid : 0 ≤ id ∧ id ≤ 255 := by simpa [idB] using hi
      exact request_yes id a b w hid.1 hid.2 (by omega) (by omega)
theorem rrequest_any (id : Int) (a b : ByteArray) (w : World) (ha : a.size ≤ maxLen) (hb : b.size ≤ maxLen) :
    Calls Try.prog 40 #[.int .i64 id, .string a, .string b] w (PktZ w 1 id (jnL [a, b]) (reqE id a b)) := by
  have ID := Lib.hid (fun W => number_any id W)
  unfold maxLen at ha hb
  cases hi : idB id
  · have he : reqE id a b = 1 := by unfold reqE; rw [hi]; rfl
    have F : Hid (PktZ w 1 id (jnL [a, b]) (reqE id a b) (.returned (.tuple #[.agg #[.int .i64 0, .int .i64 0, .slice none 0 0], .int .i64 1])) (w.alloc (.cells #[.int .i64 0, .int .i64 0, .slice none 0 0] 38))) := by
      show PktZ _ _ _ _ _ _ _
      rw [he]
      exact pktZ_no (by omega) ((Below.refl _ _).alloc (Nat.le_refl _) _)
    rw [hi] at ID
    clear he hi
    go_enter Try.func40, Try.ntmps40
    go_wp2_with (go_at_call 56; ((with_reducible refine (ID.out _).mono ?_); rintro e w' ⟨rfl, rfl⟩))
    exact bodyPost_ret (v := .tuple #[.agg #[.int .i64 0, .int .i64 0, .slice none 0 0], .int .i64 1]) (by simp [results, Try.results40, go_sem]) rfl F.out
  · by_cases hs : 255 < a.size ∨ 255 < b.size
    · have he : reqE id a b = 4 := by unfold reqE; rw [hi, if_neg (by simp), if_pos hs]
      have F : Hid (PktZ w 1 id (jnL [a, b]) (reqE id a b) (.returned (.tuple #[.agg #[.int .i64 0, .int .i64 0, .slice none 0 0], .int .i64 4])) (w.alloc (.cells #[.int .i64 0, .int .i64 0, .slice none 0 0] 38))) := by
        show PktZ _ _ _ _ _ _ _
        rw [he]
        exact pktZ_no (by omega) ((Below.refl _ _).alloc (Nat.le_refl _) _)
      rw [hi] at ID
      clear he hi
      by_cases h1 : 255 < a.size
      · have s1 : (255 : Int) < (a.size : Int) := by omega
        clear hs h1
        go_enter Try.func40, Try.ntmps40
        go_wp2_with (go_at_call 56; ((with_reducible refine (ID.out _).mono ?_); rintro e w' ⟨rfl, rfl⟩))
        exact bodyPost_ret (v := .tuple #[.agg #[.int .i64 0, .int .i64 0, .slice none 0 0], .int .i64 4]) (by simp [results, Try.results40, go_sem]) rfl F.out
      · have s1 : ¬ (255 : Int) < (a.size : Int) := by omega
        have s2 : (255 : Int) < (b.size : Int) := by omega
        clear hs h1
        go_enter Try.func40, Try.ntmps40
        go_wp2_with (go_at_call 56; ((with_reducible refine (ID.out _).mono ?_); rintro e w' ⟨rfl, rfl⟩))
        exact bodyPost_ret (v := .tuple #[.agg #[.int .i64 0, .int .i64 0, .slice none 0 0], .int .i64 4]) (by simp [results, Try.results40, go_sem]) rfl F.out
    · have he : reqE id a b = 0 := by unfold reqE; rw [hi, if_neg (by simp), if_neg hs]
      rw [he]
      show Calls _ _ _ _ (PktR w 1 id (jnL [a, b]) 0)
      have hid : 0 ≤ id ∧ id ≤ 255 := by simpa [idB] using hi
      obtain ⟨V1, hV1⟩ : ∃ V, w.alloc (.cells #[.int .i64 0, .int .i64 0, .slice none 0 0] 38) = V := ⟨_, rfl⟩
      have hB1 : Below w.heap.size w V1 := by rw [← hV1]; exact (Below.refl _ _).alloc (Nat.le_refl _) _
      have hn1 : Blk V1 w.heap.size 38 [.int .i64 0, .int .i64 0, .slice none 0 0] := by rw [← hV1]; exact heap_alloc_new w _
      have z1 : V1.heap.size = w.heap.size + 1 := by rw [← hV1]; simp
      have C : Hid (Calls Try.prog 59 #[.slice none 0 0, .string a] V1 fun e w2 => ∃ D k d, e = .returned (.slice D k d) ∧
          Calls Try.prog 59 #[.slice D k d, .string b] w2 fun e w3 => ∃ D k d, e = .returned (.slice D k d) ∧ w.heap.size < w3.heap.size ∧ Blk w3 w.heap.size 38 [.int .i64 0, .int .i64 0, .slice none 0 0] ∧
            ∀ W', w3.grownBy W' (some w.heap.size) → PktR w 1 id (jnL [a, b]) 0 (.returned (.tuple #[.agg #[.int .i64 1, .int .i64 id, .slice D k d], .int .i64 0])) W') := by
        refine (part_any V1 V1 (.slice none 0 0) [] a (Own.nil _ _) (Below.refl _ _) (by omega) (by simp)).mono ?_
        rintro e w2 ⟨D2, k2, d2, rfl, o2, b2⟩
        refine ⟨D2, k2, d2, rfl, (part_any V1 w2 _ _ b o2 b2 (by omega) (by simp [ptL]; omega)).mono ?_⟩
        rintro e w3 ⟨D, k, d, rfl, ho, hb3⟩
        have z3 := hb3.size
        refine ⟨D, k, d, rfl, by omega, (hb3.block _ (by omega)).trans hn1, fun W' g => ⟨(hB1.trans (hb3.mono (by omega))).grown g (by omega) (fun q e => by cases e; exact Nat.le_refl _), D, k, d, rfl, ?_⟩⟩
        have hne : (Value.slice D k d).ownBlock = none ∨ (Value.slice D k d).ownBlock ≠ some w.heap.size := by
          rcases ho.form with ⟨e, _⟩ | ⟨g', cap, e, h2, _⟩
          · rw [e]; exact .inl rfl
          · rw [e]; refine .inr fun e2 => ?_
            simp [Value.ownBlock] at e2; omega
        have h4 := ho.grown g hne
        have hj : [] ++ ptL a ++ ptL b = jnL [a, b] := by simp [jnL]
        rw [hj] at h4
        refine ⟨h4.1, ?_⟩
        rcases h4.2 with h | ⟨g', cap, cur, e1, e2, e3⟩
        · exact .inl h
        · exact .inr ⟨g', cap, cur, e1, by omega, e3⟩
      have HV1 := Lib.hid hV1
      have s1 : ¬ (255 : Int) < (a.size : Int) := by omega
      have s2 : ¬ (255 : Int) < (b.size : Int) := by omega
      rw [hi] at ID
      clear hn1 hB1 hV1 hi he hs
      go_enter Try.func40, Try.ntmps40
      go_wp2_with (first
        | (rw [HV1.out])
        | (go_at_call 56; ((with_reducible refine (ID.out _).mono ?_); rintro e w' ⟨rfl, rfl⟩))
        | (go_at_call 59; ((with_reducible refine C.out.mono ?_); rintro e w2 ⟨D2, k2, d2, rfl, n2⟩; have C2 := Lib.hid n2; clear n2))
        | (go_at_call 59; ((with_reducible refine C2.out.mono ?_); rintro e w3 ⟨D, k, d, rfl, z3, b2, c9⟩; have r0 := b2.cell 0; have r1 := b2.cell 1; have r2 := b2.cell 2; have g0 := b2.frozen 0; have g1 := b2.frozen 1; have g2 := b2.frozen 2; have C9 := Lib.hid c9; have B2 := Lib.hid b2; clear c9 b2)))
      have hb4 := blk3 (x := .int .i64 1) (y := .int .i64 id) (z := .slice D k d) B2.out
      have y0 := hb4.cell 0
      have y1 := hb4.cell 1
      have y2 := hb4.cell 2
      exact bodyPost_ret (v := .tuple #[.agg #[.int .i64 1, .int .i64 id, .slice D k d], .int .i64 0]) (by simp [results, Try.results40, go_sem, y0, y1, y2]) rfl (C9.out _ (gset3 _ _ _ _ _))
end Go.Proofs.Ytglboagjmbjehaa
