/-
  pap: Answer of anything, the program's and the reference's.
-/
import Derived.Test.YtglboagjmbjehaaPaBoth
namespace Go.Proofs.Ytglboagjmbjehaa
open Go.RowKit Go.Shelf
set_option maxRecDepth 100000
set_option maxHeartbeats 4000000
set_option linter.unusedSimpArgs false
set_option linter.unusedVariables false

theorem answer_any (id : Int) (ok : Bool) (a : ByteArray) (w : World) (ha : a.size ≤ maxLen) :
    Calls Try.prog 69 #[.int .i64 id, .bool ok, .string a] w (PktZ w (if ok then 2 else 3) id (jnL [a]) (ansE id a)) := by
  have ID := Lib.hid (fun W => idRight_any id W)
  have SH := Lib.hid (fun W => shown_any a W ha)
  unfold maxLen at ha
  cases hi : idB id
  · have he : ansE id a = 1 := by unfold ansE; rw [hi]; rfl
    have F : Hid (PktZ w (if ok then 2 else 3) id (jnL [a]) (ansE id a) (.returned (.tuple #[.agg #[.int .i64 0, .int .i64 0, .slice none 0 0], .int .i64 1])) (w.alloc (.cells #[.int .i64 0, .int .i64 0, .slice none 0 0] 38))) := by
      show PktZ _ _ _ _ _ _ _
      rw [he]
      exact pktZ_no (by omega) ((Below.refl _ _).alloc (Nat.le_refl _) _)
    obtain ⟨er, her⟩ : ∃ er, ansE id a = er := ⟨_, rfl⟩
    obtain ⟨cd, hcd⟩ : ∃ cd : Int, (if ok then (2 : Int) else 3) = cd := ⟨_, rfl⟩
    rw [her, hcd] at F ⊢
    clear hcd
    rw [hi] at ID
    clear he hi her
    go_enter Try.func69, Try.ntmps69
    go_wp2_with (first
      | (go_at_call 48; ((with_reducible refine (ID.out _).mono ?_); rintro e w' ⟨rfl, rfl⟩))
      | (go_at_call 61; ((with_reducible refine (SH.out _).mono ?_); rintro e w' ⟨rfl, rfl⟩)))
    exact bodyPost_ret (v := .tuple #[.agg #[.int .i64 0, .int .i64 0, .slice none 0 0], .int .i64 1]) (by simp [results, Try.results69, go_sem]) rfl F.out
  · by_cases h1 : 255 < a.size
    · have he : ansE id a = 4 := by unfold ansE; rw [hi, if_neg (by simp), if_pos h1]
      have F : Hid (PktZ w (if ok then 2 else 3) id (jnL [a]) (ansE id a) (.returned (.tuple #[.agg #[.int .i64 0, .int .i64 0, .slice none 0 0], .int .i64 4])) (w.alloc (.cells #[.int .i64 0, .int .i64 0, .slice none 0 0] 38))) := by
        show PktZ _ _ _ _ _ _ _
        rw [he]
        exact pktZ_no (by omega) ((Below.refl _ _).alloc (Nat.le_refl _) _)
      obtain ⟨er, her⟩ : ∃ er, ansE id a = er := ⟨_, rfl⟩
      obtain ⟨cd, hcd⟩ : ∃ cd : Int, (if ok then (2 : Int) else 3) = cd := ⟨_, rfl⟩
      rw [her, hcd] at F ⊢
      clear hcd
      rw [hi] at ID
      have s1 : (255 : Int) < (a.size : Int) := by omega
      clear h1
      clear he hi her
      go_enter Try.func69, Try.ntmps69
      go_wp2_with (first
        | (go_at_call 48; ((with_reducible refine (ID.out _).mono ?_); rintro e w' ⟨rfl, rfl⟩))
        | (go_at_call 61; ((with_reducible refine (SH.out _).mono ?_); rintro e w' ⟨rfl, rfl⟩)))
      exact bodyPost_ret (v := .tuple #[.agg #[.int .i64 0, .int .i64 0, .slice none 0 0], .int .i64 4]) (by simp [results, Try.results69, go_sem]) rfl F.out
    · cases hsh : shB a
      · have he : ansE id a = 3 := by unfold ansE; rw [hi, if_neg (by simp), if_neg h1, if_pos hsh]
        have F : Hid (PktZ w (if ok then 2 else 3) id (jnL [a]) (ansE id a) (.returned (.tuple #[.agg #[.int .i64 0, .int .i64 0, .slice none 0 0], .int .i64 3])) (w.alloc (.cells #[.int .i64 0, .int .i64 0, .slice none 0 0] 38))) := by
          show PktZ _ _ _ _ _ _ _
          rw [he]
          exact pktZ_no (by omega) ((Below.refl _ _).alloc (Nat.le_refl _) _)
        obtain ⟨er, her⟩ : ∃ er, ansE id a = er := ⟨_, rfl⟩
        obtain ⟨cd, hcd⟩ : ∃ cd : Int, (if ok then (2 : Int) else 3) = cd := ⟨_, rfl⟩
        rw [her, hcd] at F ⊢
        clear hcd
        rw [hi] at ID
        have s1 : ¬ (255 : Int) < (a.size : Int) := by omega
        rw [hsh] at SH
        clear h1 hsh
        clear he hi her
        go_enter Try.func69, Try.ntmps69
        go_wp2_with (first
          | (go_at_call 48; ((with_reducible refine (ID.out _).mono ?_); rintro e w' ⟨rfl, rfl⟩))
          | (go_at_call 61; ((with_reducible refine (SH.out _).mono ?_); rintro e w' ⟨rfl, rfl⟩)))
        exact bodyPost_ret (v := .tuple #[.agg #[.int .i64 0, .int .i64 0, .slice none 0 0], .int .i64 3]) (by simp [results, Try.results69, go_sem]) rfl F.out
      · have he : ansE id a = 0 := by unfold ansE; rw [hi, if_neg (by simp), if_neg h1, if_neg (by rw [hsh]; simp)]
        rw [he]
        have hid : 0 ≤ id ∧ id ≤ 255 := by simpa [idB] using hi
        show Calls _ _ _ _ (PktR w (if ok then 2 else 3) id (jnL [a]) 0)
        exact answer_yes id ok a w hid.1 hid.2 (by omega) hsh
theorem ranswer_any (id : Int) (ok : Bool) (a : ByteArray) (w : World) (ha : a.size ≤ maxLen) :
    Calls Try.prog 39 #[.int .i64 id, .bool ok, .string a] w (PktZ w (if ok then 2 else 3) id (jnL [a]) (ansE id a)) := by
  have ID := Lib.hid (fun W => number_any id W)
  have SH := Lib.hid (fun W => plain_any a W ha)
  unfold maxLen at ha
  cases hi : idB id
  · have he : ansE id a = 1 := by unfold ansE; rw [hi]; rfl
    have F : Hid (PktZ w (if ok then 2 else 3) id (jnL [a]) (ansE id a) (.returned (.tuple #[.agg #[.int .i64 0, .int .i64 0, .slice none 0 0], .int .i64 1])) (w.alloc (.cells #[.int .i64 0, .int .i64 0, .slice none 0 0] 38))) := by
      show PktZ _ _ _ _ _ _ _
      rw [he]
      exact pktZ_no (by omega) ((Below.refl _ _).alloc (Nat.le_refl _) _)
    obtain ⟨er, her⟩ : ∃ er, ansE id a = er := ⟨_, rfl⟩
    obtain ⟨cd, hcd⟩ : ∃ cd : Int, (if ok then (2 : Int) else 3) = cd := ⟨_, rfl⟩
    rw [her, hcd] at F ⊢
    clear hcd
    rw [hi] at ID
    clear he hi her
    go_enter Try.func39, Try.ntmps39
    go_wp2_with (first
      | (go_at_call 56; ((with_reducible refine (ID.out _).mono ?_); rintro e w' ⟨rfl, rfl⟩))
      | (go_at_call 58; ((with_reducible refine (SH.out _).mono ?_); rintro e w' ⟨rfl, rfl⟩)))
    exact bodyPost_ret (v := .tuple #[.agg #[.int .i64 0, .int .i64 0, .slice none 0 0], .int .i64 1]) (by simp [results, Try.results39, go_sem]) rfl F.out
  · by_cases h1 : 255 < a.size
    · have he : ansE id a = 4 := by unfold ansE; rw [hi, if_neg (by simp), if_pos h1]
      have F : Hid (PktZ w (if ok then 2 else 3) id (jnL [a]) (ansE id a) (.returned (.tuple #[.agg #[.int .i64 0, .int .i64 0, .slice none 0 0], .int .i64 4])) (w.alloc (.cells #[.int .i64 0, .int .i64 0, .slice none 0 0] 38))) := by
        show PktZ _ _ _ _ _ _ _
        rw [he]
        exact pktZ_no (by omega) ((Below.refl _ _).alloc (Nat.le_refl _) _)
      obtain ⟨er, her⟩ : ∃ er, ansE id a = er := ⟨_, rfl⟩
      obtain ⟨cd, hcd⟩ : ∃ cd : Int, (if ok then (2 : Int) else 3) = cd := ⟨_, rfl⟩
      rw [her, hcd] at F ⊢
      clear hcd
      rw [hi] at ID
      have s1 : (255 : Int) < (a.size : Int) := by omega
      clear h1
      clear he hi her
      go_enter Try.func39, Try.ntmps39
      go_wp2_with (first
        | (go_at_call 56; ((with_reducible refine (ID.out _).mono ?_); rintro e w' ⟨rfl, rfl⟩))
        | (go_at_call 58; ((with_reducible refine (SH.out _).mono ?_); rintro e w' ⟨rfl, rfl⟩)))
      exact bodyPost_ret (v := .tuple #[.agg #[.int .i64 0, .int .i64 0, .slice none 0 0], .int .i64 4]) (by simp [results, Try.results39, go_sem]) rfl F.out
    · cases hsh : shB a
      · have he : ansE id a = 3 := by unfold ansE; rw [hi, if_neg (by simp), if_neg h1, if_pos hsh]
        have F : Hid (PktZ w (if ok then 2 else 3) id (jnL [a]) (ansE id a) (.returned (.tuple #[.agg #[.int .i64 0, .int .i64 0, .slice none 0 0], .int .i64 3])) (w.alloc (.cells #[.int .i64 0, .int .i64 0, .slice none 0 0] 38))) := by
          show PktZ _ _ _ _ _ _ _
          rw [he]
          exact pktZ_no (by omega) ((Below.refl _ _).alloc (Nat.le_refl _) _)
        obtain ⟨er, her⟩ : ∃ er, ansE id a = er := ⟨_, rfl⟩
        obtain ⟨cd, hcd⟩ : ∃ cd : Int, (if ok then (2 : Int) else 3) = cd := ⟨_, rfl⟩
        rw [her, hcd] at F ⊢
        clear hcd
        rw [hi] at ID
        have s1 : ¬ (255 : Int) < (a.size : Int) := by omega
        rw [hsh] at SH
        clear h1 hsh
        clear he hi her
        go_enter Try.func39, Try.ntmps39
        go_wp2_with (first
          | (go_at_call 56; ((with_reducible refine (ID.out _).mono ?_); rintro e w' ⟨rfl, rfl⟩))
          | (go_at_call 58; ((with_reducible refine (SH.out _).mono ?_); rintro e w' ⟨rfl, rfl⟩)))
        exact bodyPost_ret (v := .tuple #[.agg #[.int .i64 0, .int .i64 0, .slice none 0 0], .int .i64 3]) (by simp [results, Try.results39, go_sem]) rfl F.out
      · have he : ansE id a = 0 := by unfold ansE; rw [hi, if_neg (by simp), if_neg h1, if_neg (by rw [hsh]; simp)]
        rw [he]
        have hid : 0 ≤ id ∧ id ≤ 255 := by simpa [idB] using hi
        show Calls _ _ _ _ (PktR w (if ok then 2 else 3) id (jnL [a]) 0)
        obtain ⟨V1, hV1⟩ : ∃ V, w.alloc (.cells #[.int .i64 0, .int .i64 0, .slice none 0 0] 38) = V := ⟨_, rfl⟩
        have hB1 : Below w.heap.size w V1 := by rw [← hV1]; exact (Below.refl _ _).alloc (Nat.le_refl _) _
        have hn1 : Blk V1 w.heap.size 38 [.int .i64 0, .int .i64 0, .slice none 0 0] := by rw [← hV1]; exact heap_alloc_new w _
        have z1 : V1.heap.size = w.heap.size + 1 := by rw [← hV1]; simp
        obtain ⟨cd, hcd⟩ : ∃ cd : Int, (if ok then (2 : Int) else 3) = cd := ⟨_, rfl⟩
        rw [hcd]
        have C : Hid (Calls Try.prog 59 #[.slice none 0 0, .string a] V1 fun e w3 => ∃ D k d, e = .returned (.slice D k d) ∧ w.heap.size < w3.heap.size ∧ Blk w3 w.heap.size 38 [.int .i64 0, .int .i64 0, .slice none 0 0] ∧
            ∀ W', w3.grownBy W' (some w.heap.size) → PktR w cd id (jnL [a]) 0 (.returned (.tuple #[.agg #[.int .i64 cd, .int .i64 id, .slice D k d], .int .i64 0])) W') := by
          refine (part_any V1 V1 (.slice none 0 0) [] a (Own.nil _ _) (Below.refl _ _) (by omega) (by simp)).mono ?_
          rintro e w3 ⟨D, k, d, rfl, ho, hb3⟩
          have z3 := hb3.size
          refine ⟨D, k, d, rfl, by omega, (hb3.block _ (by omega)).trans hn1, fun W' g => ⟨(hB1.trans (hb3.mono (by omega))).grown g (by omega) (fun q e => by cases e; exact Nat.le_refl _), D, k, d, rfl, ?_⟩⟩
          have hne : (Value.slice D k d).ownBlock = none ∨ (Value.slice D k d).ownBlock ≠ some w.heap.size := by
            rcases ho.form with ⟨e, _⟩ | ⟨g', cap, e, h2, _⟩
            · rw [e]; exact .inl rfl
            · rw [e]; refine .inr fun e2 => ?_
              simp [Value.ownBlock] at e2; omega
          have h4 := ho.grown g hne
          have hj : [] ++ ptL a = jnL [a] := by simp [jnL]
          rw [hj] at h4
          refine ⟨h4.1, ?_⟩
          rcases h4.2 with h | ⟨g', cap, cur, e1, e2, e3⟩
          · exact .inl h
          · exact .inr ⟨g', cap, cur, e1, by omega, e3⟩
        have HV1 := Lib.hid hV1
        have s1 : ¬ (255 : Int) < (a.size : Int) := by omega
        rw [hi] at ID
        rw [hsh] at SH
        clear hn1 hB1 hV1 hi he h1 hsh
        cases ok
        all_goals
          simp only [Bool.false_eq_true, if_false, if_true] at hcd
          subst hcd
          go_enter Try.func39, Try.ntmps39
          go_wp2_with (first
            | (rw [HV1.out])
            | (go_at_call 56; ((with_reducible refine (ID.out _).mono ?_); rintro e w' ⟨rfl, rfl⟩))
            | (go_at_call 58; ((with_reducible refine (SH.out _).mono ?_); rintro e w' ⟨rfl, rfl⟩))
            | (go_at_call 59; ((with_reducible refine C.out.mono ?_); rintro e w3 ⟨D, k, d, rfl, z3, b2, c9⟩; have r0 := b2.cell 0; have r1 := b2.cell 1; have r2 := b2.cell 2; have g0 := b2.frozen 0; have g1 := b2.frozen 1; have g2 := b2.frozen 2; have tn := World.new_ne w3 _ r0; have C9 := Lib.hid c9; have B2 := Lib.hid b2; clear c9 b2)))
          have hb5 := fun cd : Int => blk3 (x := .int .i64 cd) (y := .int .i64 id) (z := .slice D k d) B2.out
          first
            | (have hb4 := hb5 3
               have y0 := hb4.cell 0
               have y1 := hb4.cell 1
               have y2 := hb4.cell 2
               exact bodyPost_ret (v := .tuple #[.agg #[.int .i64 3, .int .i64 id, .slice D k d], .int .i64 0]) (by simp [results, Try.results39, go_sem, *]) rfl (C9.out _ (gtrans' (gset3 _ _ _ _ _) (below_only ((Below.refl _ _).alloc (Nat.le_refl _) _)))))
            | (have hb4 := hb5 2
               have y0 := hb4.cell 0
               have y1 := hb4.cell 1
               have y2 := hb4.cell 2
               exact bodyPost_ret (v := .tuple #[.agg #[.int .i64 2, .int .i64 id, .slice D k d], .int .i64 0]) (by simp [results, Try.results39, go_sem, *]) rfl (C9.out _ (gtrans' (gset3 _ _ _ _ _) (below_only ((Below.refl _ _).alloc (Nat.le_refl _) _)))))
end Go.Proofs.Ytglboagjmbjehaa
