/-
  The reference's New (of ends), fresh, Method; tetherref20.New, tetherref21.New.
-/
import Derived.Test.YtlpboleclehilaaDoorCcRej
namespace Go.Proofs.YtlpboleclehilaaDoor
open Go.RowKit
set_option maxRecDepth 100000
set_option maxHeartbeats 4000000
set_option linter.unusedSimpArgs false
set_option linter.unusedVariables false

def fitQ (D B : Int) : Prop := (D = 0 ∨ (8 ≤ D ∧ D ≤ 15)) ∧ (B = 0 ∨ (9 ≤ B ∧ B ≤ 15))
instance (D B : Int) : Decidable (fitQ D B) := by unfold fitQ; infer_instance
theorem new20_any (D : Int) (w : World) (h1 : 8 ≤ D) (h2 : D ≤ 15) : Calls Tryd.prog 53 #[.int .i64 D] w fun e w' => ∃ g, e = .returned (.pointer (some ⟨g, 0, none⟩)) ∧ Below w.heap.size w w' := by
  have hd : D = 8 ∨ D = 9 ∨ D = 10 ∨ D = 11 ∨ D = 12 ∨ D = 13 ∨ D = 14 ∨ D = 15 := by omega
  clear h1 h2
  have HB := Lib.hid (Below.refl w.heap.size w)
  rcases hd with rfl | rfl | rfl | rfl | rfl | rfl | rfl | rfl
  all_goals
    go_enter Tryd.func53, Tryd.ntmps53
    go_wp2
    go_ret
    exact ⟨_, rfl, HB.out.alloc (Nat.le_refl _) _⟩
theorem new21_any (B : Int) (w : World) (h1 : 9 ≤ B) (h2 : B ≤ 15) : Calls Tryd.prog 54 #[.int .i64 B] w fun e w' => ∃ g, e = .returned (.pointer (some ⟨g, 0, none⟩)) ∧ Below w.heap.size w w' := by
  have h3 : ¬ B < 9 := by omega
  have h4 : ¬ 15 < B := by omega
  have HB := Lib.hid (Below.refl w.heap.size w)
  go_enter Tryd.func54, Tryd.ntmps54
  go_wp2
  go_ret
  exact ⟨⟨_, rfl⟩, HB.out.alloc (Nat.le_refl _) _⟩
def mtdI (D B : Int) : Int := if D ≠ 0 then 26 else if B ≠ 0 then 21 else 0
theorem rmethod_any (D B : Int) (w : World) : Calls Tryd.prog 52 #[.agg #[.int .i64 D, .int .i64 B]] w fun e w' => e = .returned (.int .i64 (mtdI D B)) ∧ Below w.heap.size w w' := by
  obtain ⟨W1, hW1⟩ : ∃ W1, w.alloc (.cells #[.int .i64 D, .int .i64 B] 36) = W1 := ⟨_, rfl⟩
  have k1 : Blk W1 w.heap.size 36 [.int .i64 D, .int .i64 B] := by rw [← hW1]; exact blk_new w _ _
  have B1 : Below w.heap.size w W1 := by rw [← hW1]; exact (Below.refl _ _).alloc (Nat.le_refl _) _
  have c0 := k1.cell 0
  have c1 := k1.cell 1
  have HW := Lib.hid hW1
  have HB := Lib.hid B1
  clear k1 B1 hW1
  by_cases hD : D = 0
  · have e0 : (D != 0) = false := by simpa using hD
    by_cases hB : B = 0
    · have e1 : (B != 0) = false := by simpa using hB
      have HV : Hid (mtdI D B = 0) := by show _ = _; unfold mtdI; simp [hD, hB]
      clear hD hB
      go_enter Tryd.func52, Tryd.ntmps52
      go_wp2_with (rw [HW.out])
      go_ret
      exact ⟨by rw [HV.out]; rfl, HB.out⟩
    · have e1 : (B != 0) = true := by simpa using hB
      have HV : Hid (mtdI D B = 21) := by show _ = _; unfold mtdI; simp [hD, hB]
      clear hD hB
      go_enter Tryd.func52, Tryd.ntmps52
      go_wp2_with (rw [HW.out])
      go_ret
      exact ⟨by rw [HV.out]; rfl, HB.out⟩
  · have e0 : (D != 0) = true := by simpa using hD
    have HV : Hid (mtdI D B = 26) := by show _ = _; unfold mtdI; simp [hD]
    clear hD
    go_enter Tryd.func52, Tryd.ntmps52
    go_wp2_with (rw [HW.out])
    go_ret
    exact ⟨by rw [HV.out]; rfl, HB.out⟩
def endC (D B : Int) : List Value := [.int .i64 D, .int .i64 B, .pointer none, .pointer none, .bool false, .bool false, .int .i64 0]
theorem fresh_any (z : Nat) (D B : Int) (w : World) (hz : Blk w z 77 (endC D B)) (hf : fitQ D B) :
    Calls Tryd.prog 40 #[.pointer (some ⟨z, 0, none⟩)] w fun e w' => e = .returned (.tuple #[]) ∧ w.grownBy w' (some z) := by
  have kE := Blk.set_ (Blk.set_ hz 4 (.bool false)) 5 (.bool false)
  obtain ⟨V, hV⟩ : ∃ V, (w.setCell ⟨z, 4, none⟩ (.bool false)).setCell ⟨z, 5, none⟩ (.bool false) = V := ⟨_, rfl⟩
  rw [hV] at kE
  have kE : Blk V z 77 (endC D B) := kE
  have gV : w.grownBy V (some z) := by rw [← hV]; exact only_then (only_set (p := ⟨z, 4, none⟩) _) (only_set (p := ⟨z, 5, none⟩) _) (fun g e => .inl e)
  have z0 : V.cell? ⟨z, 0, none⟩ = some (.int .i64 D) := kE.cell 0
  have z1 : V.cell? ⟨z, 1, none⟩ = some (.int .i64 B) := kE.cell 1
  have y4 : w.cell? ⟨z, 4, none⟩ = some (.bool false) := hz.cell 4
  have y5 : w.cell? ⟨z, 5, none⟩ = some (.bool false) := hz.cell 5
  have f4 := hz.frozen 4
  have f5 := hz.frozen 5
  have HV := Lib.hid hV
  have HG := Lib.hid gV
  have ME : Hid (Calls Tryd.prog 52 #[.agg #[.int .i64 D, .int .i64 B]] V fun e w' => e = .returned (.int .i64 (mtdI D B)) ∧ (w'.cell? ⟨z, 0, none⟩ = some (.int .i64 D) ∧ w'.cell? ⟨z, 1, none⟩ = some (.int .i64 B)) ∧ Hid (Blk w' z 77 (endC D B) ∧ w.grownBy w' (some z))) := by
    refine (rmethod_any D B V).mono ?_
    rintro e w' ⟨rfl, hb⟩
    have k2 : Blk w' z 77 (endC D B) := (hb.block _ (Blk.lt kE)).trans kE
    exact ⟨rfl, ⟨k2.cell 0, k2.cell 1⟩, Lib.hid ⟨k2, grown_into gV hb⟩⟩
  clear hV gV kE
  by_cases hD : D = 0
  · by_cases hB : B = 0
    · have hm : mtdI D B = 0 := by unfold mtdI; simp [hD, hB]
      rw [hm] at ME
      clear hz hm hD hB
      go_enter Tryd.func40, Tryd.ntmps40
      go_wp2_with (first
        | (rw [HV.out])
        | (go_at_call 52; ((with_reducible refine ME.out.mono ?_); rintro e w' ⟨rfl, ⟨x0, x1⟩, HN⟩)))
      go_end0
      exact ⟨rfl, HN.out.2⟩
    · have hm : mtdI D B = 21 := by unfold mtdI; simp [hD, hB]
      rw [hm] at ME
      have hB2 : 9 ≤ B ∧ B ≤ 15 := by have := hf.2; omega
      have HN21 : Hid (∀ w1, Blk w1 z 77 (endC D B) ∧ w.grownBy w1 (some z) → Calls Tryd.prog 54 #[.int .i64 B] w1 fun e w' => ∃ g, e = .returned (.pointer (some ⟨g, 0, none⟩)) ∧ (w'.cell? ⟨z, 3, none⟩ = some (.pointer none) ∧ w'.frozen? ⟨z, 3, none⟩ = false) ∧ Hid (w.grownBy (w'.setCell ⟨z, 3, none⟩ (.pointer (some ⟨g, 0, none⟩))) (some z))) := by
        intro w1 h1
        refine (new21_any B w1 hB2.1 hB2.2).mono ?_
        rintro e w' ⟨g, rfl, hb⟩
        have k2 : Blk w' z 77 (endC D B) := (hb.block _ (Blk.lt h1.1)).trans h1.1
        exact ⟨g, rfl, ⟨k2.cell 3, k2.frozen 3⟩, Lib.hid (grown_cell (grown_into h1.2 hb))⟩
      clear hz hm hD hB hB2
      go_enter Tryd.func40, Tryd.ntmps40
      go_wp2_with (first
        | (rw [HV.out])
        | (go_at_call 52; ((with_reducible refine ME.out.mono ?_); rintro e w' ⟨rfl, ⟨x0, x1⟩, HN⟩))
        | (go_at_call 54; ((with_reducible refine (HN21.out _ HN.out).mono ?_); rintro e w2 ⟨g, rfl, ⟨x2, x3⟩, HG2⟩)))
      go_end0
      exact ⟨rfl, HG2.out⟩
  · have hm : mtdI D B = 26 := by unfold mtdI; simp [hD]
    rw [hm] at ME
    have hD2 : 8 ≤ D ∧ D ≤ 15 := by have := hf.1; omega
    have HN20 : Hid (∀ w1, Blk w1 z 77 (endC D B) ∧ w.grownBy w1 (some z) → Calls Tryd.prog 53 #[.int .i64 D] w1 fun e w' => ∃ g, e = .returned (.pointer (some ⟨g, 0, none⟩)) ∧ (w'.cell? ⟨z, 2, none⟩ = some (.pointer none) ∧ w'.frozen? ⟨z, 2, none⟩ = false) ∧ Hid (w.grownBy (w'.setCell ⟨z, 2, none⟩ (.pointer (some ⟨g, 0, none⟩))) (some z))) := by
      intro w1 h1
      refine (new20_any D w1 hD2.1 hD2.2).mono ?_
      rintro e w' ⟨g, rfl, hb⟩
      have k2 : Blk w' z 77 (endC D B) := (hb.block _ (Blk.lt h1.1)).trans h1.1
      exact ⟨g, rfl, ⟨k2.cell 2, k2.frozen 2⟩, Lib.hid (grown_cell (grown_into h1.2 hb))⟩
    clear hz hm hD hD2
    go_enter Tryd.func40, Tryd.ntmps40
    go_wp2_with (first
      | (rw [HV.out])
      | (go_at_call 52; ((with_reducible refine ME.out.mono ?_); rintro e w' ⟨rfl, ⟨x0, x1⟩, HN⟩))
      | (go_at_call 53; ((with_reducible refine (HN20.out _ HN.out).mono ?_); rintro e w2 ⟨g, rfl, ⟨x2, x3⟩, HG2⟩)))
    go_end0
    exact ⟨rfl, HG2.out⟩
theorem new22_yes (D B : Int) (w : World) (hf : fitQ D B) : Calls Tryd.prog 18 #[.agg #[.int .i64 D, .int .i64 B]] w fun e w' => ∃ g, e = .returned (.pointer (some ⟨g, 0, none⟩)) ∧ Below w.heap.size w w' := by
  obtain ⟨W1, hW1⟩ : ∃ W1, w.alloc (.cells #[.int .i64 D, .int .i64 B] 36) = W1 := ⟨_, rfl⟩
  have k1 : Blk W1 w.heap.size 36 [.int .i64 D, .int .i64 B] := by rw [← hW1]; exact blk_new w _ _
  have B1 : Below w.heap.size w W1 := by rw [← hW1]; exact (Below.refl _ _).alloc (Nat.le_refl _) _
  have s1 : W1.heap.size = w.heap.size + 1 := by rw [← hW1]; simp
  have c0 := k1.cell 0
  have c1 := k1.cell 1
  have HW := Lib.hid hW1
  obtain ⟨W2, hW2⟩ : ∃ W2, W1.alloc (.cells #[.int .i64 D, .int .i64 B, .pointer none, .pointer none, .bool false, .bool false, .int .i64 0] 77) = W2 := ⟨_, rfl⟩
  have k2 : Blk W2 (w.heap.size + 1) 77 (endC D B) := by rw [← hW2, ← s1]; exact blk_new W1 _ _
  have B2 : Below W1.heap.size W1 W2 := by rw [← hW2]; exact (Below.refl _ _).alloc (Nat.le_refl _) _
  have HW2 := Lib.hid hW2
  have s2 := B2.size
  have FR : Hid (Calls Tryd.prog 40 #[.pointer (some ⟨w.heap.size + 1, 0, none⟩)] W2 fun e w' => e = .returned (.tuple #[]) ∧ Hid (Below w.heap.size w w')) := by
    refine (fresh_any (w.heap.size + 1) D B W2 k2 hf).mono ?_
    rintro e w' ⟨rfl, hg⟩
    exact ⟨rfl, Lib.hid ((B1.trans (B2.mono (by omega))).grown hg (by omega) (fun q e => by injection e; omega))⟩
  clear hW1 k1 B1 hW2 k2 B2
  obtain ⟨hfD, hfB⟩ := hf
  have d1 : (D != 0) = false ∨ ((D != 0) = true ∧ ¬ D < 8 ∧ ¬ 15 < D) := by
    rcases hfD with rfl | ⟨h1, h2⟩
    · exact .inl rfl
    · exact .inr ⟨by simp; omega, by omega, by omega⟩
  have d2 : (B != 0) = false ∨ ((B != 0) = true ∧ ¬ B < 9 ∧ ¬ 15 < B) := by
    rcases hfB with rfl | ⟨h1, h2⟩
    · exact .inl rfl
    · exact .inr ⟨by simp; omega, by omega, by omega⟩
  clear hfD hfB
  rcases d1 with d1 | ⟨d1, d3, d4⟩ <;> rcases d2 with d2 | ⟨d2, d5, d6⟩
  all_goals
    go_enter Tryd.func18, Tryd.ntmps18
    go_wp2_with (first
      | (rw [HW.out])
      | (rw [HW2.out])
      | (go_at_call 40; ((with_reducible refine FR.out.mono ?_); rintro e w' ⟨rfl, HB⟩)))
    go_ret
    exact ⟨_, rfl, HB.out⟩
theorem new22_no (D B : Int) (w : World) (hf : ¬ fitQ D B) : Calls Tryd.prog 18 #[.agg #[.int .i64 D, .int .i64 B]] w fun e w' => e = .returned (.pointer none) ∧ Below w.heap.size w w' := by
  obtain ⟨W1, hW1⟩ : ∃ W1, w.alloc (.cells #[.int .i64 D, .int .i64 B] 36) = W1 := ⟨_, rfl⟩
  have k1 : Blk W1 w.heap.size 36 [.int .i64 D, .int .i64 B] := by rw [← hW1]; exact blk_new w _ _
  have B1 : Below w.heap.size w W1 := by rw [← hW1]; exact (Below.refl _ _).alloc (Nat.le_refl _) _
  have c0 := k1.cell 0
  have c1 := k1.cell 1
  have HW := Lib.hid hW1
  have HB := Lib.hid B1
  clear hW1 k1 B1
  have ways : ((D != 0) = true ∧ D < 8) ∨ ((D != 0) = true ∧ ¬ D < 8 ∧ 15 < D) ∨ (((D != 0) = false ∨ ((D != 0) = true ∧ ¬ D < 8 ∧ ¬ 15 < D)) ∧ (((B != 0) = true ∧ B < 9) ∨ ((B != 0) = true ∧ ¬ B < 9 ∧ 15 < B))) := by
    unfold fitQ at hf
    simp only [bne_iff_ne, ne_eq, bne_eq_false_iff_eq]
    omega
  clear hf
  rcases ways with ⟨a1, a2⟩ | ⟨a1, a2, a3⟩ | ⟨a1 | ⟨a1, a2, a3⟩, ⟨b1, b2⟩ | ⟨b1, b2, b3⟩⟩
  all_goals
    go_enter Tryd.func18, Tryd.ntmps18
    go_wp2_with (rw [HW.out])
    go_ret
    exact ⟨rfl, HB.out⟩
end Go.Proofs.YtlpboleclehilaaDoor
