/-
  CcpEnds: what a round comes to, in numbers.
-/
import Derived.Test.YtlpboleclehilaaDoorCcNew
namespace Go.Proofs.YtlpboleclehilaaDoor
open Go.RowKit
set_option maxRecDepth 100000
set_option maxHeartbeats 2000000
set_option linter.unusedSimpArgs false
set_option linter.unusedVariables false

/-- an option of each kind, or none -/
def subL (f g : Bool) (x y : List UInt8) : List Opt := (if f = true then [(26, x)] else []) ++ (if g = true then [(21, y)] else [])
theorem sub_met26 (f g : Bool) (x y : List UInt8) : metK 26 (subL f g x y) (subL f g x y).length = f := by cases f <;> cases g <;> rfl
theorem sub_met21 (f g : Bool) (x y : List UInt8) : metK 21 (subL f g x y) (subL f g x y).length = g := by cases f <;> cases g <;> rfl
theorem sub_lst26 (f g : Bool) (x y : List UInt8) : lstK 26 (subL f g x y) (subL f g x y).length = if f = true then says 26 x else 0 := by
  cases f <;> cases g <;> simp [subL, lstK]
  all_goals intro h; exact h.symm
theorem sub_lst21 (f g : Bool) (x y : List UInt8) : lstK 21 (subL f g x y) (subL f g x y).length = if g = true then says 21 y else 0 := by
  cases f <;> cases g <;> simp [subL, lstK]
  all_goals intro h; exact h.symm
theorem sub_len (f g : Bool) (x y : List UInt8) : (subL f g x y).length ≤ 2 := by cases f <;> cases g <;> simp [subL]
theorem sub_nil (f g : Bool) (x y : List UInt8) : subL f g x y = [] ↔ f = false ∧ g = false := by cases f <;> cases g <;> simp [subL]
theorem sub_map (f g : Bool) (x y : List UInt8) (D B : Int) : (subL f g x y).map (turnO D B) = subL f g (dat 26 D) (dat 21 B) := by cases f <;> cases g <;> rfl
def ok26 (d : Int) : Prop := d = 0 ∨ (8 ≤ d ∧ d ≤ 15)
def ok21 (b : Int) : Prop := b = 0 ∨ (9 ≤ b ∧ b ≤ 15)
theorem can26 {d : Int} (h : ok26 d) : canB 26 d = !(d == 0) := by
  unfold ok26 at h
  rcases h with rfl | ⟨h1, h2⟩
  · rfl
  · have e0 : (d == 0) = false := by simp; omega
    rw [e0]
    unfold canB
    simp [h1, h2]
theorem can21 {b : Int} (h : ok21 b) : canB 21 b = !(b == 0) := by
  unfold ok21 at h
  rcases h with rfl | ⟨h1, h2⟩
  · rfl
  · have e0 : (b == 0) = false := by simp; omega
    rw [e0]
    unfold canB
    simp [h1, h2]
theorem opts_sub {d b : Int} (h1 : ok26 d) (h2 : ok21 b) : optsC d b = subL (!(d == 0)) (!(b == 0)) (dat 26 d) (dat 21 b) := by
  unfold optsC optP subL
  rw [can26 h1, can21 h2]
  rfl
theorem says26 {d : Int} (h : ok26 d) (h0 : d ≠ 0) : says 26 (dat 26 d) = d := says_dat (by rw [can26 h]; simp [h0])
theorem says21 {b : Int} (h : ok21 b) (h0 : b ≠ 0) : says 21 (dat 21 b) = b := says_dat (by rw [can21 h]; simp [h0])
theorem l26 (d : Int) : (dat 26 d).length = 2 := rfl
theorem l21 (b : Int) : (dat 21 b).length = 1 := rfl
theorem rf_sub {d b : Int} (D B : Int) (h1 : ok26 d) (h2 : ok21 b) : rfCL D B (optsC d b) = subL (!(d == 0) && D == 0) (!(b == 0) && B == 0) (dat 26 d) (dat 21 b) := by
  rw [opts_sub h1 h2]
  rcases hd : (d == 0) with _ | _ <;> rcases hb : (b == 0) with _ | _ <;> rcases hD : (D == 0) with _ | _ <;> rcases hB : (B == 0) with _ | _ <;>
    simp [rfCL, subL, pickC, rfC, metK, cK, szK, l26, l21, hD, hB] <;> simp_all
theorem st_sub {d b : Int} (D B : Int) (h1 : ok26 d) (h2 : ok21 b) : stCL D B (optsC d b) = subL (!(d == 0) && (!(D == 0) && decide (D < d))) (!(b == 0) && (!(B == 0) && decide (B < b))) (dat 26 d) (dat 21 b) := by
  rw [opts_sub h1 h2]
  have hs1 := says26 h1
  have hs2 := says21 h2
  have g1 : ∀ D : Int, d ≠ 0 → (says 26 (dat 26 d) == 0) = false := fun _ h => by rw [hs1 h]; simpa using h
  have g2 : ∀ D : Int, b ≠ 0 → (says 21 (dat 21 b) == 0) = false := fun _ h => by rw [hs2 h]; simpa using h
  rcases hd : (d == 0) with _ | _ <;> rcases hb : (b == 0) with _ | _
  · have hd' : d ≠ 0 := by simpa using hd
    have hb' : b ≠ 0 := by simpa using hb
    have e1 := hs1 hd'
    have e2 := hs2 hb'
    rcases hD : (D == 0) with _ | _ <;> rcases hB : (B == 0) with _ | _ <;> rcases hx : decide (D < d) with _ | _ <;> rcases hy : decide (B < b) with _ | _ <;>
      simp [stCL, subL, pickC, stC, rfC, metK, cK, szK, l26, l21, hD, hB, e1, e2, hd', hb'] <;> simp_all
  · have hd' : d ≠ 0 := by simpa using hd
    have e1 := hs1 hd'
    rcases hD : (D == 0) with _ | _ <;> rcases hx : decide (D < d) with _ | _ <;>
      simp [stCL, subL, pickC, stC, rfC, metK, cK, szK, l26, l21, hD, e1, hd'] <;> simp_all
  · have hb' : b ≠ 0 := by simpa using hb
    have e2 := hs2 hb'
    rcases hB : (B == 0) with _ | _ <;> rcases hy : decide (B < b) with _ | _ <;>
      simp [stCL, subL, pickC, stC, rfC, metK, cK, szK, l26, l21, hB, e2, hb'] <;> simp_all
  · rfl
/-- what both ends are at, behind r rounds -/
def JE (r : Nat) (D B d b : Int) : Prop := ok26 d ∧ ok21 b ∧ (1 ≤ r → (D = 0 → d = 0) ∧ (B = 0 → b = 0)) ∧ (2 ≤ r → d ≤ D ∧ b ≤ B)
theorem ends_round {D B d b mf naks : Int} {r : Nat} (hD : ok26 D) (hB : ok21 B) (h : JE r D B d b) :
    (jdC mf D B (optsC d b) naks = (2, optsC d b) ∧ d ≤ D ∧ b ≤ B) ∨
    (r < 2 ∧ ∃ f g x y, jdC mf D B (optsC d b) naks = (3, subL f g x y) ∧ JE (r + 1) D B (nkC (lstK 26 (subL f g x y) (subL f g x y).length) d) (nkC (lstK 21 (subL f g x y) (subL f g x y).length) b) ∧
      (!(nkC (lstK 26 (subL f g x y) (subL f g x y).length) d == d) || !(nkC (lstK 21 (subL f g x y) (subL f g x y).length) b == b)) = true ∧ x.length ≤ 2 ∧ y.length ≤ 2) ∨
    (r < 2 ∧ ∃ f g x y, jdC mf D B (optsC d b) naks = (4, subL f g x y) ∧ JE (r + 1) D B (rjK 26 d (subL f g x y) (subL f g x y).length) (rjK 21 b (subL f g x y) (subL f g x y).length) ∧ x.length ≤ 2 ∧ y.length ≤ 2) := by
  obtain ⟨h1, h2, h3, h4⟩ := h
  have hR := rf_sub D B h1 h2
  have hS := st_sub D B h1 h2
  by_cases hr : rfCL D B (optsC d b) = []
  · have hr2 := (sub_nil _ _ _ _).1 (hR.symm.trans hr)
    by_cases hs : stCL D B (optsC d b) = []
    · have hs2 := (sub_nil _ _ _ _).1 (hS.symm.trans hs)
      refine .inl ⟨?_, ?_⟩
      · unfold jdC
        simp [hr, hs]
      · have a1 := hr2.1; have a2 := hr2.2; have b1 := hs2.1; have b2 := hs2.2
        simp only [Bool.and_eq_false_iff, Bool.not_eq_false', beq_iff_eq, beq_eq_false_iff_ne, decide_eq_false_iff_not] at a1 a2 b1 b2
        unfold ok26 ok21 at *
        omega
    · have hlt : r < 2 := by
        rcases Nat.lt_or_ge r 2 with h | h
        · exact h
        · exfalso
          apply hs
          rw [hS, sub_nil]
          have := h4 h
          simp only [Bool.and_eq_false_iff, Bool.not_eq_false', beq_iff_eq, beq_eq_false_iff_ne, decide_eq_false_iff_not]
          omega
      have a1 := hr2.1; have a2 := hr2.2
      simp only [Bool.and_eq_false_iff, Bool.not_eq_false', beq_iff_eq, beq_eq_false_iff_ne] at a1 a2
      by_cases hn : naks < mf
      · refine .inr (.inl ⟨hlt, (!(d == 0) && (!(D == 0) && decide (D < d))), (!(b == 0) && (!(B == 0) && decide (B < b))), dat 26 D, dat 21 B, ?_, ?_⟩)
        · unfold jdC
          rw [hr, hS, sub_map]
          rw [if_neg (by simp), if_pos ⟨fun e => hs (hS.trans e), hn⟩]
        · rw [sub_lst26, sub_lst21]
          have hne : ¬ ((!(d == 0) && (!(D == 0) && decide (D < d))) = false ∧ (!(b == 0) && (!(B == 0) && decide (B < b))) = false) := fun e => hs (hS.trans ((sub_nil _ _ _ _).2 e))
          have v1 : (if (!(d == 0) && (!(D == 0) && decide (D < d))) = true then says 26 (dat 26 D) else 0) = if d ≠ 0 ∧ D ≠ 0 ∧ D < d then D else 0 := by
            by_cases hD0 : D = 0
            · simp [hD0]
            · rw [says26 hD hD0]
              simp
          have v2 : (if (!(b == 0) && (!(B == 0) && decide (B < b))) = true then says 21 (dat 21 B) else 0) = if b ≠ 0 ∧ B ≠ 0 ∧ B < b then B else 0 := by
            by_cases hB0 : B = 0
            · simp [hB0]
            · rw [says21 hB hB0]
              simp
          rw [v1, v2]
          simp only [Bool.and_eq_false_iff, Bool.not_eq_false', beq_iff_eq, beq_eq_false_iff_ne, decide_eq_false_iff_not] at hne
          have w1 : nkC (if d ≠ 0 ∧ D ≠ 0 ∧ D < d then D else 0) d = if d ≠ 0 ∧ D ≠ 0 ∧ D < d then D else d := by
            unfold nkC ok26 at *
            split <;> split <;> omega
          have w2 : nkC (if b ≠ 0 ∧ B ≠ 0 ∧ B < b then B else 0) b = if b ≠ 0 ∧ B ≠ 0 ∧ B < b then B else b := by
            unfold nkC ok21 at *
            split <;> split <;> omega
          rw [w1, w2]
          refine ⟨?_, ?_, by rw [l26]; omega, by rw [l21]; omega⟩
          · unfold JE ok26 ok21 at *
            refine ⟨?_, ?_, fun _ => ⟨?_, ?_⟩, fun _ => ⟨?_, ?_⟩⟩ <;> split <;> omega
          · simp only [Bool.or_eq_true, Bool.not_eq_true', beq_eq_false_iff_ne]
            unfold ok26 ok21 at *
            rcases Decidable.em (d ≠ 0 ∧ D ≠ 0 ∧ D < d) with e | e
            · left; rw [if_pos e]; omega
            · right; rw [if_pos (by omega)]; omega
      · refine .inr (.inr ⟨hlt, (!(d == 0) && (!(D == 0) && decide (D < d))), (!(b == 0) && (!(B == 0) && decide (B < b))), dat 26 d, dat 21 b, ?_, ?_⟩)
        · unfold jdC
          rw [hr, hS]
          rw [if_neg (by simp), if_neg (fun e => hn e.2), if_pos (fun e => hs (hS.trans e))]
        · unfold rjK
          rw [sub_met26, sub_met21]
          refine ⟨?_, by rw [l26]; omega, by rw [l21]; omega⟩
          simp only [Bool.and_eq_true, Bool.not_eq_true', beq_eq_false_iff_ne, decide_eq_true_eq]
          unfold JE ok26 ok21 at *
          refine ⟨?_, ?_, fun _ => ⟨?_, ?_⟩, fun _ => ⟨?_, ?_⟩⟩ <;> split <;> omega
  · have hlt : r < 1 := by
      rcases Nat.lt_or_ge r 1 with h | h
      · exact h
      · exfalso
        apply hr
        rw [hR, sub_nil]
        have := h3 h
        simp only [Bool.and_eq_false_iff, Bool.not_eq_false', beq_iff_eq, beq_eq_false_iff_ne]
        omega
    refine .inr (.inr ⟨by omega, (!(d == 0) && D == 0), (!(b == 0) && B == 0), dat 26 d, dat 21 b, ?_, ?_⟩)
    · unfold jdC
      rw [if_pos hr, hR]
    · unfold rjK
      rw [sub_met26, sub_met21]
      refine ⟨?_, by rw [l26]; omega, by rw [l21]; omega⟩
      simp only [Bool.and_eq_true, Bool.not_eq_true', beq_eq_false_iff_ne, beq_iff_eq]
      unfold JE ok26 ok21 at *
      refine ⟨?_, ?_, fun _ => ⟨?_, ?_⟩, fun hh => absurd hh (by omega)⟩ <;> split <;> omega
end Go.Proofs.YtlpboleclehilaaDoor
