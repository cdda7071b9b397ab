/-
  tetherlaw12.awake is true: chapter 12's example.
-/
import Derived.Test.YtglboagjmbjehaaPaTake
namespace Go.Proofs.Ytglboagjmbjehaa
open Go.RowKit Go.Shelf
set_option maxRecDepth 100000
set_option maxHeartbeats 4000000
set_option linter.unusedSimpArgs false
set_option linter.unusedVariables false

theorem own_rd {w : World} {base n c : Nat} {A : Option Addr} {l : List UInt8} (h : Own w base (.slice A n c) l) : Rd w w.heap.size A n l ∧ n ≤ c ∧ (A = none → c = 0) := by
  rcases h.2 with ⟨e, h0⟩ | ⟨g, cap, cur, e, hb, hg, hc, hm, _⟩
  · injection e with e1 e2 e3
    subst e1; subst e2; subst e3
    rw [List.eq_nil_of_length_eq_zero h0]
    exact ⟨Rd.nil, Nat.le_refl _, fun _ => rfl⟩
  · injection e with e1 e2 e3
    subst e1; subst e2; subst e3
    refine ⟨?_, hc, fun h => by cases h⟩
    have r := Own.rd h rfl l.length (Nat.le_refl _)
    rwa [List.take_length] at r
def alice : ByteArray := ⟨#[97, 108, 105, 99, 101]⟩
def mill : ByteArray := ⟨#[109, 105, 108, 108]⟩
def exS : List Sec := [⟨alice, mill, ⟨#[120]⟩, []⟩]
def exL : List UInt8 := [5, 97, 108, 105, 99, 101, 1, 120]
theorem ex_jn : jnL [alice, ⟨#[120]⟩] = exL := by decide
theorem ex_rq : rqE 1 7 exL = 0 ∧ rqS 1 7 exL 0 = alice ∧ rqS 1 7 exL 1 = ⟨#[120]⟩ := by decide
theorem ex_right : rightE ⟨alice, mill, ⟨#[120]⟩, []⟩ = 0 := by decide
theorem ex_chk : chk exS = (0, 0) := by decide
theorem ex_names : nameB mill = true ∧ nameB alice = true := by decide
theorem ex_fst : fst exS alice mill = some 0 := by
  unfold fst exS
  rw [List.findIdx?_cons]
  simp [ex_right]
theorem ex_judge : judgeB mill exS alice ⟨#[120]⟩ = true := by
  unfold judgeB
  rw [ex_names.2]
  have hb : bst exS alice mill = some 0 := by
    unfold bst
    rw [if_neg (by decide)]
    unfold pairsOf
    simp [ex_fst]
  rw [hb]
  simp [chkW, exS]
  decide
theorem ex_st : stOf exL = ⟨#[5, 97, 108, 105, 99, 101, 1, 120]⟩ := by decide
theorem ex_st2 : stOf (jnL [saidB true]) = ⟨#[7, 119, 101, 108, 99, 111, 109, 101]⟩ := by decide
/-- behind Take -/
def ExTake (w : World) (p g : Nat) (D : Option Addr) (k d : Nat) (e : Ending) (w4 : World) : Prop :=
  ∃ D4 k4 d4, e = .returned (.tuple #[.agg #[.int .i64 2, .int .i64 7, .slice D4 k4 d4], .bool true, .int .i64 0]) ∧ w4.cell? ⟨p, 2, none⟩ = some (.slice D k d) ∧ ∀ W5, Below w4.heap.size w4 W5 →
    (convert 36 9 (.slice D k d)).run Try.prog W5 = .ok (.string ⟨#[5, 97, 108, 105, 99, 101, 1, 120]⟩) W5 ∧
    (convert 36 9 (.slice D4 k4 d4)).run Try.prog W5 = .ok (.string ⟨#[7, 119, 101, 108, 99, 111, 109, 101]⟩) W5 ∧
    (Calls Try.prog 18 #[.pointer (some ⟨g, 0, none⟩)] W5 fun e w' => e = .returned (.string ⟨#[97, 108, 105, 99, 101]⟩) ∧ W5 = w') ∧ Below w.heap.size w W5
theorem ex_server (w w1 : World) (D : Option Addr) (k d : Nat) (b1 : Below w.heap.size w w1) (o1 : Own w1 w.heap.size (.slice D k d) exL) :
    Calls Try.prog 6 #[.string ⟨#[109, 105, 108, 108]⟩, .slice (some ⟨w1.heap.size + 1, 0, none⟩) 1 1] ((w1.alloc (.cells #[.int .i64 1, .int .i64 7, .slice D k d] 38)).alloc (.cells #[.string ⟨#[97, 108, 105, 99, 101]⟩, .string ⟨#[109, 105, 108, 108]⟩, .string ⟨#[120]⟩, .slice none 0 0] 26)) fun e w3 =>
      ∃ g, e = .returned (.tuple #[.pointer (some ⟨g, 0, none⟩), .int .i64 0, .int .i64 0]) ∧ Blk w3 w1.heap.size 38 [.int .i64 1, .int .i64 7, .slice D k d] ∧
        Calls Try.prog 13 #[.pointer (some ⟨g, 0, none⟩), .agg #[.int .i64 1, .int .i64 7, .slice D k d]] w3 (ExTake w w1.heap.size g D k d) := by
  obtain ⟨r1, hkd, hnil⟩ := own_rd o1
  obtain ⟨V, hV⟩ : ∃ V, (w1.alloc (.cells #[.int .i64 1, .int .i64 7, .slice D k d] 38)).alloc (.cells #[.string ⟨#[97, 108, 105, 99, 101]⟩, .string ⟨#[109, 105, 108, 108]⟩, .string ⟨#[120]⟩, .slice none 0 0] 26) = V := ⟨_, rfl⟩
  have bV : Below w1.heap.size w1 V := by rw [← hV]; exact ((Below.refl _ _).alloc (Nat.le_refl _) _).alloc (by simp) _
  have zV : V.heap.size = w1.heap.size + 2 := by rw [← hV]; simp
  have h0 : Blk V w1.heap.size 38 [.int .i64 1, .int .i64 7, .slice D k d] := by
    rw [← hV]
    exact (Below.heap_alloc _ _ _ (by simp)).trans (heap_alloc_new w1 _)
  have h1 : Blk V (w1.heap.size + 1) 26 [.string ⟨#[97, 108, 105, 99, 101]⟩, .string ⟨#[109, 105, 108, 108]⟩, .string ⟨#[120]⟩, .slice none 0 0] := by
    rw [← hV]
    have h := heap_alloc_new (w1.alloc (.cells #[.int .i64 1, .int .i64 7, .slice D k d] 38)) (.cells #[.string ⟨#[97, 108, 105, 99, 101]⟩, .string ⟨#[109, 105, 108, 108]⟩, .string ⟨#[120]⟩, .slice none 0 0] 26)
    rw [World.size_alloc] at h
    exact h
  rw [hV]
  have hs : SecRd V V.heap.size (some ⟨w1.heap.size + 1, 0, none⟩) 1 exS := by
    refine ⟨rfl, by omega, fun _ => ⟨w1.heap.size + 1, 0, rfl, by omega, fun i x hx => ?_⟩⟩
    match i, hx with
    | 0, hx =>
      obtain rfl : _ = x := by simpa [exS] using hx
      refine ⟨⟨by decide, by decide, by decide⟩, none, 0, 0, ⟨rfl, Nat.le_refl _, fun _ => rfl, by omega, fun h => absurd h (by omega)⟩, fun j u hu => ?_⟩
      rw [Nat.zero_add, h1.cell]
      exact hu
    | i + 1, hx => simp [exS] at hx
  refine (newServer_any ⟨#[109, 105, 108, 108]⟩ _ 1 1 V.heap.size exS V (by decide) hs (Nat.le_refl _)).mono ?_
  rintro e w3 ⟨b3, ⟨h, -⟩ | ⟨-, h, -⟩ | ⟨-, -, g, tb, hg1, hg2, rfl, hsv, -⟩⟩
  · exact absurd (ex_names.1.symm.trans h) (by decide)
  · rw [ex_chk] at h
    exact absurd rfl h
  · have z3 := b3.size
    have hp : Blk w3 w1.heap.size 38 [.int .i64 1, .int .i64 7, .slice D k d] := (b3.block _ (by omega)).trans h0
    have B13 : Below w1.heap.size w1 w3 := bV.trans (b3.mono (by omega))
    have r3 := r1.below B13
    refine ⟨g, rfl, hp, (take_any g tb ⟨#[109, 105, 108, 108]⟩ exS none 1 7 D k d w1.heap.size exL w3 hsv hg2 (by decide) r3 (by omega) hkd hnil).mono ?_⟩
    rintro e w4 ⟨g4, hj, ht⟩
    have htv : takeV ⟨#[109, 105, 108, 108]⟩ exS none 1 7 exL = some (true, alice) := by
      unfold takeV nextV
      rw [if_pos ex_rq.1, ex_rq.2.1, ex_rq.2.2]
      show some (judgeB mill exS alice _, if judgeB mill exS alice _ then alice else _) = _
      rw [ex_judge]
      rfl
    rw [htv] at hj ht
    rcases ht with ⟨h, -⟩ | ⟨-, ok, who, D4, k4, d4, he, rfl, ho⟩
    · exact absurd ex_rq.1 h
    · injection he with he
      injection he with he1 he2
      subst he1 he2
      have hgl := hsv.blk
      have z4 := g4.size
      have k4' := fun i (hi : i < w3.heap.size) (hne : i ≠ g) => g4.block i hi (by intro e; injection e with e; exact hne e)
      refine ⟨D4, k4, d4, rfl, Blk.cell (show Blk w4 w1.heap.size 38 _ from (g4.block _ (Blk.lt hp) (by intro e; injection e with e; omega)).trans hp) 2, fun W5 h5 => ?_⟩
      have z5 := h5.size
      have r5 : Rd W5 w1.heap.size D k exL := (r3.kept fun p hp => World.cell?_of_block (g4.block p.block (by omega) (by intro e; injection e with e; omega))).kept fun p hp => h5.cell (by omega)
      obtain ⟨ro, _, _⟩ := own_rd ho
      have q5 := ro.below h5
      have c1 := conv_str r5 d
      have c2 := conv_str q5 d4
      rw [ex_st] at c1
      rw [ex_st2] at c2
      obtain ⟨x, y, hs4, _, _⟩ := hj
      have hs5 := hs4.later h5
      refine ⟨c1, c2, who_any g tb _ _ _ _ _ W5 hs5, ?_⟩
      refine ⟨?_, ?_, ?_, ?_, fun i hi => ?_⟩
      · rw [h5.os, g4.os, B13.os, b1.os]
      · rw [h5.tape, g4.tape, B13.tape, b1.tape]
      · rw [h5.output, g4.output, B13.output, b1.output]
      · have := b1.size
        omega
      · have := b1.size
        rw [h5.block i (by omega), g4.block i (by omega) (by intro e; injection e with e; omega), B13.block i (by omega), b1.block i hi]
end Go.Proofs.Ytglboagjmbjehaa
