/-
  The method Set: of a timer that is there, where there are too many, of what is no timer, at nil.
-/
import Derived.Test.YtdlnmhobhafobaaTmSet
namespace Go.Proofs.Ytdlnmhobhafobaa
open Go.RowKit Go.Shelf
set_option maxRecDepth 100000
set_option maxHeartbeats 2000000
set_option linter.unusedSimpArgs false
set_option linter.unusedVariables false

theorem set_drop {base g : Nat} {xs : List T2} {v : Value} {w : World} (h : Qs w base g xs v) (hb : base ≤ w.heap.size) (t : T2) (id at' : Int) (hm : xs.length ≤ 64) : ∀ W, Below w.heap.size w W →
    Calls Try.prog 93 #[.pointer (some ⟨g, 0, none⟩), .agg #[.int .i64 t.1, .int .i64 t.2]] W fun e w' =>
      e = .returned (.tuple #[]) ∧ ∃ A n c, w'.cell? ⟨g, 0, none⟩ = some (.slice A n c) ∧ g < w'.heap.size ∧
        Hid (∀ W, Below w'.heap.size w' W →
          Calls Try.prog 95 #[.pointer (some ⟨g, 0, none⟩), .int .i64 at'] W fun e w2 => e = .returned (.int .i64 (cnt at' (without t xs))) ∧ Below w'.heap.size w' w2 ∧ Below W.heap.size W w2 ∧ w2.cell? ⟨g, 0, none⟩ = some (.slice A n c)) ∧
        Hid (∀ W vb, Below w'.heap.size w' W → w'.heap.size ≤ vb → Blk W vb 95 [.int .i64 id, .int .i64 at'] →
          Calls Try.prog 94 #[.slice A n c, .int .i64 (cnt at' (without t xs)), .slice (some ⟨vb, 0, none⟩) 1 1] W fun e w2 =>
            ∃ A2 n2 c2, e = .returned (.slice A2 n2 c2) ∧ w2.cell? ⟨g, 0, none⟩ = some (.slice A n c) ∧ w2.frozen? ⟨g, 0, none⟩ = false ∧
              Hid (Qs (w2.setCell ⟨g, 0, none⟩ (.slice A2 n2 c2)) base g (ins (cnt at' (without t xs)) (id, at') (without t xs)) (.slice A2 n2 c2) ∧ TmF g v (.slice A2 n2 c2) w (w2.setCell ⟨g, 0, none⟩ (.slice A2 n2 c2)))) := fun W hB => by
  refine (drop_any base g xs v t W (h.later hB) (by omega)).mono ?_
  rintro e w' ⟨rfl, v', hq, hf⟩
  have hs := hB.size
  have hs2 := hf.size
  have hl := without_le t xs
  have hT : TmF g v v' w w' := ((TmF.refl g v w).later hB).trans hf
  obtain ⟨A, c, hsl, _⟩ := hq.own.slice
  subst hsl
  refine ⟨rfl, A, _, c, hq.blk.cell 0, Blk.lt hq.blk, put_come hq at' (by omega), fun W vb h1 h2 h3 => ?_⟩
  refine (put_ins hq (by omega) id at' (by omega) W vb h1 h2 h3).mono ?_
  rintro e w2 ⟨A2, n2, c2, rfl, h4, h5, h6⟩
  exact ⟨A2, n2, c2, rfl, h4, h5, h6.out.1, hT.trans h6.out.2⟩
theorem set_again (base g : Nat) (xs : List T2) (v : Value) (id at' : Int) (t : T2) (w : World) (h : Qs w base g xs v) (hb : base ≤ w.heap.size) (hm : xs.length ≤ 64) (h1 : 0 ≤ id) (h2 : id ≤ 65535) (h3 : 0 ≤ at') (h4 : at' ≤ 1099511627776) (hf : fnd id xs = some t) :
    Calls Try.prog 53 #[.pointer (some ⟨g, 0, none⟩), .int .i64 id, .int .i64 at'] w fun e w' =>
      e = .returned (.int .i64 0) ∧ ∃ v', Qs w' base g (ins (cnt at' (without t xs)) (id, at') (without t xs)) v' ∧ TmF g v v' w w' := by
  have hgl := Blk.lt h.blk
  have IT := Lib.hid (fun W => isTime_any at' W (by rw [IntKind.wrap_i64]; omega))
  have hd : decide (0 ≤ at' ∧ at' ≤ 1099511627776) = true := by simp [h3, h4]
  rw [hd] at IT
  have FI : Hid (Calls Try.prog 92 #[.pointer (some ⟨g, 0, none⟩), .int .i64 id] w fun e w' =>
      e = .returned (.tuple #[.agg #[.int .i64 t.1, .int .i64 t.2], .bool true]) ∧ Below w.heap.size w w') := by
    refine (find_any base g xs _ id w h (by omega)).mono ?_
    rintro e w' ⟨rfl, hB⟩
    rw [hf]
    exact ⟨rfl, hB⟩
  have DR := Lib.hid (set_drop h hb t id at' hm)
  have h1' : ¬ (id < 0) := by omega
  have h2' : ¬ (65535 < id) := by omega
  obtain ⟨ys, hys⟩ : ∃ ys, ys = without t xs := ⟨_, rfl⟩
  rw [← hys] at DR ⊢
  clear h hb hm hf hd h3 h4 hys
  go_enter Try.func53, Try.ntmps53
  go_wp2_with (first
    | (go_at_call 91; refine (IT.out _).mono ?_; rintro e w' ⟨rfl, rfl⟩)
    | (go_at_call 92; refine FI.out.mono ?_; rintro e w1 ⟨rfl, hB1⟩; have HB1 := Lib.hid hB1; clear hB1)
    | (go_at_call 93; refine (DR.out _ (HB1.out.alloc HB1.out.size _)).mono ?_; rintro e w2 ⟨rfl, A, n, c, hc1, hg1, CO, IN⟩))
  go_region_law (first
    | (go_simp; go_at_call 95; refine (CO.out _ (by first | exact (Below.refl _ _).drew | exact ((Below.refl _ _).drew.alloc (Nat.le_refl _) _))).mono ?_; rintro e w' ⟨rfl, hB2, hB3, hc2⟩; have hg2 : g < w'.heap.size := Nat.lt_of_lt_of_le hg1 hB2.size; have HB2 := Lib.hid hB2; have HB3 := Lib.hid hB3; clear hB2 hB3)
    | (go_simp; go_at_call 94; refine (IN.out _ _ (by first | exact HB2.out | exact HB2.out.alloc HB2.out.size _) (by first | exact HB2.out.size | omega | (simp; omega)) (by first | exact blk_new _ _ [_, _] | exact (HB3.out.block _ (by simp)).trans (blk_new _ _ [_, _]))).mono ?_; rintro e w' ⟨A', n', c', rfl, hc3, hf3, hP⟩))
  all_goals go_wp2
  all_goals go_ret
  all_goals exact ⟨rfl, _, hP.out⟩
end Go.Proofs.Ytdlnmhobhafobaa
