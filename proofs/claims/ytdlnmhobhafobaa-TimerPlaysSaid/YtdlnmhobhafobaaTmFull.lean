/-
  TimerFull.
-/
import Derived.Test.YtdlnmhobhafobaaTmPair
import Derived.Test.YtdlnmhobhafobaaTmAwake
namespace Go.Proofs.Ytdlnmhobhafobaa
open Go.RowKit Go.Shelf
set_option maxRecDepth 100000
set_option maxHeartbeats 4000000
set_option linter.unusedSimpArgs false
set_option linter.unusedVariables false

theorem whole_pp {w W : World} {q r : Nat} {L : Nat → Prop} (h : PP w W q r L) :
    Calls Try.prog 14 #[.pointer (some ⟨q, 0, none⟩), .pointer (some ⟨r, 0, none⟩)] W fun e W' => e = .returned (.bool true) ∧ Below W.heap.size W W' := by
  obtain ⟨xs, ys, v, u, h2, ⟨ht, -⟩, hl⟩ := h.ex
  exact whole_any h2 ht
theorem len_pp {w W : World} {q r : Nat} {L : Nat → Prop} (h : PP w W q r L) :
    Calls Try.prog 19 #[.pointer (some ⟨q, 0, none⟩)] W fun e W' => ∃ n : Nat, e = .returned (.int .i64 n) ∧ n ≤ 64 ∧ W = W' := by
  obtain ⟨xs, ys, v, u, h2, ⟨ht, -⟩, hl⟩ := h.ex
  refine (tlen_any w.heap.size q xs v W h2.a).mono ?_
  rintro e W' ⟨rfl, rfl⟩
  exact ⟨_, rfl, by rw [ht.len]; exact ht.2.2, rfl⟩
/-- a new queue beside a new one of the reference -/
theorem new_pp (w : World) : Calls Try.prog 10 #[] w fun e w1 => e = .returned (.pointer (some ⟨w.heap.size, 0, none⟩)) ∧ ∃ W, w1.alloc (.cells #[.slice none 0 0] 28) = W ∧ PP w W w.heap.size w1.heap.size (fun i => i = w.heap.size ∨ i = w1.heap.size) ∧ Below w.heap.size w W ∧ w.heap.size < w1.heap.size := by
  refine (aw_new w).mono ?_
  rintro e w1 ⟨rfl, ha⟩
  refine ⟨rfl, _, rfl, ?_⟩
  have hq := ha.qs
  have hl := Blk.lt hq.blk
  have hB : Below w1.heap.size w1 (w1.alloc (.cells #[.slice none 0 0] 28)) := (Below.refl _ _).alloc (Nat.le_refl _) _
  have hb := ha.bel.size
  have hB2 := ha.bel.trans (hB.mono hb)
  refine ⟨⟨⟨[], [], .slice none 0 0, .slice none 0 0, ⟨hq.later hB, ⟨blk_new w1 _ _, OwnR.nil _ _, by simp [Value.ownBlock]⟩, by omega, by simp [Value.ownBlock], by simp [Value.ownBlock], fun i e => by simp [Value.ownBlock] at e, Nat.le_refl _, hb, hB2⟩, ⟨Tie.nil, fun y hy => by simp at hy⟩, fun i hi => ?_⟩, fun i hi => ?_⟩, hB2, hl⟩
  · rcases hi with e | e | e | e
    · exact .inl e
    · exact .inr e
    · simp [Value.ownBlock] at e
    · simp [Value.ownBlock] at e
  · rw [World.size_alloc]
    rcases hi with e | e <;> omega
theorem timerfull_walk (first id at' : Int) (w : World) (i2 : In64 at') (i0 : In64 first) :
    Calls Try.prog 4 #[.int .i64 first, .int .i64 id, .int .i64 at'] w fun e w' => e = .returned (.bool true) ∧ Below w.heap.size w w' := by
  have N := Lib.hid (new_pp w)
  have wr1 : first.tmod 60000 < 60000 := Int.tmod_lt_of_pos first (by omega)
  have wr2 : -60000 < first.tmod 60000 := by
    have h1 := Int.tmod_lt_of_pos (-first) (b := 60000) (by omega)
    rw [Int.neg_tmod] at h1
    omega
  unfold In64 at i0
  have i01 := i0.1
  have i02 := i0.2
  clear i0
  have W2 : Hid (In64 at') := i2
  go_enter Try.func4, Try.ntmps4
  go_wp2_with (first
    | (go_at_call 10; ((with_reducible refine N.out.mono ?_); rintro e w1 ⟨rfl, W1, hW, h1, hb1, hl1⟩; have HW := Lib.hid hW; have H1 := Lib.hid h1; have HB1 := Lib.hid hb1; clear hW h1 hb1))
    | (rw [HW.out]))
  obtain ⟨t, ht⟩ : ∃ t, first.tmod 60000 = t := ⟨_, rfl⟩
  rw [ht] at wr1 wr2 ⊢
  obtain ⟨f, hf⟩ : ∃ f, (t + 60000) % 60000 = f := ⟨_, rfl⟩
  have f0 : 0 ≤ f := by omega
  have f1 : f < 60000 := by omega
  rw [hf]
  clear hf ht i2
  go_loopw [9] (fun i wr => ∃ (k : Nat), k ≤ 64 ∧ i = .int .i64 k ∧ ∃ L, Hid (PP w wr w.heap.size w1.heap.size L ∧ Below w.heap.size w wr)) (fun i _ => 64 - (intOf i).toNat)
  case atStart => exact ⟨0, by omega, rfl, _, H1.out, HB1.out⟩
  case round =>
    rename_i wr
    obtain ⟨k, hk, rfl, L, hP⟩ := hrel
    have zw := hP.out.2.size
    by_cases hlt : k < 64
    · have SS : Hid (Calls Try.prog 13 #[.pointer (some ⟨w.heap.size, 0, none⟩), .pointer (some ⟨w1.heap.size, 0, none⟩), .agg #[.int .i64 0, .int .i64 (f + k), .int .i64 ((k : Int) * 7 % 50), .int .i64 0]] wr fun e W' => e = .returned (.bool true) ∧ ∃ L, Hid (PP w W' w.heap.size w1.heap.size L ∧ Below w.heap.size w W')) := by
        refine (step_set hP.out.1 _ _ _ (by unfold In64; omega)).mono ?_
        rintro e W' ⟨rfl, sp⟩
        obtain ⟨L', h1, _⟩ := sp.pp
        exact ⟨rfl, L', h1, sp.below hP.out.2⟩
      clear hP
      go_wp2_with (go_at_call 13; ((with_reducible refine SS.out.mono ?_); rintro e W2 ⟨rfl, L2, hp2⟩))
      go_roundw
      case rel => exact ⟨k + 1, by omega, by go_num, L2, hp2⟩
      case measure => simp [intOf]; omega
    · obtain rfl : k = 64 := by omega
      have C : Hid (Calls Try.prog 13 #[.pointer (some ⟨w.heap.size, 0, none⟩), .pointer (some ⟨w1.heap.size, 0, none⟩), .agg #[.int .i64 0, .int .i64 id, .int .i64 at', .int .i64 0]] wr fun e V1 => e = .returned (.bool true) ∧
          Calls Try.prog 19 #[.pointer (some ⟨w.heap.size, 0, none⟩)] V1 fun e V2 => ∃ n : Nat, e = .returned (.int .i64 n) ∧ n ≤ 64 ∧
            Calls Try.prog 14 #[.pointer (some ⟨w.heap.size, 0, none⟩), .pointer (some ⟨w1.heap.size, 0, none⟩)] V2 fun e V3 => e = .returned (.bool true) ∧
              Calls Try.prog 13 #[.pointer (some ⟨w.heap.size, 0, none⟩), .pointer (some ⟨w1.heap.size, 0, none⟩), .agg #[.int .i64 0, .int .i64 (f + 3), .int .i64 at', .int .i64 0]] V3 fun e V4 => e = .returned (.bool true) ∧
                Calls Try.prog 14 #[.pointer (some ⟨w.heap.size, 0, none⟩), .pointer (some ⟨w1.heap.size, 0, none⟩)] V4 fun e V5 => e = .returned (.bool true) ∧
                  Calls Try.prog 18 #[] V5 fun e V6 => e = .returned (.bool true) ∧ Below w.heap.size w V6) := by
        obtain ⟨h1, b1⟩ := hP.out
        refine (step_set h1 _ _ _ W2.out).mono ?_
        rintro e V1 ⟨rfl, sp⟩
        obtain ⟨L1, p1, _⟩ := sp.pp
        have b2 := sp.below b1
        refine ⟨rfl, (len_pp p1).mono ?_⟩
        rintro e V2 ⟨n, rfl, hn, rfl⟩
        refine ⟨n, rfl, hn, (whole_pp p1).mono ?_⟩
        rintro e V3 ⟨rfl, b3⟩
        have p3 := p1.later b3
        have b3' := b2.trans (b3.mono b2.size)
        refine ⟨rfl, (step_set p3 _ _ _ W2.out).mono ?_⟩
        rintro e V4 ⟨rfl, sp⟩
        obtain ⟨L4, p4, _⟩ := sp.pp
        have b4 := sp.below b3'
        refine ⟨rfl, (whole_pp p4).mono ?_⟩
        rintro e V5 ⟨rfl, b5⟩
        have b5' := b4.trans (b5.mono b4.size)
        refine ⟨rfl, (awake_any V5).mono ?_⟩
        rintro e V6 ⟨rfl, b6⟩
        exact ⟨rfl, b5'.trans (b6.mono b5'.size)⟩
      clear hP
      go_wp2_with (first
        | (go_at_call 13; ((with_reducible refine C.out.mono ?_); rintro e V1 ⟨rfl, c1⟩; have C1 := Lib.hid c1; clear c1))
        | (go_at_call 19; ((with_reducible refine C1.out.mono ?_); rintro e V2 ⟨n, rfl, hn, c2⟩; have hn2 : (n : Int) ≤ 64 := (by omega); have C2 := Lib.hid c2; clear c2))
        | (go_at_call 14; ((with_reducible refine C2.out.mono ?_); rintro e V3 ⟨rfl, c3⟩; have C3 := Lib.hid c3; clear c3))
        | (go_at_call 13; ((with_reducible refine C3.out.mono ?_); rintro e V4 ⟨rfl, c4⟩; have C4 := Lib.hid c4; clear c4))
        | (go_at_call 14; ((with_reducible refine C4.out.mono ?_); rintro e V5 ⟨rfl, c5⟩; have C5 := Lib.hid c5; clear c5))
        | (go_at_call 18; ((with_reducible refine C5.out.mono ?_); rintro e V6 ⟨rfl, c6⟩; have C6 := Lib.hid c6; clear c6)))
      go_ret
      exact ⟨rfl, C6.out⟩
end Go.Proofs.Ytdlnmhobhafobaa
