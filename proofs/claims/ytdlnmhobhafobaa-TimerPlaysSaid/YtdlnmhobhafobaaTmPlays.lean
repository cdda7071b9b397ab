/-
  TimerPlays.
-/
import Derived.Test.YtdlnmhobhafobaaTmStepD
import Derived.Test.YtdlnmhobhafobaaTmFull
import Derived.Test.YtdlnmhobhafobaaTmOps
namespace Go.Proofs.Ytdlnmhobhafobaa
open Go.RowKit Go.Shelf
set_option maxRecDepth 100000
set_option maxHeartbeats 4000000
set_option linter.unusedSimpArgs false
set_option linter.unusedVariables false

/-- both pairs, apart, and apart of N; the second one is there or not -/
def StP (N : Nat → Prop) (w wr : World) (q r : Nat) (cv dv : Option Addr) : Prop :=
  ∃ L, PP w wr q r L ∧ Below w.heap.size w wr ∧ (∀ i, N i → ¬ L i ∧ i < wr.heap.size) ∧ (cv = none ∨ ∃ c0 d0 M, cv = some ⟨c0, 0, none⟩ ∧ dv = some ⟨d0, 0, none⟩ ∧ PP w wr c0 d0 M ∧ (∀ i, L i → ¬ M i) ∧ ∀ i, N i → ¬ M i)
theorem StP.later {N : Nat → Prop} {w W W' : World} {q r : Nat} {cv dv : Option Addr} (h : StP N w W q r cv dv) (hB : Below W.heap.size W W') : StP N w W' q r cv dv := by
  obtain ⟨L, h1, h2, hN, h3⟩ := h
  refine ⟨L, h1.later hB, h2.trans (hB.mono h2.size), fun i hi => ⟨(hN i hi).1, Nat.lt_of_lt_of_le (hN i hi).2 hB.size⟩, h3.imp id ?_⟩
  rintro ⟨c0, d0, M, e1, e2, h4, h5⟩
  exact ⟨c0, d0, M, e1, e2, h4.later hB, h5⟩
/-- what lies behind is apart of it -/
theorem StP.box {w W W' : World} {q r : Nat} {cv dv : Option Addr} (h : StP (fun _ => False) w W q r cv dv) (hB : Below W.heap.size W W') (hs : W.heap.size < W'.heap.size) : StP (fun i => i = W.heap.size) w W' q r cv dv := by
  obtain ⟨L, h1, h2, hN, h3⟩ := h
  refine ⟨L, h1.later hB, h2.trans (hB.mono h2.size), fun i hi => ⟨fun hl => by have := h1.lt i hl; omega, by omega⟩, h3.imp id ?_⟩
  rintro ⟨c0, d0, M, e1, e2, h4, h5, _⟩
  exact ⟨c0, d0, M, e1, e2, h4.later hB, h5, fun i hi hm => by have := h4.lt i hm; omega⟩
theorem StP.none {N : Nat → Prop} {w W : World} {q r : Nat} {cv dv : Option Addr} (h : StP N w W q r cv dv) : StP (fun _ => False) w W q r cv dv := by
  obtain ⟨L, h1, h2, hN, h3⟩ := h
  refine ⟨L, h1, h2, fun i hi => hi.elim, h3.imp id ?_⟩
  rintro ⟨c0, d0, M, e1, e2, h4, h5, _⟩
  exact ⟨c0, d0, M, e1, e2, h4, h5, fun i hi => hi.elim⟩
theorem StP.sp {w W W' : World} {q r c0 d0 : Nat} {L M : Nat → Prop} (hq : PP w W q r L) (h2 : Below w.heap.size w W) (hc : PP w W c0 d0 M) (hd : ∀ i, L i → ¬ M i) (s : SP w W q r L W') : ∃ L', PP w W' q r L' ∧ Below w.heap.size w W' ∧ PP w W' c0 d0 M ∧ (∀ i, L' i → ¬ M i) ∧ ∀ i, L' i → L i ∨ W.heap.size ≤ i := by
  obtain ⟨L', p1, p2⟩ := s.pp
  have hB := s.below h2
  refine ⟨L', p1, hB, hc.keep s.size (fun i hi => s.block i (hc.lt i hi) (fun h => hd i h hi)) hB, fun i hi hm => ?_, p2⟩
  rcases p2 i hi with h | h
  · exact hd i h hm
  · have := hc.lt i hm; omega
theorem stp_step {N : Nat → Prop} {w W : World} {q r : Nat} {cv dv : Option Addr} (h : StP N w W q r cv dv) (k z1 z2 z3 : Int) (i2 : In64 z2) :
    Calls Try.prog 13 #[.pointer (some ⟨q, 0, none⟩), .pointer (some ⟨r, 0, none⟩), .agg #[.int .i64 k, .int .i64 z1, .int .i64 z2, .int .i64 z3]] W fun e W' => e = .returned (.bool true) ∧ StP N w W' q r cv dv ∧ ∀ i, N i → W'.heap[i]? = W.heap[i]? := by
  obtain ⟨L, h1, h2, hN, h3⟩ := h
  refine (step_any h1 k z1 z2 z3 i2).mono ?_
  rintro e W' ⟨rfl, s⟩
  refine ⟨rfl, ?_, fun i hi => s.block i (hN i hi).2 (hN i hi).1⟩
  have hz := s.size
  rcases h3 with e | ⟨c0, d0, M, e1, e2, h4, h5, h6⟩
  · obtain ⟨L', p1, p2⟩ := s.pp
    refine ⟨L', p1, s.below h2, fun i hi => ⟨fun hl => ?_, by have := (hN i hi).2; omega⟩, .inl e⟩
    rcases p2 i hl with h | h
    · exact (hN i hi).1 h
    · have := (hN i hi).2; omega
  · obtain ⟨L', p1, p2, p3, p4, p5⟩ := StP.sp h1 h2 h4 h5 s
    refine ⟨L', p1, p2, fun i hi => ⟨fun hl => ?_, by have := (hN i hi).2; omega⟩, .inr ⟨c0, d0, M, e1, e2, p3, p4, h6⟩⟩
    rcases p5 i hl with h | h
    · exact (hN i hi).1 h
    · have := (hN i hi).2; omega
theorem stp_step2 {N : Nat → Prop} {w W : World} {q r c0 d0 : Nat} (h : StP N w W q r (some ⟨c0, 0, none⟩) (some ⟨d0, 0, none⟩)) (k z1 z2 z3 : Int) (i2 : In64 z2) :
    Calls Try.prog 13 #[.pointer (some ⟨c0, 0, none⟩), .pointer (some ⟨d0, 0, none⟩), .agg #[.int .i64 k, .int .i64 z1, .int .i64 z2, .int .i64 z3]] W fun e W' => e = .returned (.bool true) ∧ StP N w W' q r (some ⟨c0, 0, none⟩) (some ⟨d0, 0, none⟩) := by
  obtain ⟨L, h1, h2, hN, h3⟩ := h
  rcases h3 with e | ⟨c1, d1, M, e1, e2, h4, h5, h6⟩
  · cases e
  injection e1 with e1
  injection e2 with e2
  injection e1 with e1
  injection e2 with e2
  subst e1; subst e2
  refine (step_any h4 k z1 z2 z3 i2).mono ?_
  rintro e W' ⟨rfl, s⟩
  have hz := s.size
  obtain ⟨M', p1, p2, p3, p4, p5⟩ := StP.sp h4 h2 h1 (fun i hm hl => h5 i hl hm) s
  refine ⟨rfl, L, p3, p2, fun i hi => ⟨(hN i hi).1, by have := (hN i hi).2; omega⟩, .inr ⟨c0, d0, M', rfl, rfl, p1, fun i hl hm => p4 i hm hl, fun i hi hm => ?_⟩⟩
  rcases p5 i hm with h | h
  · exact h6 i hi h
  · have := (hN i hi).2; omega
theorem stp_whole {N : Nat → Prop} {w W : World} {q r : Nat} {cv dv : Option Addr} (h : StP N w W q r cv dv) :
    Calls Try.prog 14 #[.pointer (some ⟨q, 0, none⟩), .pointer (some ⟨r, 0, none⟩)] W fun e W' => e = .returned (.bool true) ∧ StP N w W' q r cv dv ∧ ∀ i, N i → W'.heap[i]? = W.heap[i]? := by
  have h0 := h
  obtain ⟨L, h1, h2, hN, h3⟩ := h
  refine (whole_pp h1).mono ?_
  rintro e W' ⟨rfl, hB⟩
  exact ⟨rfl, h0.later hB, fun i hi => hB.block i (hN i hi).2⟩
theorem stp_whole2 {N : Nat → Prop} {w W : World} {q r c0 d0 : Nat} (h : StP N w W q r (some ⟨c0, 0, none⟩) (some ⟨d0, 0, none⟩)) :
    Calls Try.prog 14 #[.pointer (some ⟨c0, 0, none⟩), .pointer (some ⟨d0, 0, none⟩)] W fun e W' => e = .returned (.bool true) ∧ StP N w W' q r (some ⟨c0, 0, none⟩) (some ⟨d0, 0, none⟩) := by
  have h0 := h
  obtain ⟨L, h1, h2, hN, h3⟩ := h
  rcases h3 with e | ⟨c1, d1, M, e1, e2, h4, h5, h6⟩
  · cases e
  injection e1 with e1
  injection e2 with e2
  injection e1 with e1
  injection e2 with e2
  subst e1; subst e2
  refine (whole_pp h4).mono ?_
  rintro e W' ⟨rfl, hB⟩
  exact ⟨rfl, h0.later hB⟩
/-- a copy of both -/
theorem stp_copy {N : Nat → Prop} {w W : World} {q r : Nat} {cv dv : Option Addr} (h : StP N w W q r cv dv) :
    Calls Try.prog 11 #[.pointer (some ⟨q, 0, none⟩)] W fun e W1 => ∃ c0, e = .returned (.pointer (some ⟨c0, 0, none⟩)) ∧ W.heap.size ≤ W1.heap.size ∧
      Calls Try.prog 12 #[.pointer (some ⟨r, 0, none⟩)] W1 fun e W2 => ∃ d0, e = .returned (.pointer (some ⟨d0, 0, none⟩)) ∧ StP N w W2 q r (some ⟨c0, 0, none⟩) (some ⟨d0, 0, none⟩) ∧ W.heap.size ≤ W2.heap.size ∧ Below W.heap.size W W2 := by
  obtain ⟨L, h1, h2, hN, h3⟩ := h
  obtain ⟨xs, ys, v, u, t, ⟨ht, hok⟩, hl⟩ := h1.ex
  have hx64 : xs.length ≤ 64 := by rw [ht.len]; exact ht.2.2
  have hw := h2.size
  refine (tcopy_any w.heap.size q xs v W t.a hx64).mono ?_
  rintro e W1 ⟨c0, v', rfl, hq, hc0, hB1⟩
  have z1 := hB1.size
  have t1 := t.later hB1
  refine ⟨c0, rfl, hB1.size, (rtmcopy_any w.heap.size r ys u W1 t1.b (by have := ht.2.2; omega)).mono ?_⟩
  rintro e W2 ⟨rfl, u', hr, hB2⟩
  have z2 := hB2.size
  have hB : Below W.heap.size W W2 := hB1.trans (hB2.mono z1)
  have hq2 := hq.later hB2
  have hvb := hq.own.block
  have hub := hr.own.block
  have hcl := Blk.lt hq.blk
  have wide : ∀ {b b' : Nat}, b' ≤ b → ∀ {g xs v W}, Qs W b g xs v → Qs W b' g xs v := fun hb _ _ _ _ h => ⟨h.blk, h.own.wide hb, h.ne⟩
  have wider : ∀ {b b' : Nat}, b' ≤ b → ∀ {g xs v W}, Rq W b g xs v → Rq W b' g xs v := fun hb _ _ _ _ h => ⟨h.blk, h.own.wide hb, h.ne⟩
  have tn : Two w W2 c0 W1.heap.size xs ys v' u' := ⟨wide hw hq2, wider (by omega) hr, by omega, fun e => by have := (hvb _ e).2; omega, fun e => by have := (hub _ e).1; omega, fun i e e2 => by have := (hub i e).1; have := (hvb i e2).2; omega, by omega, by omega, h2.trans (hB.mono hw)⟩
  refine ⟨_, rfl, ⟨L, h1.later hB, h2.trans (hB.mono hw), fun i hi => ⟨(hN i hi).1, by have := (hN i hi).2; omega⟩, .inr ⟨c0, W1.heap.size, fun i => i = c0 ∨ i = W1.heap.size ∨ v'.ownBlock = some i ∨ u'.ownBlock = some i, rfl, rfl, ⟨⟨xs, ys, v', u', tn, ⟨ht, hok⟩, fun i hi => hi⟩, fun i hi => ?_⟩, fun i hi hm => ?_, fun i hi hm => ?_⟩⟩, by omega, hB⟩
  · rcases hi with e | e | e | e
    · rw [e]; exact Blk.lt tn.a.blk
    · rw [e]; exact Blk.lt tn.b.blk
    · exact (tn.a.own.block i e).2
    · exact (tn.b.own.block i e).2
  · have := h1.lt i hi
    rcases hm with e | e | e | e
    · omega
    · omega
    · have := (hvb i e).1; omega
    · have := (hub i e).1; omega
  · have := (hN i hi).2
    rcases hm with e | e | e | e
    · omega
    · omega
    · have := (hvb i e).1; omega
    · have := (hub i e).1; omega
theorem OwnR.take {w : World} {base g n cap : Nat} {xs : List T2} (h : OwnR w base (.slice (some ⟨g, 0, none⟩) n cap) xs) (k : Nat) (hk : k ≤ xs.length) : OwnR w base (.slice (some ⟨g, 0, none⟩) k cap) (xs.take k) := by
  have hl : (xs.take k).length = k := by rw [List.length_take]; omega
  rcases h.2 with ⟨e, h0⟩ | ⟨g', cap', cur, e, hb, hg, h1, h2, h3, h4⟩
  · cases e
  · injection e with e1 e2 e3
    injection e1 with e1
    injection e1 with e1
    subst e1; subst e3
    refine ⟨by rw [flat_length, hl]; omega, .inr ⟨g, cap, cur, by rw [hl], hb, hg, by omega, h2, h3, ?_⟩⟩
    rw [hl, ← flat_take, ← h4, List.take_take]
    congr 1
    omega
/-- what is told behind the loop -/
theorem stp_end {N : Nat → Prop} {w W : World} {q r : Nat} {cv dv : Option Addr} (h : StP N w W q r cv dv) :
    ∃ n, n ≤ 64 ∧ Calls Try.prog 15 #[.pointer (some ⟨r, 0, none⟩)] W fun e W1 => ∃ A c, e = .returned (.slice A n c) ∧ (1 < n → ∃ g, A = some ⟨g, 0, none⟩ ∧ 1 ≤ c) ∧
      ∀ m, (m = if 1 < n then 1 else n) → Calls Try.prog 17 #[.pointer (some ⟨q, 0, none⟩), .int .i64 1] W1 fun e W2 => ∃ D k d, e = .returned (.slice D k d) ∧
        Calls Try.prog 16 #[.slice D k d, .slice A m c] W2 fun e W3 => e = .returned (.bool true) ∧
          Calls Try.prog 18 #[] W3 fun e W4 => e = .returned (.bool true) ∧ Below w.heap.size w W4 := by
  obtain ⟨L, h1, h2, hN, h3⟩ := h
  obtain ⟨xs, ys, v, u, t, ⟨ht, hok⟩, hl⟩ := h1.ex
  have hx64 : xs.length ≤ 64 := by rw [ht.len]; exact ht.2.2
  have hw := h2.size
  refine ⟨xs.length, hx64, (rtmall_any w.heap.size r ys u W t.b ht.2.2).mono ?_⟩
  rintro e W1 ⟨A, n, c, rfl, ho, hB1⟩
  rw [← ht.1] at ho
  have z1 := hB1.size
  have t1 := t.later hB1
  have B1 := h2.trans (hB1.mono hw)
  have hn : n = xs.length ∧ n ≤ c := by
    obtain ⟨A', c', e, hc⟩ := ho.slice
    injection e with e1 e2 e3
    subst e3
    exact ⟨e2, by omega⟩
  obtain ⟨hn1, hn2⟩ := hn
  refine ⟨A, c, by rw [hn1], fun h0 => ?_, fun m hm => (every_any w.heap.size q xs v 1 W1 t1.a (by omega) (by omega) (by omega)).mono ?_⟩
  · obtain ⟨g, c', e, _⟩ := ownR_shape ho (by omega)
    injection e with e1 e2 e3
    exact ⟨g, e1, by omega⟩
  · rintro e W2 ⟨D, rfl, hD, hB2⟩
    have z2 := hB2.size
    have B2 := B1.trans (hB2.mono B1.size)
    rw [← hn1] at hm
    have hm2 : OwnR W2 W.heap.size (.slice A m c) (xs.take 1) := by
      by_cases h0 : 1 < n
      · rw [if_pos h0] at hm
        subst hm
        obtain ⟨g, c', e, _⟩ := ownR_shape ho (by omega)
        injection e with e1 e2 e3
        subst e1
        exact (ho.later hB2).take 1 (by omega)
      · rw [if_neg h0] at hm
        subst hm
        rw [List.take_of_length_le (by omega)]
        exact ho.later hB2
    obtain ⟨D', d, rfl, _⟩ := hD.slice
    refine ⟨D', _, d, rfl, (alike_yes _ _ (xs.take 1) _ _ W2 hD hm2 (by rw [List.length_take]; omega)).mono ?_⟩
    rintro e W3 ⟨rfl, hB3⟩
    have B3 := B2.trans (hB3.mono B2.size)
    refine ⟨rfl, (awake_any W3).mono ?_⟩
    rintro e W4 ⟨rfl, hB4⟩
    exact ⟨rfl, B3.trans (hB4.mono B3.size)⟩
def TailC (w W : World) (q r : Nat) (A : Option Addr) (m c : Nat) : Prop :=
  Calls Try.prog 17 #[.pointer (some ⟨q, 0, none⟩), .int .i64 1] W fun e W2 => ∃ D k d, e = .returned (.slice D k d) ∧
        Calls Try.prog 16 #[.slice D k d, .slice A m c] W2 fun e W3 => e = .returned (.bool true) ∧
          Calls Try.prog 18 #[] W3 fun e W4 => e = .returned (.bool true) ∧ Below w.heap.size w W4
theorem stp_tail {N : Nat → Prop} {w W : World} {q r : Nat} {cv dv : Option Addr} (h : StP N w W q r cv dv) :
    ∃ n : Nat, (¬ 1 < n ∧ Calls Try.prog 15 #[.pointer (some ⟨r, 0, none⟩)] W fun e W1 => ∃ A c, e = .returned (.slice A n c) ∧ TailC w W1 q r A n c) ∨
      (1 < n ∧ n ≤ 64 ∧ Calls Try.prog 15 #[.pointer (some ⟨r, 0, none⟩)] W fun e W1 => ∃ g c, e = .returned (.slice (some ⟨g, 0, none⟩) n c) ∧ 1 ≤ c ∧ TailC w W1 q r (some ⟨g, 0, none⟩) 1 c) := by
  obtain ⟨n, hn, C⟩ := stp_end h
  refine ⟨n, ?_⟩
  by_cases h1 : 1 < n
  · refine .inr ⟨h1, hn, C.mono ?_⟩
    rintro e W1 ⟨A, c, rfl, h2, h3⟩
    obtain ⟨g, rfl, hc⟩ := h2 h1
    exact ⟨g, c, rfl, hc, h3 1 (by rw [if_pos h1])⟩
  · refine .inl ⟨h1, C.mono ?_⟩
    rintro e W1 ⟨A, c, rfl, h2, h3⟩
    exact ⟨A, c, rfl, h3 n (by rw [if_neg h1])⟩
end Go.Proofs.Ytdlnmhobhafobaa
