/-
  The method Set: of a timer that is not there.
-/
import Derived.Test.YtdlnmhobhafobaaTmMeth
namespace Go.Proofs.Ytdlnmhobhafobaa
open Go.RowKit Go.Shelf
set_option maxRecDepth 100000
set_option maxHeartbeats 2000000
set_option linter.unusedSimpArgs false
set_option linter.unusedVariables false

theorem isTime_any (at' : Int) (w : World) (h1 : IntKind.i64.wrap at' = at') : Calls Try.prog 91 #[.int .i64 at'] w fun e w' => e = .returned (.bool (decide (0 ≤ at' ∧ at' ≤ 1099511627776))) ∧ w = w' := by
  by_cases a : (0 : Int) ≤ at'
  · have b : at' ≤ 1099511627776 ∨ ¬ at' ≤ 1099511627776 := Classical.em _
    rcases b with b | b
    all_goals
      have E : Hid (decide (0 ≤ at' ∧ at' ≤ 1099511627776) = decide (at' ≤ 1099511627776)) := by
        show _ = _
        simp [a]
      rw [E.out]
      go_enter Try.func91, Try.ntmps91
      go_wp2
      go_ret
      first | exact ⟨rfl, rfl⟩ | exact ⟨by simp [b], rfl⟩ | exact ⟨trivial, rfl⟩
  · have E : Hid (decide (0 ≤ at' ∧ at' ≤ 1099511627776) = false) := by
      show _ = _
      simp [a]
    rw [E.out]
    go_enter Try.func91, Try.ntmps91
    go_wp2
    go_ret
    first | exact ⟨rfl, rfl⟩ | exact ⟨trivial, rfl⟩
theorem put_come {base g : Nat} {xs : List T2} {v : Value} {w0 : World} (h : Qs w0 base g xs v) (at' : Int) (hm : xs.length ≤ 64) : ∀ W, Below w0.heap.size w0 W →
    Calls Try.prog 95 #[.pointer (some ⟨g, 0, none⟩), .int .i64 at'] W fun e w' => e = .returned (.int .i64 (cnt at' xs)) ∧ Below w0.heap.size w0 w' ∧ Below W.heap.size W w' ∧ w'.cell? ⟨g, 0, none⟩ = some v := fun W hB => by
  have hq := h.later hB
  refine (come_any base g xs v at' W hq (by omega)).mono ?_
  rintro e w' ⟨rfl, hb⟩
  exact ⟨rfl, hB.trans (hb.mono hB.size), hb, Blk.cell (show Blk w' g 92 [v] from (hb.block g (Blk.lt hq.blk)).trans hq.blk) 0⟩
theorem put_ins {base g : Nat} {xs : List T2} {v : Value} {w0 : World} (h : Qs w0 base g xs v) (hb : base ≤ w0.heap.size) (id at' : Int) (hm : xs.length ≤ 64) : ∀ W vb, Below w0.heap.size w0 W → w0.heap.size ≤ vb → Blk W vb 95 [.int .i64 id, .int .i64 at'] →
    Calls Try.prog 94 #[v, .int .i64 (cnt at' xs), .slice (some ⟨vb, 0, none⟩) 1 1] W fun e w' =>
      ∃ A n c, e = .returned (.slice A n c) ∧ w'.cell? ⟨g, 0, none⟩ = some v ∧ w'.frozen? ⟨g, 0, none⟩ = false ∧
        Hid (Qs (w'.setCell ⟨g, 0, none⟩ (.slice A n c)) base g (ins (cnt at' xs) (id, at') xs) (.slice A n c) ∧ TmF g v (.slice A n c) w0 (w'.setCell ⟨g, 0, none⟩ (.slice A n c))) := fun W vb hB hvb hx => by
  have hq := h.later hB
  have hs := hB.size
  have hgl := Blk.lt h.blk
  refine (insert_any base vb (cnt at' xs) v (id, at') xs W hq.own (by omega) (cnt_le _ _) hx (fun e => by have := (h.own.block _ e).2; omega) (by omega)).mono ?_
  rintro e w' ⟨v', rfl, ho', hg', hv'⟩
  obtain ⟨A', c', hsl, _⟩ := ho'.slice
  have hbk : Blk w' g 92 [v] := (hg'.block g (Blk.lt hq.blk) (fun e => hq.ne e.symm)).trans hq.blk
  have hgs : w'.grownBy (w'.setCell ⟨g, 0, none⟩ v') (some g) := grownBy_setCell' w' g v'
  have hne : v'.ownBlock ≠ some g := by
    rcases hv' with e | ⟨k, e, hk⟩
    · rw [e]; exact h.ne
    · rw [e]
      intro e
      injection e with e
      omega
  have hP : Qs (w'.setCell ⟨g, 0, none⟩ v') base g (ins (cnt at' xs) (id, at') xs) v' ∧ TmF g v v' w0 (w'.setCell ⟨g, 0, none⟩ v') :=
    ⟨⟨Blk.set_ hbk 0 v', ho'.grown hgs (.inr hne), hne⟩, (((TmF.refl g v w0).later hB).grownV hg' (hv'.elim .inl (fun x => .inr (.inr x)))).grownG hgs (.inl rfl)⟩
  subst hsl
  exact ⟨_, _, _, rfl, hbk.cell 0, hbk.frozen 0, hP⟩
theorem blk_at2 (w : World) (o : Obj) (t : Nat) (a b : Value) : Blk ((w.alloc o).alloc (.cells #[a, b] t)).drew (w.heap.size + 1) t [a, b] := by
  have h := blk_new (w.alloc o) t [a, b]
  rw [World.size_alloc] at h
  exact h
theorem set_put (base g : Nat) (xs : List T2) (v : Value) (id at' : Int) (w : World) (h : Qs w base g xs v) (hb : base ≤ w.heap.size) (hm : xs.length < 64) (h1 : 0 ≤ id) (h2 : id ≤ 65535) (h3 : 0 ≤ at') (h4 : at' ≤ 1099511627776) (hf : fnd id xs = none) :
    Calls Try.prog 53 #[.pointer (some ⟨g, 0, none⟩), .int .i64 id, .int .i64 at'] w fun e w' =>
      e = .returned (.int .i64 0) ∧ ∃ v', Qs w' base g (ins (cnt at' xs) (id, at') xs) v' ∧ TmF g v v' w w' := by
  have hgl := Blk.lt h.blk
  have IT := Lib.hid (fun W => isTime_any at' W (by rw [IntKind.wrap_i64]; omega))
  have hd : decide (0 ≤ at' ∧ at' ≤ 1099511627776) = true := by simp [h3, h4]
  rw [hd] at IT
  obtain ⟨A, c, hsl, hcl⟩ := h.own.slice
  obtain ⟨n, hn⟩ : ∃ n, n = xs.length := ⟨_, rfl⟩
  rw [← hn] at hsl
  subst hsl
  have FI : Hid (Calls Try.prog 92 #[.pointer (some ⟨g, 0, none⟩), .int .i64 id] w fun e w' =>
      e = .returned (.tuple #[.agg #[.int .i64 0, .int .i64 0], .bool false]) ∧ Below w.heap.size w w' ∧ w'.cell? ⟨g, 0, none⟩ = some (.slice A n c)) := by
    refine (find_any base g xs _ id w h (by omega)).mono ?_
    rintro e w' ⟨rfl, hB⟩
    rw [hf]
    exact ⟨rfl, hB, Blk.cell (show Blk w' g 92 _ from (hB.block g hgl).trans h.blk) 0⟩
  have CO := Lib.hid (put_come h at' (by omega))
  have IN := Lib.hid (put_ins h hb id at' (by omega))
  have n64 : ¬ ((n : Int) = 64) := by omega
  have h1' : ¬ (id < 0) := by omega
  have h2' : ¬ (65535 < id) := by omega
  clear h hb hm hf hd hn hcl h3 h4
  go_enter Try.func53, Try.ntmps53
  go_wp2_with (first
    | (go_at_call 91; refine (IT.out _).mono ?_; rintro e w' ⟨rfl, rfl⟩)
    | (go_at_call 92; refine FI.out.mono ?_; rintro e w' ⟨rfl, hB, hc1⟩; have hg1 : g < w'.heap.size := Nat.lt_of_lt_of_le hgl hB.size))
  have hs := hB.size
  have HB := Lib.hid hB
  go_region_law (first
    | (go_simp; go_at_call 95; refine (CO.out _ (by first | exact (HB.out.alloc HB.out.size _).drew | exact ((HB.out.alloc HB.out.size _).drew.alloc (by simp; omega) _))).mono ?_; rintro e w' ⟨rfl, hB2, hB3, hc2⟩; have hg2 : g < w'.heap.size := Nat.lt_of_lt_of_le hgl hB2.size; have HB2 := Lib.hid hB2; have HB3 := Lib.hid hB3; clear hB2 hB3)
    | (go_simp; go_at_call 94; refine (IN.out _ _ (by first | exact HB2.out | exact HB2.out.alloc HB2.out.size _) (by first | exact HB2.out.size | omega | (simp; omega)) (by first | exact blk_new _ _ [_, _] | exact (HB3.out.block _ (by simp)).trans (blk_at2 _ _ _ _ _))).mono ?_; rintro e w' ⟨A', n', c', rfl, hc3, hf3, hP⟩))
  all_goals go_wp2
  all_goals go_ret
  all_goals exact ⟨rfl, _, hP.out⟩
end Go.Proofs.Ytdlnmhobhafobaa
