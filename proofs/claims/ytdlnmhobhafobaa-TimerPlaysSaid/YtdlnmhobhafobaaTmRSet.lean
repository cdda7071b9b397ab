/-
  The reference's queue: Set.
-/
import Derived.Test.YtdlnmhobhafobaaTmROut
import Derived.Test.YtdlnmhobhafobaaTmSetB
namespace Go.Proofs.Ytdlnmhobhafobaa
open Go.RowKit Go.Shelf
set_option maxRecDepth 100000
set_option maxHeartbeats 2000000
set_option linter.unusedSimpArgs false
set_option linter.unusedVariables false

theorem rtime_any (at' : Int) (w : World) (h1 : IntKind.i64.wrap at' = at') : Calls Try.prog 96 #[.int .i64 at'] w fun e w' => e = .returned (.bool (decide (0 ≤ at' ∧ at' ≤ 1099511627776))) ∧ w = w' := by
  by_cases a : (0 : Int) ≤ at'
  · have b : at' ≤ 1099511627776 ∨ ¬ at' ≤ 1099511627776 := Classical.em _
    rcases b with b | b
    all_goals
      have E : Hid (decide (0 ≤ at' ∧ at' ≤ 1099511627776) = decide (at' ≤ 1099511627776)) := by
        show _ = _
        simp [a]
      rw [E.out]
      go_enter Try.func96, Try.ntmps96
      go_wp2
      go_ret
      first | exact ⟨rfl, rfl⟩ | exact ⟨by simp [b], rfl⟩ | exact ⟨trivial, rfl⟩
  · have E : Hid (decide (0 ≤ at' ∧ at' ≤ 1099511627776) = false) := by
      show _ = _
      simp [a]
    rw [E.out]
    go_enter Try.func96, Try.ntmps96
    go_wp2
    go_ret
    first | exact ⟨rfl, rfl⟩ | exact ⟨trivial, rfl⟩
theorem rput {V : World} {base g : Nat} {ys : List T2} {v : Value} (h : Rq V base g ys v) (hb : base ≤ V.heap.size) (x : T2) (hm : ys.length ≤ 100) :
    ∃ A n c w', (Builtin.append_ #[26, 26] 26 #[v, .slice (some ⟨V.heap.size, 0, none⟩) 1 1]).run Try.prog (V.alloc (.cells #[.int .i64 x.1, .int .i64 x.2] 108)) = .ok (.slice A n c) w' ∧
      w'.cell? ⟨g, 0, none⟩ = some v ∧ w'.frozen? ⟨g, 0, none⟩ = false ∧ Rq (w'.setCell ⟨g, 0, none⟩ (.slice A n c)) base g (ys ++ [x]) (.slice A n c) ∧ TmF g v (.slice A n c) V (w'.setCell ⟨g, 0, none⟩ (.slice A n c)) := by
  have hB : Below V.heap.size V (V.alloc (.cells #[.int .i64 x.1, .int .i64 x.2] 108)) := (Below.refl _ _).alloc (Nat.le_refl _) _
  have hq := h.later hB
  have hnew : Blk (V.alloc (.cells #[.int .i64 x.1, .int .i64 x.2] 108)) V.heap.size 108 [.int .i64 x.1, .int .i64 x.2] := blk_new V _ _
  have hsz : (V.alloc (.cells #[.int .i64 x.1, .int .i64 x.2] 108)).heap.size = V.heap.size + 1 := by simp
  obtain ⟨v', w', hrun, ho', hg', hv'⟩ := appR_at hq.own V.heap.size 0 1 1 [x] rfl (fun j u hj => by
    rw [Nat.zero_add]
    match j, hj with
    | 0, hj => rw [show u = .int .i64 x.1 from by simpa [cellsT] using hj.symm]; exact hnew.cell 0
    | 1, hj => rw [show u = .int .i64 x.2 from by simpa [cellsT] using hj.symm]; exact hnew.cell 1
    | j + 2, hj => simp [cellsT] at hj) (by omega) (by omega)
  obtain ⟨A, c, hsl, _⟩ := ho'.slice
  have hbk : Blk w' g 28 [v] := (hg'.block g (Blk.lt hq.blk) (fun e => hq.ne e.symm)).trans hq.blk
  have hgs : w'.grownBy (w'.setCell ⟨g, 0, none⟩ v') (some g) := grownBy_setCell' w' g v'
  have hgl := Blk.lt h.blk
  have hv2 : v'.ownBlock = v.ownBlock ∨ ∃ k, v'.ownBlock = some k ∧ V.heap.size + 1 ≤ k := by
    rcases hv' with e | e
    · exact .inl e
    · exact .inr ⟨_, e, by omega⟩
  have hne : v'.ownBlock ≠ some g := by
    rcases hv2 with e | ⟨k, e, hk⟩
    · rw [e]; exact h.ne
    · rw [e]
      intro e
      injection e with e
      omega
  have hP : Rq (w'.setCell ⟨g, 0, none⟩ v') base g (ys ++ [x]) v' ∧ TmF g v v' V (w'.setCell ⟨g, 0, none⟩ v') :=
    ⟨⟨Blk.set_ hbk 0 v', ho'.grown hgs (.inr hne), hne⟩, (((TmF.refl g v V).later hB).grownV hg' (hv2.elim .inl (fun ⟨k, e, hk⟩ => .inr (.inr ⟨k, e, by omega⟩)))).grownG hgs (.inl rfl)⟩
  subst hsl
  exact ⟨A, _, c, w', hrun, hbk.cell 0, hbk.frozen 0, hP⟩
open Classical in
/-- what the reference's Set answers, and what it leaves -/
noncomputable def rsetQ (id at' : Int) (ys : List T2) : Int × List T2 :=
  if okT id at' then if rf id ys < 0 then if 64 ≤ ys.length then (7, ys) else (0, ys ++ [(id, at')]) else (0, ys.eraseIdx (rf id ys).toNat ++ [(id, at')]) else (1, ys)
theorem rf_lt {id : Int} {ys : List T2} (h : ¬ rf id ys < 0) : ∃ k : Nat, rf id ys = k ∧ k < ys.length := by
  unfold rf at h ⊢
  split at h
  · rename_i h2
    exact ⟨ix id ys, by rw [if_pos h2], h2⟩
  · omega
theorem rset_bad (g : Nat) (id at' : Int) (w : World) (hw : IntKind.i64.wrap at' = at') (h : ¬ okT id at') :
    Calls Try.prog 54 #[.pointer (some ⟨g, 0, none⟩), .int .i64 id, .int .i64 at'] w fun e w' => e = .returned (.int .i64 1) ∧ w = w' := by
  by_cases h1 : id < 0
  · clear h
    go_enter Try.func54, Try.ntmps54
    go_wp2
    go_ret
    exact ⟨rfl, rfl⟩
  · by_cases h2 : 65535 < id
    · clear h
      go_enter Try.func54, Try.ntmps54
      go_wp2
      go_ret
      exact ⟨rfl, rfl⟩
    · have hd : decide (0 ≤ at' ∧ at' ≤ 1099511627776) = false := by
        rw [decide_eq_false_iff_not]
        intro h3
        exact h ⟨by omega, by omega, h3.1, h3.2⟩
      have IT := Lib.hid (rtime_any at' w hw)
      rw [hd] at IT
      clear h hd
      go_enter Try.func54, Try.ntmps54
      go_wp2_with (go_at_call 96; ((with_reducible refine IT.out.mono ?_); rintro e w1 ⟨rfl, rfl⟩))
      go_ret
      exact ⟨rfl, rfl⟩
theorem rset_any (base g : Nat) (ys : List T2) (v : Value) (id at' : Int) (w : World) (h : Rq w base g ys v) (hb : base ≤ w.heap.size) (hm : ys.length ≤ 64) (hw : IntKind.i64.wrap at' = at') :
    Calls Try.prog 54 #[.pointer (some ⟨g, 0, none⟩), .int .i64 id, .int .i64 at'] w fun e w' =>
      e = .returned (.int .i64 (rsetQ id at' ys).1) ∧ ∃ v', Rq w' base g (rsetQ id at' ys).2 v' ∧ TmF g v v' w w' := by
  by_cases ho : okT id at'
  · obtain ⟨h1, h2, h3, h4⟩ := ho
    have IT := Lib.hid (rtime_any at' w hw)
    rw [decide_eq_true (And.intro h3 h4)] at IT
    obtain ⟨n, hn⟩ : ∃ n, ys.length = n := ⟨_, rfl⟩
    by_cases hk : rf id ys < 0
    · have hf := rtmfind_any base g ys v id w h (by omega)
      by_cases h64 : 64 ≤ n
      · have e : rsetQ id at' ys = (7, ys) := by
          unfold rsetQ
          rw [if_pos ⟨h1, h2, h3, h4⟩, if_pos hk, if_pos (by omega)]
        rw [e]
        have N : Hid (Calls Try.prog 97 #[.pointer (some ⟨g, 0, none⟩), .int .i64 id] w fun e w' => e = .returned (.int .i64 (-1)) ∧ (∃ A c, w'.cell? ⟨g, 0, none⟩ = some (.slice A n c)) ∧ Rq w' base g ys v ∧ TmF g v v w w') := by
          refine hf.mono ?_
          rintro e w1 ⟨rfl, hB⟩
          have hq := h.later hB
          obtain ⟨A, c, hsl, _⟩ := hq.own.slice
          refine ⟨?_, ⟨A, c, ?_⟩, hq, (TmF.refl g v w).later hB⟩
          · unfold rf at hk ⊢
            split
            · rename_i h5; rw [if_pos h5] at hk; omega
            · rfl
          · rw [← hn, ← hsl]; exact hq.blk.cell 0
        clear h hf e hk
        go_enter Try.func54, Try.ntmps54
        go_wp2_with (first
          | (go_at_call 96; ((with_reducible refine IT.out.mono ?_); rintro e w1 ⟨rfl, rfl⟩))
          | (go_at_call 97; ((with_reducible refine N.out.mono ?_); rintro e w1 ⟨rfl, ⟨A, c, x0⟩, hq, ht⟩; have HQ := Lib.hid (And.intro hq ht); clear hq ht)))
        go_ret
        exact ⟨rfl, _, HQ.out⟩
      · have e : rsetQ id at' ys = (0, ys ++ [(id, at')]) := by
          unfold rsetQ
          rw [if_pos ⟨h1, h2, h3, h4⟩, if_pos hk, if_neg (by omega)]
        rw [e]
        have N : Hid (Calls Try.prog 97 #[.pointer (some ⟨g, 0, none⟩), .int .i64 id] w fun e w1 => e = .returned (.int .i64 (-1)) ∧ ∃ A c A2 n2 c2 w2, w1.cell? ⟨g, 0, none⟩ = some (.slice A n c) ∧ g < w1.heap.size ∧
            (Builtin.append_ #[26, 26] 26 #[.slice A n c, .slice (some ⟨w1.heap.size, 0, none⟩) 1 1]).run Try.prog (w1.alloc (.cells #[.int .i64 id, .int .i64 at'] 108)) = .ok (.slice A2 n2 c2) w2 ∧
              w2.cell? ⟨g, 0, none⟩ = some (.slice A n c) ∧ w2.frozen? ⟨g, 0, none⟩ = false ∧ Rq (w2.setCell ⟨g, 0, none⟩ (.slice A2 n2 c2)) base g (ys ++ [(id, at')]) (.slice A2 n2 c2) ∧ TmF g v (.slice A2 n2 c2) w (w2.setCell ⟨g, 0, none⟩ (.slice A2 n2 c2))) := by
          refine hf.mono ?_
          rintro e w1 ⟨rfl, hB⟩
          have hq := h.later hB
          obtain ⟨A, c, hsl, _⟩ := hq.own.slice
          obtain ⟨A2, n2, c2, w2, r1, r2, r3, r4, r5⟩ := rput hq (Nat.le_trans hb hB.size) (id, at') (by omega)
          rw [hn] at hsl
          refine ⟨?_, A, c, A2, n2, c2, w2, by rw [← hsl]; exact hq.blk.cell 0, Blk.lt hq.blk, by rw [← hsl]; exact r1, by rw [← hsl]; exact r2, r3, r4, ((TmF.refl g v w).later hB).trans r5⟩
          unfold rf at hk ⊢
          split
          · rename_i h5; rw [if_pos h5] at hk; omega
          · rfl
        clear h hf e hk
        go_enter Try.func54, Try.ntmps54
        go_wp2_with (first
          | (go_at_call 96; ((with_reducible refine IT.out.mono ?_); rintro e w1 ⟨rfl, rfl⟩))
          | (go_at_call 97; ((with_reducible refine N.out.mono ?_); rintro e w1 ⟨rfl, A, c, A2, n2, c2, w2, x0, x1, hr, x2, x3, hq⟩; have HQ := Lib.hid hq; have HR := Lib.hid hr; clear hq hr))
          | (at_builtin; refine wpList_appT 26 26 rfl (.tmp 41) (.tmp 45) rfl _ _ rfl rfl _ _ HR.out ?_))
        go_ret
        exact ⟨rfl, _, HQ.out⟩
    · obtain ⟨k, hkk, hkl⟩ := rf_lt hk
      have hf := rtmfind_any base g ys v id w h (by omega)
      have e : rsetQ id at' ys = (0, ys.eraseIdx k ++ [(id, at')]) := by
        unfold rsetQ
        rw [if_pos ⟨h1, h2, h3, h4⟩, if_neg hk, hkk, Int.toNat_natCast]
      rw [e]
      have N : Hid (Calls Try.prog 97 #[.pointer (some ⟨g, 0, none⟩), .int .i64 id] w fun e w1 => e = .returned (.int .i64 k) ∧
          Calls Try.prog 70 #[.pointer (some ⟨g, 0, none⟩), .int .i64 k] w1 fun e w1 => e = .returned (.tuple #[]) ∧ ∃ A n c A2 n2 c2 w2, w1.cell? ⟨g, 0, none⟩ = some (.slice A n c) ∧ g < w1.heap.size ∧
            (Builtin.append_ #[26, 26] 26 #[.slice A n c, .slice (some ⟨w1.heap.size, 0, none⟩) 1 1]).run Try.prog (w1.alloc (.cells #[.int .i64 id, .int .i64 at'] 108)) = .ok (.slice A2 n2 c2) w2 ∧
              w2.cell? ⟨g, 0, none⟩ = some (.slice A n c) ∧ w2.frozen? ⟨g, 0, none⟩ = false ∧ Rq (w2.setCell ⟨g, 0, none⟩ (.slice A2 n2 c2)) base g (ys.eraseIdx k ++ [(id, at')]) (.slice A2 n2 c2) ∧ TmF g v (.slice A2 n2 c2) w (w2.setCell ⟨g, 0, none⟩ (.slice A2 n2 c2))) := by
        refine hf.mono ?_
        rintro e w0 ⟨rfl, hB0⟩
        refine ⟨by rw [hkk], (rtmout_any base g ys v k w0 (h.later hB0) (Nat.le_trans hb hB0.size) hkl (by omega)).mono ?_⟩
        rintro e w1 ⟨rfl, v1, hq, ht⟩
        obtain ⟨A, c, hsl, _⟩ := hq.own.slice
        have hel : (ys.eraseIdx k).length ≤ ys.length := List.length_eraseIdx_le ..
        have hs0 := hB0.size
        have hs1 := ht.size
        obtain ⟨A2, n2, c2, w2, r1, r2, r3, r4, r5⟩ := rput hq (by omega) (id, at') (by omega)
        exact ⟨rfl, A, _, c, A2, n2, c2, w2, by rw [← hsl]; exact hq.blk.cell 0, Blk.lt hq.blk, by rw [← hsl]; exact r1, by rw [← hsl]; exact r2, r3, r4, (((TmF.refl g v w).later hB0).trans ht).trans r5⟩
      have k0 : ¬ ((k : Int) < 0) := by omega
      clear h hf e hk hkk
      go_enter Try.func54, Try.ntmps54
      go_wp2_with (first
        | (go_at_call 96; ((with_reducible refine IT.out.mono ?_); rintro e w1 ⟨rfl, rfl⟩))
        | (go_at_call 97; ((with_reducible refine N.out.mono ?_); rintro e w0 ⟨rfl, n1⟩; have N1 := Lib.hid n1; clear n1))
        | (go_at_call 70; ((with_reducible refine N1.out.mono ?_); rintro e w1 ⟨rfl, A, m, c, A2, n2, c2, w2, x0, x1, hr, x2, x3, hq⟩; have HQ := Lib.hid hq; have HR := Lib.hid hr; clear hq hr))
        | (at_builtin; refine wpList_appT 26 26 rfl (.tmp 41) (.tmp 45) rfl _ _ rfl rfl _ _ HR.out ?_))
      go_ret
      exact ⟨rfl, _, HQ.out⟩
  · have e : rsetQ id at' ys = (1, ys) := by simp [rsetQ, ho]
    rw [e]
    refine (rset_bad g id at' w hw ho).mono ?_
    rintro e w' ⟨rfl, rfl⟩
    exact ⟨rfl, v, h, TmF.refl g v w⟩
end Go.Proofs.Ytdlnmhobhafobaa
