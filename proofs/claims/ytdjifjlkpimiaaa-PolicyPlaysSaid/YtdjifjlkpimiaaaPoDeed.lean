/-
  A policy's greater deeds: hold, missed, lose, end, revive.
-/
import Derived.Test.YtdjifjlkpimiaaaPoSet
namespace Go.Proofs.Ytdjifjlkpimiaaa
open Go.RowKit
set_option maxRecDepth 100000
set_option maxHeartbeats 2000000
set_option linter.unusedSimpArgs false
set_option linter.unusedVariables false

/-- what a call without an answer leaves -/
def PoV (w : World) (g : Nat) (y : PoS) (e : Ending) (w' : World) : Prop := e = .returned (.tuple #[]) ∧ PoB w' g y ∧ w.grownBy w' (some g)
theorem want_v (g : Nat) (x : PoS) (w : World) (hx : PoB w g x) : Calls Try.prog 70 #[.pointer (some ⟨g, 0, none⟩)] w (PoV w g (poWant x)) := by
  refine (want_any g x w hx).mono ?_
  rintro e w' ⟨rfl, rfl⟩
  exact ⟨rfl, hx.set_ 0 (.bool true), gset' _ _ _ _⟩
theorem forgo_v (g : Nat) (x : PoS) (w : World) (hx : PoB w g x) : Calls Try.prog 69 #[.pointer (some ⟨g, 0, none⟩)] w (PoV w g (poDrop x)) := by
  refine (forgo_any g x w hx).mono ?_
  rintro e w' ⟨rfl, rfl⟩
  exact ⟨rfl, hx.set_ 0 (.bool false), gset' _ _ _ _⟩
theorem urge_v (g : Nat) (x : PoS) (w : World) (hx : PoB w g x) : Calls Try.prog 71 #[.pointer (some ⟨g, 0, none⟩)] w (PoV w g (poUrge x)) := by
  refine (urge_any g x w hx).mono ?_
  rintro e w' ⟨rfl, rfl⟩
  exact ⟨rfl, (hx.set_ 0 (.bool true)).set_ 1 (.int .i64 0), gtrans' (gset' _ _ _ _) (gset' _ _ _ _)⟩
theorem fail_v (g : Nat) (x : PoS) (w : World) (hx : PoB w g x) (ho : PoOk x) : Calls Try.prog 73 #[.pointer (some ⟨g, 0, none⟩)] w (PoV w g (poFail x)) := by
  refine (fail_any g x w hx ho.fa).mono ?_
  rintro e w' ⟨rfl, rfl⟩
  exact ⟨rfl, (hx.set_ 1 (.int .i64 (poFail x).fa)).set_ 2 (.string wyFailed), gtrans' (gset' _ _ _ _) (gset' _ _ _ _)⟩
theorem poHold_any (g : Nat) (x : PoS) (w : World) (hx : PoB w g x) (ho : PoOk x) :
    Calls Try.prog 74 #[.pointer (some ⟨g, 0, none⟩)] w (PoR w g (poSet (poHeld x)) (poSetL (poHeld x))) := by
  have c9 : w.cell? ⟨g, 9, none⟩ = some (.int .i64 x.st) := hx.cell 9
  have f9 : w.frozen? ⟨g, 9, none⟩ = false := hx.frozen 9
  have c10 : w.cell? ⟨g, 10, none⟩ = some (.int .i64 x.now) := hx.cell 10
  have c13 : w.cell? ⟨g, 13, none⟩ = some (.int .i64 x.en) := hx.cell 13
  have f13 : w.frozen? ⟨g, 13, none⟩ = false := hx.frozen 13
  have HS : Hid (Calls Try.prog 52 #[.pointer (some ⟨g, 0, none⟩)] ((w.setCell ⟨g, 9, none⟩ (.int .i64 1)).setCell ⟨g, 13, none⟩ (.int .i64 x.now)) (PoR w g (poSet (poHeld x)) (poSetL (poHeld x)))) :=
    (poSettle_any g (poHeld x) _ ((hx.set_ 9 (.int .i64 1)).set_ 13 (.int .i64 x.now)) (poHeld_ok ho)).mono fun e w2 h2 => h2.from (gtrans' (gset' _ _ _ _) (gset' _ _ _ _))
  clear hx ho
  go_enter Try.func74, Try.ntmps74
  go_wp2_with (go_at_call 52; ((with_reducible refine HS.out.mono ?_); rintro e w1 ⟨v, rfl, h3⟩; have H3 := Lib.hid h3; clear h3))
  go_ret
  exact ⟨v, rfl, H3.out⟩
theorem poMissed_any (g : Nat) (x : PoS) (w : World) (hx : PoB w g x) (ho : PoOk x) :
    Calls Try.prog 64 #[.pointer (some ⟨g, 0, none⟩)] w (PoR w g (poMiss x) (poMissL x)) := by
  have HF := Lib.hid (fail_v g x w hx ho)
  have hy := poFail_ok ho
  have hmf : (poFail x).mf = x.mf := rfl
  obtain ⟨y, hyx⟩ : ∃ y, poFail x = y := ⟨_, rfl⟩
  have hgv : poGive x = decide (y.mf ≠ 0 ∧ y.mf ≤ y.fa) := by rw [← hyx]; rfl
  have e1 : poMiss x = if poGive x then poOver y else poSet (poHeld y) := by rw [← hyx]; rfl
  have e2 : poMissL x = if poGive x then [] else poSetL (poHeld y) := by rw [← hyx]; rfl
  rw [e1, e2, hgv]
  rw [hyx] at HF hy
  clear hx ho hmf hyx e1 e2 hgv
  by_cases h0 : y.mf = 0
  · have t0 : (y.mf != 0) = false := by simpa using h0
    have eg : decide (y.mf ≠ 0 ∧ y.mf ≤ y.fa) = false := decide_eq_false (fun h => h.1 h0)
    rw [eg]
    simp only [Bool.false_eq_true, if_false]
    have HH : Hid (∀ W, PoB W g y → Calls Try.prog 74 #[.pointer (some ⟨g, 0, none⟩)] W (PoR W g (poSet (poHeld y)) (poSetL (poHeld y)))) := fun W h => poHold_any g y W h hy
    obtain ⟨m, hm⟩ : ∃ m, y.mf = m := ⟨_, rfl⟩
    rw [hm] at t0
    have HM := Lib.hid hm
    clear hy h0 eg hm
    go_enter Try.func64, Try.ntmps64
    go_upto_region 2 with (go_at_call 73; refine HF.out.mono ?_; rintro e w1 ⟨rfl, hx, hg⟩; have c8 : w1.cell? ⟨g, 8, none⟩ = some (.int .i64 m) := (by rw [← HM.out]; exact hx.cell 8); have HX := Lib.hid hx; have HG := Lib.hid hg; clear hx hg)
    go_quiet (fail)
    go_wp2_with (go_at_call 74; ((refine (HH.out _ ?_).mono ?_); exact HX.out; rintro e w2 h2; have h3 := h2.from (gdrewN HG.out _); obtain ⟨v, rfl, h4⟩ := h3; have H4 := Lib.hid h4; clear h2 h4))
    go_ret
    exact ⟨v, rfl, H4.out⟩
  · have t0 : (y.mf != 0) = true := by simpa using h0
    by_cases h1 : y.mf ≤ y.fa
    · have eg : decide (y.mf ≠ 0 ∧ y.mf ≤ y.fa) = true := decide_eq_true ⟨h0, h1⟩
      rw [eg]
      simp only [if_true]
      have HV : Hid (∀ W, PoB W g y → Calls Try.prog 69 #[.pointer (some ⟨g, 0, none⟩)] W (PoV W g (poDrop y))) := fun W h => forgo_v g y W h
      obtain ⟨m, hm⟩ : ∃ m, y.mf = m := ⟨_, rfl⟩
      obtain ⟨z, hz⟩ : ∃ z, y.fa = z := ⟨_, rfl⟩
      obtain ⟨nw, hnw⟩ : ∃ n, y.now = n := ⟨_, rfl⟩
      have t1 : decide (m ≤ z) = true := decide_eq_true (by omega)
      rw [hm] at t0
      have HM := Lib.hid hm
      have HZ := Lib.hid hz
      have HN := Lib.hid hnw
      have EY : Hid (poOver y = { poDrop y with st := 5, en := nw }) := by
        rw [← hnw]
        exact rfl
      clear hy h0 h1 eg hm hz hnw
      go_enter Try.func64, Try.ntmps64
      go_upto_region 2 with (go_at_call 73; refine HF.out.mono ?_; rintro e w1 ⟨rfl, hx, hg⟩; have c8 : w1.cell? ⟨g, 8, none⟩ = some (.int .i64 m) := (by rw [← HM.out]; exact hx.cell 8); have c1 : w1.cell? ⟨g, 1, none⟩ = some (.int .i64 z) := (by rw [← HZ.out]; exact hx.cell 1); have HX := Lib.hid hx; have HG := Lib.hid hg; clear hx hg)
      go_quiet (fail)
      go_wp2_with (go_at_call 69; ((refine (HV.out _ ?_).mono ?_); exact HX.out; rintro e w2 ⟨rfl, hx2, hg2⟩; have d9 : w2.cell? ⟨g, 9, none⟩ = some (.int .i64 y.st) := hx2.cell 9; have d10 : w2.cell? ⟨g, 10, none⟩ = some (.int .i64 nw) := (by rw [← HN.out]; exact hx2.cell 10); have d13 : w2.cell? ⟨g, 13, none⟩ = some (.int .i64 y.en) := hx2.cell 13; have q9 : w2.frozen? ⟨g, 9, none⟩ = false := hx2.frozen 9; have q13 : w2.frozen? ⟨g, 13, none⟩ = false := hx2.frozen 13; have HX2 := Lib.hid hx2; have HG2 := Lib.hid (gtrans' (gdrewN HG.out _) hg2); clear hx2 hg2))
      go_ret
      rw [EY.out]
      refine por_none ?_ ?_
      · exact (HX2.out.set_ 9 (.int .i64 5)).set_ 13 (.int .i64 nw)
      · exact gtrans' (gtrans' HG2.out (gset' _ _ _ _)) (gset' _ _ _ _)
    · have eg : decide (y.mf ≠ 0 ∧ y.mf ≤ y.fa) = false := decide_eq_false (fun h => h1 h.2)
      rw [eg]
      simp only [Bool.false_eq_true, if_false]
      have HH : Hid (∀ W, PoB W g y → Calls Try.prog 74 #[.pointer (some ⟨g, 0, none⟩)] W (PoR W g (poSet (poHeld y)) (poSetL (poHeld y)))) := fun W h => poHold_any g y W h hy
      obtain ⟨m, hm⟩ : ∃ m, y.mf = m := ⟨_, rfl⟩
      obtain ⟨z, hz⟩ : ∃ z, y.fa = z := ⟨_, rfl⟩
      have t1 : decide (m ≤ z) = false := decide_eq_false (by omega)
      rw [hm] at t0
      have HM := Lib.hid hm
      have HZ := Lib.hid hz
      clear hy h0 h1 eg hm hz
      go_enter Try.func64, Try.ntmps64
      go_upto_region 2 with (go_at_call 73; refine HF.out.mono ?_; rintro e w1 ⟨rfl, hx, hg⟩; have c8 : w1.cell? ⟨g, 8, none⟩ = some (.int .i64 m) := (by rw [← HM.out]; exact hx.cell 8); have c1 : w1.cell? ⟨g, 1, none⟩ = some (.int .i64 z) := (by rw [← HZ.out]; exact hx.cell 1); have HX := Lib.hid hx; have HG := Lib.hid hg; clear hx hg)
      go_quiet (fail)
      go_wp2_with (go_at_call 74; ((refine (HH.out _ ?_).mono ?_); exact HX.out; rintro e w2 h2; have h3 := h2.from (gdrewN HG.out _); obtain ⟨v, rfl, h4⟩ := h3; have H4 := Lib.hid h4; clear h2 h4))
      go_ret
      exact ⟨v, rfl, H4.out⟩
theorem poLose_any (g : Nat) (x : PoS) (w : World) (hx : PoB w g x) (ho : PoOk x) :
    Calls Try.prog 66 #[.pointer (some ⟨g, 0, none⟩)] w (PoR w g (poLose x) (poLoseL x)) := by
  have c0 : w.cell? ⟨g, 0, none⟩ = some (.bool x.wa) := hx.cell 0
  have f0 : w.frozen? ⟨g, 0, none⟩ = false := hx.frozen 0
  have c2 : w.cell? ⟨g, 2, none⟩ = some (.string x.wy) := hx.cell 2
  have f2 : w.frozen? ⟨g, 2, none⟩ = false := hx.frozen 2
  have c4 : w.cell? ⟨g, 4, none⟩ = some (.bool x.per) := hx.cell 4
  have HS : Hid (Calls Try.prog 74 #[.pointer (some ⟨g, 0, none⟩)] ((w.setCell ⟨g, 2, none⟩ (.string wyLost)).setCell ⟨g, 0, none⟩ (.bool x.per)) (PoR w g (poLose x) (poLoseL x))) :=
    (poHold_any g (poLose0 x) _ ((hx.set_ 2 (.string wyLost)).set_ 0 (.bool x.per)) (poLose0_ok ho)).mono fun e w2 h2 => h2.from (gtrans' (gset' _ _ _ _) (gset' _ _ _ _))
  clear hx ho
  go_enter Try.func66, Try.ntmps66
  go_wp2_with (go_at_call 74; ((with_reducible refine HS.out.mono ?_); rintro e w1 ⟨v, rfl, h3⟩; have H3 := Lib.hid h3; clear h3))
  go_ret
  exact ⟨v, rfl, H3.out⟩
theorem poRevive_any (g : Nat) (x : PoS) (w : World) (hx : PoB w g x) (ho : PoOk x) :
    Calls Try.prog 68 #[.pointer (some ⟨g, 0, none⟩)] w (PoR w g (poSet (poRev0 x)) (poSetL (poRev0 x))) := by
  have c9 : w.cell? ⟨g, 9, none⟩ = some (.int .i64 x.st) := hx.cell 9
  have f9 : w.frozen? ⟨g, 9, none⟩ = false := hx.frozen 9
  have HS : Hid (Calls Try.prog 52 #[.pointer (some ⟨g, 0, none⟩)] (((w.setCell ⟨g, 0, none⟩ (.bool true)).setCell ⟨g, 1, none⟩ (.int .i64 0)).setCell ⟨g, 9, none⟩ (.int .i64 1)) (PoR w g (poSet (poRev0 x)) (poSetL (poRev0 x)))) :=
    (poSettle_any g (poRev0 x) _ (((hx.set_ 0 (.bool true)).set_ 1 (.int .i64 0)).set_ 9 (.int .i64 1)) (poRev0_ok ho)).mono fun e w2 h2 => h2.from (gtrans' (gtrans' (gset' _ _ _ _) (gset' _ _ _ _)) (gset' _ _ _ _))
  have HU := Lib.hid (urge_any g x w hx)
  clear hx ho
  go_enter Try.func68, Try.ntmps68
  go_wp2_with (first | (go_at_call 71; refine HU.out.mono ?_; rintro e w1 ⟨rfl, rfl⟩) | (go_at_call 52; ((with_reducible refine HS.out.mono ?_); rintro e w1 ⟨v, rfl, h3⟩; have H3 := Lib.hid h3; clear h3)))
  go_ret
  exact ⟨v, rfl, H3.out⟩
theorem poEndD_any (g : Nat) (x : PoS) (w : World) (hx : PoB w g x) (ho : PoOk x) :
    Calls Try.prog 67 #[.pointer (some ⟨g, 0, none⟩)] w (PoR w g (poEnd x) (poEndL x)) := by
  have c2 : w.cell? ⟨g, 2, none⟩ = some (.string x.wy) := hx.cell 2
  have c4 : w.cell? ⟨g, 4, none⟩ = some (.bool x.per) := hx.cell 4
  by_cases hp : (x.per && !isDown x.wy) = true
  · have hp2 := hp
    simp only [Bool.and_eq_true, Bool.not_eq_true'] at hp2
    obtain ⟨h1, h2⟩ := hp2
    rw [h1] at c4
    have e0 : poEnd0 x = poWant x := by
      unfold poEnd0 poWant
      rw [hp, Bool.or_true]
    have HV := Lib.hid (want_v g x w hx)
    have HH : Hid (∀ W, PoB W g (poWant x) → Calls Try.prog 74 #[.pointer (some ⟨g, 0, none⟩)] W (PoR W g (poEnd x) (poEndL x))) := by
      show ∀ W, _ → _
      intro W h
      have := poHold_any g (poWant x) W h (poWant_ok ho)
      rw [← e0] at this
      exact this
    have hq : (x.wy.toList == [100, 111, 119, 110]) = false := h2
    clear h2
    clear hp h1 e0 hx ho
    go_enter Try.func67, Try.ntmps67
    go_wp2_with (first | (go_at_call 70; refine HV.out.mono ?_; rintro e w1 ⟨rfl, hx, hg⟩; have HX := Lib.hid hx; have HG := Lib.hid hg; clear hx hg) | (go_at_call 74; ((refine (HH.out _ ?_).mono ?_); exact HX.out; rintro e w2 h2; have h3 := h2.from HG.out; obtain ⟨v, rfl, h4⟩ := h3; have H4 := Lib.hid h4; clear h2 h4)))
    go_ret
    exact ⟨v, rfl, H4.out⟩
  · rw [Bool.not_eq_true] at hp
    have e0 : poEnd0 x = x := by
      unfold poEnd0
      rw [hp, Bool.or_false]
    have HH : Hid (∀ W, PoB W g x → Calls Try.prog 74 #[.pointer (some ⟨g, 0, none⟩)] W (PoR W g (poEnd x) (poEndL x))) := by
      show ∀ W, _ → _
      intro W h
      have := poHold_any g x W h ho
      unfold poEnd poEndL
      rw [e0]
      exact this
    have HX := Lib.hid hx
    clear e0 hx ho
    cases h1 : x.per with
    | false =>
      rw [h1] at c4
      clear hp h1
      go_enter Try.func67, Try.ntmps67
      go_wp2_with (go_at_call 74; ((refine (HH.out _ HX.out).mono ?_); rintro e w2 ⟨v, rfl, h4⟩; have H4 := Lib.hid h4; clear h4))
      go_ret
      exact ⟨v, rfl, H4.out⟩
    | true =>
      rw [h1] at c4 hp
      have hq : (x.wy.toList == [100, 111, 119, 110]) = true := by
        have h2 : (!isDown x.wy) = false := hp
        rw [Bool.not_eq_false'] at h2
        exact h2
      clear hp h1
      go_enter Try.func67, Try.ntmps67
      go_wp2_with (go_at_call 74; ((refine (HH.out _ HX.out).mono ?_); rintro e w2 ⟨v, rfl, h4⟩; have H4 := Lib.hid h4; clear h4))
      go_ret
      exact ⟨v, rfl, H4.out⟩
end Go.Proofs.Ytdjifjlkpimiaaa
