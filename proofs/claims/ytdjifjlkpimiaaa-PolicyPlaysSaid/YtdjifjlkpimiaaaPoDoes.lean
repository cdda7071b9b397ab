/-
  does: the time comes, what is due is done, then a call's own.
-/
import Derived.Test.YtdjifjlkpimiaaaPoDeeds
import Derived.Test.YtdjifjlkpimiaaaAuRd
namespace Go.Proofs.Ytdjifjlkpimiaaa
open Go.RowKit
set_option maxRecDepth 100000
set_option maxHeartbeats 4000000
set_option linter.unusedSimpArgs false
set_option linter.unusedVariables false

/-- what a call of a policy leaves -/
def PoC (w : World) (g : Nat) (y : PoS) (l : List Int) (e : Ending) (w' : World) : Prop := ∃ v, e = .returned (.tuple #[v, .int .i64 0]) ∧ OwnI w' w.heap.size v l ∧ PoB w' g y ∧ w.grownBy w' (some g)
theorem ownI_app {w : World} {b b2 : Nat} {v u : Value} {l k : List Int} (h : OwnI w b v l) (hk : OwnI w b2 u k) (hl : l.length ≤ 10) (hm : k.length ≤ 10) (hb : b ≤ w.heap.size) (hbb : b ≤ b2) :
    ∃ v' w', (Builtin.append_ #[22, 22] 22 #[v, u]).run Try.prog w = .ok v' w' ∧ OwnI w' b v' (l ++ k) ∧ w.grownBy w' v.ownBlock := by
  obtain ⟨A, c, rfl, hc, hz⟩ := hk.slice
  obtain ⟨v', w', h1, h2, h3, _⟩ := appI_rd h hk.rd.1 hz (by omega) hb
  exact ⟨v', w', h1, h2, h3⟩
theorem fn_nil (W : World) : (binOp BinOp.neq 67 .nilFunc .nilFunc).run Try.prog W = .ok (.bool false) W := by kernel_rfl
theorem fn_some (g f : Nat) (W : World) : (binOp BinOp.neq 67 (fnV g f) .nilFunc).run Try.prog W = .ok (.bool true) W := by rfl
theorem does_bad (g : Nat) (x : PoS) (t : Int) (cl : Value) (w : World) (hx : PoB w g x) (hb : poBad t x = true) :
    Calls Try.prog 38 #[.pointer (some ⟨g, 0, none⟩), .int .i64 t, cl] w fun e w' => e = .returned (.tuple #[.slice none 0 0, .int .i64 1]) ∧ w = w' := by
  have c10 : w.cell? ⟨g, 10, none⟩ = some (.int .i64 x.now) := hx.cell 10
  unfold poBad at hb
  have hb2 := of_decide_eq_true hb
  generalize x.now = n at *
  clear hx hb
  by_cases h1 : t < n
  · have t1 : decide (t < n) = true := decide_eq_true h1
    clear hb2
    go_enter Try.func38, Try.ntmps38
    go_wp2
    go_ret2
    exact ⟨rfl, rfl⟩
  · have h2 : 1099511627776 < t := by omega
    have t1 : decide (t < n) = false := decide_eq_false h1
    have t2 : decide (1099511627776 < t) = true := decide_eq_true h2
    clear hb2
    go_enter Try.func38, Try.ntmps38
    go_wp2
    go_ret2
    exact ⟨rfl, rfl⟩
theorem does_0 (g C : Nat) (x y2 : PoS) (o : Option Nat) (l2 : List Int) (t : Int) (w : World) (hx : PoB w g x) (ho : PoOk x) (hb : poBad t x = false)
    (hcf : ∀ D W, (callFunc C #[D]).run Try.prog W = .ok (.enter C #[D]) W)
    (hC : ∀ W, w.grownBy W (some g) → Calls Try.prog C #[(deedsV g (poSet (poAt x t)))] W fun e w' => e = .returned (fvO g o) ∧ Below W.heap.size W w')
    (hN : o = none → y2 = poSet (poAt x t) ∧ l2 = [])
    (hS : ∀ f, o = some f → (∀ W, (callFunc f #[.pointer (some ⟨g, 0, none⟩)]).run Try.prog W = .ok (.enter f #[.pointer (some ⟨g, 0, none⟩)]) W) ∧ ∀ W, PoB W g (poSet (poAt x t)) → Calls Try.prog f #[.pointer (some ⟨g, 0, none⟩)] W (PoR W g y2 l2)) (hl : l2.length ≤ 1) :
    Calls Try.prog 38 #[.pointer (some ⟨g, 0, none⟩), .int .i64 t, .func (.func C) #[] #[]] w (PoC w g y2 (poSetL (poAt x t) ++ l2)) := by
  have c10 : w.cell? ⟨g, 10, none⟩ = some (.int .i64 x.now) := hx.cell 10
  have f10 : w.frozen? ⟨g, 10, none⟩ = false := hx.frozen 10
  unfold poBad at hb
  have hb2 := of_decide_eq_false hb
  have t1 : decide (t < x.now) = false := decide_eq_false (by omega)
  have t2 : decide (1099511627776 < t) = false := decide_eq_false (by omega)
  have hok : PoOk (poAt x t) := poAt_ok ho (by omega) (by omega)
  have HS1 : Hid (Calls Try.prog 52 #[.pointer (some ⟨g, 0, none⟩)] (w.setCell ⟨g, 10, none⟩ (.int .i64 t)) (PoR w g (poSet (poAt x t)) (poSetL (poAt x t)))) :=
    (poSettle_any g (poAt x t) _ (hx.set_ 10 (.int .i64 t)) hok).mono fun e w2 h2 => h2.from (gset' _ _ _ _)
  have HD : Hid (∀ W, PoB W g (poSet (poAt x t)) → Calls Try.prog 53 #[.pointer (some ⟨g, 0, none⟩)] W fun e w' => e = .returned (deedsV g (poSet (poAt x t))) ∧ Below W.heap.size W w') := fun W h => deeds_any g _ W h (poSet_ok hok)
  have hl1 := poSetL_len (poAt x t)
  have HL1 := Lib.hid hl1
  have HL2 := Lib.hid hl
  clear ho hb hb2 hok hl1 hl
  generalize x.now = nw at *
  have HX := Lib.hid hx
  clear hx
  generalize poSet (poAt x t) = y at *
  generalize poSetL (poAt x t) = l1 at *
  generalize deedsV g y = D at *
  have HC : Hid (∀ W, w.grownBy W (some g) → Calls Try.prog C #[D] W fun e w' => e = .returned (fvO g o) ∧ Below W.heap.size W w') := hC
  clear hC
  cases o with
  | none =>
    obtain ⟨rfl, rfl⟩ := hN rfl
    clear hS hN
    rw [List.append_nil]
    go_enter Try.func38, Try.ntmps38
    go_wp2_with (first | (go_at_call 52; ((with_reducible refine HS1.out.mono ?_); rintro e w1 ⟨v, rfl, o1, x1, g1⟩; have O1 := Lib.hid o1; have X1 := Lib.hid x1; have G1 := Lib.hid g1; clear o1 x1 g1)) | (go_at_call 53; refine (HD.out _ X1.out).mono ?_; rintro e w2 ⟨rfl, b2⟩; have B2 := Lib.hid b2; clear b2))
    refine (HC.out _ (gtrans' G1.out (gsome' B2.out))).mono ?_
    rintro e w3 ⟨rfl, b3⟩
    have B3 := Lib.hid b3
    clear b3
    unfold fvO
    have NQ := fn_nil
    go_wp2
    go_ret2
    exact ⟨v, rfl, (O1.out.later B2.out).later B3.out, (X1.out.below B2.out).below B3.out, gtrans' (gtrans' G1.out (gsome' B2.out)) (gsome' B3.out)⟩
  | some f =>
    obtain ⟨hf, hd⟩ := hS f rfl
    have HF : Hid (∀ W, PoB W g y → Calls Try.prog f #[.pointer (some ⟨g, 0, none⟩)] W (PoR W g y2 l2)) := hd
    clear hS hN hd
    go_enter Try.func38, Try.ntmps38
    go_wp2_with (first | (go_at_call 52; ((with_reducible refine HS1.out.mono ?_); rintro e w1 ⟨v, rfl, o1, x1, g1⟩; have O1 := Lib.hid o1; have X1 := Lib.hid x1; have G1 := Lib.hid g1; clear o1 x1 g1)) | (go_at_call 53; refine (HD.out _ X1.out).mono ?_; rintro e w2 ⟨rfl, b2⟩; have B2 := Lib.hid b2; clear b2))
    refine (HC.out _ (gtrans' G1.out (gsome' B2.out))).mono ?_
    rintro e w3 ⟨rfl, b3⟩
    have B3 := Lib.hid b3
    clear b3
    unfold fvO
    have X3 := Lib.hid ((X1.out.below B2.out).below B3.out)
    have O3 := Lib.hid ((O1.out.later B2.out).later B3.out)
    have G3 := Lib.hid (gtrans' (gtrans' G1.out (gsome' B2.out)) (gsome' B3.out))
    clear X1 O1 B2 B3 G1
    have NQ := fun W => fn_some g f W
    go_wp2
    refine (HF.out _ X3.out).mono ?_
    rintro e w4 ⟨u, rfl, o4, x4, g4⟩
    have hnb : v.ownBlock = none ∨ v.ownBlock ≠ some g := by
      rcases hv : v.ownBlock with _ | k
      · exact .inl rfl
      · refine .inr fun e => ?_
        injection e with e
        have := (O3.out.form.2 k hv).1
        have := HX.out.lt
        omega
    have o5 := O3.out.grown g4 hnb
    obtain ⟨v', w5, hrun, o6, g6⟩ := ownI_app o5 o4 (by have := HL1.out; omega) (by have := HL2.out; omega) (Nat.le_trans G3.out.size g4.size) G3.out.size
    have hng : v.ownBlock ≠ some g := by
      rcases hnb with h | h
      · rw [h]; simp
      · exact h
    have PO : Hid (PoC w g y2 (l1 ++ l2) (.returned (.tuple #[v', .int .i64 0])) w5) := by
      refine ⟨v', rfl, o6, Blk.grown x4 g6 hng, ?_⟩
      have gn := gtrans' G3.out g4
      refine ⟨g6.os.trans gn.os, g6.tape.trans gn.tape, g6.output.trans gn.output, Nat.le_trans gn.size g6.size, fun i hi hne => (g6.block i (Nat.lt_of_lt_of_le hi gn.size) (fun e => ?_)).trans (gn.block i hi hne)⟩
      have := (O3.out.form.2 i e.symm).1
      omega
    have HRUN := Lib.hid hrun
    clear o4 x4 g4 hnb o5 hrun o6 g6 hng
    go_wp2_with (at_builtin; refine wpList_appR 22 22 rfl (.tmp 36) (.tmp 38) rfl _ _ rfl rfl _ _ HRUN.out ?_)
    go_ret2
    exact PO.out
theorem does_1 (g C b : Nat) (x y2 : PoS) (o : Option Nat) (l2 : List Int) (t : Int) (w : World) (hx : PoB w g x) (ho : PoOk x) (hb : poBad t x = false)
    (hcf : ∀ D W, (callFunc C #[D, .pointer (some ⟨b, 0, none⟩)]).run Try.prog W = .ok (.enter C #[D, .pointer (some ⟨b, 0, none⟩)]) W)
    (hC : ∀ W, w.grownBy W (some g) → Calls Try.prog C #[(deedsV g (poSet (poAt x t))), .pointer (some ⟨b, 0, none⟩)] W fun e w' => e = .returned (fvO g o) ∧ Below W.heap.size W w')
    (hN : o = none → y2 = poSet (poAt x t) ∧ l2 = [])
    (hS : ∀ f, o = some f → (∀ W, (callFunc f #[.pointer (some ⟨g, 0, none⟩)]).run Try.prog W = .ok (.enter f #[.pointer (some ⟨g, 0, none⟩)]) W) ∧ ∀ W, PoB W g (poSet (poAt x t)) → Calls Try.prog f #[.pointer (some ⟨g, 0, none⟩)] W (PoR W g y2 l2)) (hl : l2.length ≤ 1) :
    Calls Try.prog 38 #[.pointer (some ⟨g, 0, none⟩), .int .i64 t, .func (.func C) #[] #[.pointer (some ⟨b, 0, none⟩)]] w (PoC w g y2 (poSetL (poAt x t) ++ l2)) := by
  have c10 : w.cell? ⟨g, 10, none⟩ = some (.int .i64 x.now) := hx.cell 10
  have f10 : w.frozen? ⟨g, 10, none⟩ = false := hx.frozen 10
  unfold poBad at hb
  have hb2 := of_decide_eq_false hb
  have t1 : decide (t < x.now) = false := decide_eq_false (by omega)
  have t2 : decide (1099511627776 < t) = false := decide_eq_false (by omega)
  have hok : PoOk (poAt x t) := poAt_ok ho (by omega) (by omega)
  have HS1 : Hid (Calls Try.prog 52 #[.pointer (some ⟨g, 0, none⟩)] (w.setCell ⟨g, 10, none⟩ (.int .i64 t)) (PoR w g (poSet (poAt x t)) (poSetL (poAt x t)))) :=
    (poSettle_any g (poAt x t) _ (hx.set_ 10 (.int .i64 t)) hok).mono fun e w2 h2 => h2.from (gset' _ _ _ _)
  have HD : Hid (∀ W, PoB W g (poSet (poAt x t)) → Calls Try.prog 53 #[.pointer (some ⟨g, 0, none⟩)] W fun e w' => e = .returned (deedsV g (poSet (poAt x t))) ∧ Below W.heap.size W w') := fun W h => deeds_any g _ W h (poSet_ok hok)
  have hl1 := poSetL_len (poAt x t)
  have HL1 := Lib.hid hl1
  have HL2 := Lib.hid hl
  clear ho hb hb2 hok hl1 hl
  generalize x.now = nw at *
  have HX := Lib.hid hx
  clear hx
  generalize poSet (poAt x t) = y at *
  generalize poSetL (poAt x t) = l1 at *
  generalize deedsV g y = D at *
  have HC : Hid (∀ W, w.grownBy W (some g) → Calls Try.prog C #[D, .pointer (some ⟨b, 0, none⟩)] W fun e w' => e = .returned (fvO g o) ∧ Below W.heap.size W w') := hC
  clear hC
  cases o with
  | none =>
    obtain ⟨rfl, rfl⟩ := hN rfl
    clear hS hN
    rw [List.append_nil]
    go_enter Try.func38, Try.ntmps38
    go_wp2_with (first | (go_at_call 52; ((with_reducible refine HS1.out.mono ?_); rintro e w1 ⟨v, rfl, o1, x1, g1⟩; have O1 := Lib.hid o1; have X1 := Lib.hid x1; have G1 := Lib.hid g1; clear o1 x1 g1)) | (go_at_call 53; refine (HD.out _ X1.out).mono ?_; rintro e w2 ⟨rfl, b2⟩; have B2 := Lib.hid b2; clear b2))
    refine (HC.out _ (gtrans' G1.out (gsome' B2.out))).mono ?_
    rintro e w3 ⟨rfl, b3⟩
    have B3 := Lib.hid b3
    clear b3
    unfold fvO
    have NQ := fn_nil
    go_wp2
    go_ret2
    exact ⟨v, rfl, (O1.out.later B2.out).later B3.out, (X1.out.below B2.out).below B3.out, gtrans' (gtrans' G1.out (gsome' B2.out)) (gsome' B3.out)⟩
  | some f =>
    obtain ⟨hf, hd⟩ := hS f rfl
    have HF : Hid (∀ W, PoB W g y → Calls Try.prog f #[.pointer (some ⟨g, 0, none⟩)] W (PoR W g y2 l2)) := hd
    clear hS hN hd
    go_enter Try.func38, Try.ntmps38
    go_wp2_with (first | (go_at_call 52; ((with_reducible refine HS1.out.mono ?_); rintro e w1 ⟨v, rfl, o1, x1, g1⟩; have O1 := Lib.hid o1; have X1 := Lib.hid x1; have G1 := Lib.hid g1; clear o1 x1 g1)) | (go_at_call 53; refine (HD.out _ X1.out).mono ?_; rintro e w2 ⟨rfl, b2⟩; have B2 := Lib.hid b2; clear b2))
    refine (HC.out _ (gtrans' G1.out (gsome' B2.out))).mono ?_
    rintro e w3 ⟨rfl, b3⟩
    have B3 := Lib.hid b3
    clear b3
    unfold fvO
    have X3 := Lib.hid ((X1.out.below B2.out).below B3.out)
    have O3 := Lib.hid ((O1.out.later B2.out).later B3.out)
    have G3 := Lib.hid (gtrans' (gtrans' G1.out (gsome' B2.out)) (gsome' B3.out))
    clear X1 O1 B2 B3 G1
    have NQ := fun W => fn_some g f W
    go_wp2
    refine (HF.out _ X3.out).mono ?_
    rintro e w4 ⟨u, rfl, o4, x4, g4⟩
    have hnb : v.ownBlock = none ∨ v.ownBlock ≠ some g := by
      rcases hv : v.ownBlock with _ | k
      · exact .inl rfl
      · refine .inr fun e => ?_
        injection e with e
        have := (O3.out.form.2 k hv).1
        have := HX.out.lt
        omega
    have o5 := O3.out.grown g4 hnb
    obtain ⟨v', w5, hrun, o6, g6⟩ := ownI_app o5 o4 (by have := HL1.out; omega) (by have := HL2.out; omega) (Nat.le_trans G3.out.size g4.size) G3.out.size
    have hng : v.ownBlock ≠ some g := by
      rcases hnb with h | h
      · rw [h]; simp
      · exact h
    have PO : Hid (PoC w g y2 (l1 ++ l2) (.returned (.tuple #[v', .int .i64 0])) w5) := by
      refine ⟨v', rfl, o6, Blk.grown x4 g6 hng, ?_⟩
      have gn := gtrans' G3.out g4
      refine ⟨g6.os.trans gn.os, g6.tape.trans gn.tape, g6.output.trans gn.output, Nat.le_trans gn.size g6.size, fun i hi hne => (g6.block i (Nat.lt_of_lt_of_le hi gn.size) (fun e => ?_)).trans (gn.block i hi hne)⟩
      have := (O3.out.form.2 i e.symm).1
      omega
    have HRUN := Lib.hid hrun
    clear o4 x4 g4 hnb o5 hrun o6 g6 hng
    go_wp2_with (at_builtin; refine wpList_appR 22 22 rfl (.tmp 36) (.tmp 38) rfl _ _ rfl rfl _ _ HRUN.out ?_)
    go_ret2
    exact PO.out
end Go.Proofs.Ytdjifjlkpimiaaa
