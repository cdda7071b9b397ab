/-
  tetherlaw26.step: one call, of both.
-/
import Derived.Test.YtandakinbcfleaaPhRTr
import Derived.Deep.RegionHeld3
namespace Go.Proofs.Ytandakinbcfleaa
open Go.RowKit
set_option maxRecDepth 100000
set_option maxHeartbeats 8000000
set_option linter.unusedSimpArgs false
set_option linter.unusedVariables false

/-- of what there was, two blocks alone may have changed -/
structure Only2 (w w' : World) (g h : Nat) : Prop where
  os : w'.os = w.os
  tape : w'.tape = w.tape
  output : w'.output = w.output
  size : w.heap.size ≤ w'.heap.size
  block : ∀ i, i < w.heap.size → i ≠ g → i ≠ h → w'.heap[i]? = w.heap[i]?
theorem Only2.refl (w : World) (g h : Nat) : Only2 w w g h := ⟨rfl, rfl, rfl, Nat.le_refl _, fun _ _ _ _ => rfl⟩
theorem Only2.trans {a b c : World} {g h : Nat} (x : Only2 a b g h) (y : Only2 b c g h) : Only2 a c g h :=
  ⟨y.os.trans x.os, y.tape.trans x.tape, y.output.trans x.output, Nat.le_trans x.size y.size, fun i hi h1 h2 => (y.block i (Nat.lt_of_lt_of_le hi x.size) h1 h2).trans (x.block i hi h1 h2)⟩
theorem Only2.of_below {w w' : World} (g h : Nat) (b : Below w.heap.size w w') : Only2 w w' g h := ⟨b.os, b.tape, b.output, b.size, fun i hi _ _ => b.block i hi⟩
theorem Only2.left {w w' : World} {g h : Nat} (b : w.grownBy w' (some g)) : Only2 w w' g h := ⟨b.os, b.tape, b.output, b.size, fun i hi h1 _ => b.block i hi (fun e => h1 (by injection e))⟩
theorem Only2.right {w w' : World} {g h : Nat} (b : w.grownBy w' (some h)) : Only2 w w' g h := ⟨b.os, b.tape, b.output, b.size, fun i hi _ h2 => b.block i hi (fun e => h2 (by injection e))⟩
theorem Only2.drewN {w w' : World} {g h : Nat} (b : Only2 w w' g h) (n : Nat) : Only2 w (w'.drewN n) g h := ⟨b.os, b.tape, b.output, b.size, b.block⟩
theorem Blk.only2 {w w' : World} {g h k t : Nat} {cs : List Value} (x : Blk w k t cs) (b : Only2 w w' g h) (h1 : k ≠ g) (h2 : k ≠ h) : Blk w' k t cs := (b.block k x.lt h1 h2).trans x
theorem Only2.below {w w' : World} {g h B : Nat} (b : Only2 w w' g h) (hB : B ≤ w.heap.size) (h1 : B ≤ g) (h2 : B ≤ h) : Below B w w' := ⟨b.os, b.tape, b.output, b.size, fun i hi => b.block i (by omega) (by omega) (by omega)⟩

/-- what both are behind a call -/
def StE (w W : World) (g h : Nat) (x y : PhS) : Prop := TrB W g x ∧ RrB W h y ∧ Only2 w W g h
theorem StE.below {w a b : World} {g h : Nat} {x y : PhS} (s : StE w a g h x y) (hb : Below a.heap.size a b) : StE w b g h x y := ⟨s.1.below hb, s.2.1.below hb, s.2.2.trans (Only2.of_below g h hb)⟩
theorem StE.drewN {w a : World} {g h : Nat} {x y : PhS} (s : StE w a g h x y) (n : Nat) : StE w (a.drewN n) g h x y := ⟨s.1, s.2.1, s.2.2.drewN n⟩
abbrev RC (W : World) (h : Nat) (y : PhS) : Prop := W.cell? ⟨h, 0, none⟩ = some (.int .i64 y.s) ∧ W.cell? ⟨h, 3, none⟩ = some (.bool y.pt) ∧ W.cell? ⟨h, 4, none⟩ = some (.bool y.pm) ∧ W.cell? ⟨h, 5, none⟩ = some (.int .i64 y.t0) ∧ W.cell? ⟨h, 6, none⟩ = some (.int .i64 y.t1) ∧ W.cell? ⟨h, 7, none⟩ = some (.int .i64 y.t2) ∧ W.cell? ⟨h, 8, none⟩ = some (.int .i64 y.t3) ∧ W.cell? ⟨h, 9, none⟩ = some (.int .i64 y.t4)
theorem StE.rc {w W : World} {g h : Nat} {x y : PhS} (s : StE w W g h x y) : RC W h y := ⟨s.2.1.cell 0, s.2.1.cell 3, s.2.1.cell 4, s.2.1.cell 5, s.2.1.cell 6, s.2.1.cell 7, s.2.1.cell 8, s.2.1.cell 9⟩
def stX (x : PhS) (k e : Int) (a b : Bool) : PhS := if k = 0 then phDX x e else if k = 1 then phOX x a b else x
/-- what a step leaves: true, if both were alike -/
def StP (w : World) (g h : Nat) (x y x' y' : PhS) (e : Ending) (W : World) : Prop := ∃ b : Bool, e = .returned (.bool b) ∧ (x = y → b = true) ∧ StE w W g h x' y'
theorem stX_ok {x : PhS} {j : Int} (k e : Int) (a b : Bool) (h : PhOk x j) : PhOk (stX x k e a b) (j + 1) := by
  unfold stX
  split
  · exact phDX_ok e h
  · split
    · exact phOX_ok a b h
    · exact h.up (by omega)

theorem step_0 (g h : Nat) (x y : PhS) (ev : Int) (a b : Bool) (j : Int) (w : World) (hx : TrB w g x) (hy : RrB w h y) (hgh : g ≠ h) (ox : PhOk x j) (oy : PhOk y j) (hj : j < 1000000000) :
    Calls Try.prog 19 #[.pointer (some ⟨g, 0, none⟩), .pointer (some ⟨h, 0, none⟩), .agg #[.int .i64 0, .int .i64 ev, .bool a, .bool b]] w (StP w g h x y (phDX x ev) (phDX y ev)) := by
  obtain ⟨V, hV⟩ : ∃ V, w.alloc (.cells #[.int .i64 0, .int .i64 ev, .bool a, .bool b] 38) = V := ⟨_, rfl⟩
  have hBV : Below w.heap.size w V := by rw [← hV]; exact (Below.refl _ _).alloc (Nat.le_refl _) _
  have hnew : Blk V w.heap.size 38 [.int .i64 0, .int .i64 ev, .bool a, .bool b] := by rw [← hV]; exact blk_new w _ _
  have lg : g < w.heap.size := hx.lt
  have lh : h < w.heap.size := hy.lt
  have SV : StE w V g h x y := ⟨hx.below hBV, hy.below hBV, Only2.of_below g h hBV⟩
  have C : Hid (Calls Try.prog 22 #[.pointer (some ⟨g, 0, none⟩), .int .i64 ev] V.drew fun e w2 => e = .returned (.int .i64 (phDE x ev)) ∧ w2.cell? ⟨w.heap.size, 1, none⟩ = some (.int .i64 ev) ∧
      Calls Try.prog 34 #[.pointer (some ⟨h, 0, none⟩), .int .i64 ev] w2 fun e w3 => e = .returned (.int .i64 (phDE y ev)) ∧ w3.cell? ⟨w.heap.size, 1, none⟩ = some (.int .i64 ev) ∧ StE w w3 g h (phDX x ev) (phDX y ev)) := by
    refine (phDo_any g x ev j _ (SV.drewN 1).1 ox hj).mono ?_
    rintro e w2 ⟨rfl, h1, g1⟩
    have hr2 : RrB w2 h y := RrB.row (show RrB V.drew h y from SV.2.1) g1 (Ne.symm hgh)
    have hb2 : Blk w2 w.heap.size 38 [.int .i64 0, .int .i64 ev, .bool a, .bool b] := Blk.grown (show Blk V.drew w.heap.size 38 [.int .i64 0, .int .i64 ev, .bool a, .bool b] from hnew) g1 (fun e => by injection e with e; omega)
    refine ⟨rfl, hb2.cell 1, (rdo_any h y ev j w2 hr2 oy hj).mono ?_⟩
    rintro e w3 ⟨rfl, h3, g3⟩
    have hb3 : Blk w3 w.heap.size 38 [.int .i64 0, .int .i64 ev, .bool a, .bool b] := Blk.grown hb2 g3 (fun e => by injection e with e; omega)
    exact ⟨rfl, hb3.cell 1, TrB.row h1 g3 hgh, h3, ((SV.drewN 1).2.2.trans (Only2.left g1)).trans (Only2.right g3)⟩
  have EZ : x = y → phDE x ev = phDE y ev := fun e => by rw [e]
  have EX : x = y → (phDX x ev) = (phDX y ev) := fun e => by rw [e]
  obtain ⟨z, hz⟩ : ∃ z, phDE x ev = z := ⟨_, rfl⟩
  obtain ⟨z', hz'⟩ : ∃ z', phDE y ev = z' := ⟨_, rfl⟩
  obtain ⟨x', hx'⟩ : ∃ x', (phDX x ev) = x' := ⟨_, rfl⟩
  obtain ⟨y', hy'⟩ : ∃ y', (phDX y ev) = y' := ⟨_, rfl⟩
  rw [hz, hz', hx', hy'] at C
  rw [hz, hz'] at EZ
  rw [hx', hy'] at EX
  rw [hx', hy']
  have HV := Lib.hid hV
  have n0 : V.cell? ⟨w.heap.size, 0, none⟩ = some (.int .i64 0) := hnew.cell 0
  have n1 : V.cell? ⟨w.heap.size, 1, none⟩ = some (.int .i64 ev) := hnew.cell 1
  have d1 : V.drew.cell? ⟨w.heap.size, 1, none⟩ = some (.int .i64 ev) := hnew.cell 1
  have HEZ := Lib.hid EZ
  have HEX := Lib.hid EX
  clear hV hBV hnew SV hx hy ox oy EZ EX hz hz' hx' hy'
  rcases hzz : (z == z') with _ | _
  · have hne : (z != z') = true := by simpa using hzz
    have hw : x = y → False := fun e => by have := HEZ.out e; rw [this] at hzz; simp at hzz
    have HW := Lib.hid hw
    clear hw hzz
    go_enter Try.func19, Try.ntmps19
    go_upto_region 1 with (fail)
    rw [HV.out]
    go_upto_region 5 with (fail)
    go_region_held3 (fun w' => w'.cell? ⟨w.heap.size, 1, none⟩ = some (.int .i64 ev)) (go_keep) (first | (go_at_call 22; (with_reducible refine C.out.mono ?_); rintro e W2 ⟨rfl, a1, c3⟩; have C3 := Lib.hid c3; clear c3) | (go_at_call 34; (with_reducible refine C3.out.mono ?_); rintro e W3 ⟨rfl, b1, s3⟩; have S3 := Lib.hid s3; clear s3))
    all_goals
      go_wp2_with fail
      go_ret
      exact ⟨_, rfl, fun e => (HW.out e).elim, S3.out⟩
  · have hze : (z != z') = false := by simpa using hzz
    clear hzz
    have E3 : ∀ W, (Op.equalIn 10000 34 (.agg #[.int .i64 x'.t0, .int .i64 x'.t1, .int .i64 x'.t2, .int .i64 x'.t3, .int .i64 x'.t4]) (.agg #[.int .i64 y'.t0, .int .i64 y'.t1, .int .i64 y'.t2, .int .i64 y'.t3, .int .i64 y'.t4])).run Try.prog W = .ok (eqT5 x' y') W := fun W => times_eq _ _ _ _ _ _ _ _ _ _ W
    have HT : x = y → eqT5 x' y' = true ∧ (x'.s == y'.s) = true ∧ (x'.pt == y'.pt) = true ∧ (x'.pm == y'.pm) = true := fun e => by
      have e2 := HEX.out e
      rw [e2]
      unfold eqT5
      simp
    have HTT := Lib.hid HT
    clear HT
    obtain ⟨bt, hbt⟩ : ∃ bt, eqT5 x' y' = bt := ⟨_, rfl⟩
    rw [hbt] at E3 HTT
    clear hbt
    have HP : Hid (∀ W, StE w W g h x' y' → Calls Try.prog 25 #[.pointer (some ⟨g, 0, none⟩)] W fun r w' => r = .returned (.tuple #[.bool x'.pt, .bool x'.pm]) ∧ RC w' h y' ∧ Hid (StE w w' g h x' y')) := by
      show ∀ W, _ → _
      intro W s
      refine (phProved_any g x' W s.1).mono ?_
      rintro r w' ⟨rfl, n, rfl⟩
      exact ⟨rfl, (s.drewN n).rc, s.drewN n⟩
    have HA : Hid (∀ W, StE w W g h x' y' → Calls Try.prog 21 #[.pointer (some ⟨g, 0, none⟩)] W fun r w' => r = .returned (.int .i64 x'.s) ∧ W = w') := fun W s => phAt_any g x' W s.1
    have HA2 : Hid (∀ W, StE w W g h x' y' → Calls Try.prog 21 #[.pointer (some ⟨g, 0, none⟩)] W fun r w' => r = .returned (.int .i64 x'.s) ∧ w' = W) := fun W s => (phAt_any g x' W s.1).mono fun _ _ ⟨a, b⟩ => ⟨a, b.symm⟩
    have HM : Hid (∀ W, StE w W g h x' y' → Calls Try.prog 26 #[.pointer (some ⟨g, 0, none⟩)] W fun r w' => r = .returned (.agg #[.int .i64 x'.t0, .int .i64 x'.t1, .int .i64 x'.t2, .int .i64 x'.t3, .int .i64 x'.t4]) ∧ RC w' h y' ∧ Hid (StE w w' g h x' y')) := by
      show ∀ W, _ → _
      intro W s
      refine (phTimes_any g x' W s.1).mono ?_
      rintro r w' ⟨rfl, hb⟩
      exact ⟨rfl, (s.below hb).rc, s.below hb⟩
    obtain ⟨s, mt, mm, pt, pm, t0, t1, t2, t3, t4⟩ := x'
    obtain ⟨s', mt', mm', pt', pm', t0', t1', t2', t3', t4'⟩ := y'
    simp only at E3 HTT HP HA HA2 HM
    rcases q1 : (s == s') with _ | _
    · have HN : Hid (bt = true ∧ (s == s') = true ∧ (pt == pt') = true ∧ (pm == pm') = true → False) := fun hh => by have := hh.2.1; rw [q1] at this; exact absurd this (by simp)
      go_enter Try.func19, Try.ntmps19
      go_upto_region 1 with (fail)
      rw [HV.out]
      go_upto_region 5 with (fail)
      go_region_held3 (fun w' => w'.cell? ⟨w.heap.size, 1, none⟩ = some (.int .i64 ev)) (go_keep) (first | (go_at_call 22; (with_reducible refine C.out.mono ?_); rintro e W2 ⟨rfl, a1, c3⟩; have C3 := Lib.hid c3; clear c3) | (go_at_call 34; (with_reducible refine C3.out.mono ?_); rintro e W3 ⟨rfl, b1, s3⟩; have S3 := Lib.hid s3; clear s3))
      all_goals
        go_upto_region 11 with (first | (go_at_call 25; refine (HP.out _ S3.out).mono ?_; rintro r w4 ⟨rfl, ⟨r0, r3, r4, r5, r6, r7, r8, r9⟩, S4⟩; have D4 : ∀ n, Hid (StE w (w4.drewN n) g h ⟨s, mt, mm, pt, pm, t0, t1, t2, t3, t4⟩ ⟨s', mt', mm', pt', pm', t0', t1', t2', t3', t4'⟩) := (fun n => S4.out.drewN n); have DD4 := Lib.hid D4; have D5 : Hid (StE w w4.drew g h ⟨s, mt, mm, pt, pm, t0, t1, t2, t3, t4⟩ ⟨s', mt', mm', pt', pm', t0', t1', t2', t3', t4'⟩) := S4.out.drewN 1; clear D4))
        go_quiet ((go_at_call 21; exact Calls.quiet_of_same (HA2.out _ (DD4.out _).out)))
        go_wp2_with fail
        go_ret
        exact ⟨_, rfl, fun e => (HN.out (HTT.out e)).elim, S4.out.drewN _⟩
    · rcases q2 : (pt == pt') with _ | _
      · have HN : Hid (bt = true ∧ (s == s') = true ∧ (pt == pt') = true ∧ (pm == pm') = true → False) := fun hh => by have := hh.2.2.1; rw [q2] at this; exact absurd this (by simp)
        go_enter Try.func19, Try.ntmps19
        go_upto_region 1 with (fail)
        rw [HV.out]
        go_upto_region 5 with (fail)
        go_region_held3 (fun w' => w'.cell? ⟨w.heap.size, 1, none⟩ = some (.int .i64 ev)) (go_keep) (first | (go_at_call 22; (with_reducible refine C.out.mono ?_); rintro e W2 ⟨rfl, a1, c3⟩; have C3 := Lib.hid c3; clear c3) | (go_at_call 34; (with_reducible refine C3.out.mono ?_); rintro e W3 ⟨rfl, b1, s3⟩; have S3 := Lib.hid s3; clear s3))
        all_goals
          go_upto_region 11 with (first | (go_at_call 25; refine (HP.out _ S3.out).mono ?_; rintro r w4 ⟨rfl, ⟨r0, r3, r4, r5, r6, r7, r8, r9⟩, S4⟩; have D4 : ∀ n, Hid (StE w (w4.drewN n) g h ⟨s, mt, mm, pt, pm, t0, t1, t2, t3, t4⟩ ⟨s', mt', mm', pt', pm', t0', t1', t2', t3', t4'⟩) := (fun n => S4.out.drewN n); have DD4 := Lib.hid D4; have D5 : Hid (StE w w4.drew g h ⟨s, mt, mm, pt, pm, t0, t1, t2, t3, t4⟩ ⟨s', mt', mm', pt', pm', t0', t1', t2', t3', t4'⟩) := S4.out.drewN 1; clear D4))
          go_quiet ((go_at_call 21; exact Calls.quiet_of_same (HA2.out _ (DD4.out _).out)))
          go_wp2_with fail
          go_ret
          exact ⟨_, rfl, fun e => (HN.out (HTT.out e)).elim, S4.out.drewN _⟩
      · rcases q3 : (pm == pm') with _ | _
        · have HN : Hid (bt = true ∧ (s == s') = true ∧ (pt == pt') = true ∧ (pm == pm') = true → False) := fun hh => by have := hh.2.2.2; rw [q3] at this; exact absurd this (by simp)
          go_enter Try.func19, Try.ntmps19
          go_upto_region 1 with (fail)
          rw [HV.out]
          go_upto_region 5 with (fail)
          go_region_held3 (fun w' => w'.cell? ⟨w.heap.size, 1, none⟩ = some (.int .i64 ev)) (go_keep) (first | (go_at_call 22; (with_reducible refine C.out.mono ?_); rintro e W2 ⟨rfl, a1, c3⟩; have C3 := Lib.hid c3; clear c3) | (go_at_call 34; (with_reducible refine C3.out.mono ?_); rintro e W3 ⟨rfl, b1, s3⟩; have S3 := Lib.hid s3; clear s3))
          all_goals
            go_upto_region 11 with (first | (go_at_call 25; refine (HP.out _ S3.out).mono ?_; rintro r w4 ⟨rfl, ⟨r0, r3, r4, r5, r6, r7, r8, r9⟩, S4⟩; have D4 : ∀ n, Hid (StE w (w4.drewN n) g h ⟨s, mt, mm, pt, pm, t0, t1, t2, t3, t4⟩ ⟨s', mt', mm', pt', pm', t0', t1', t2', t3', t4'⟩) := (fun n => S4.out.drewN n); have DD4 := Lib.hid D4; have D5 : Hid (StE w w4.drew g h ⟨s, mt, mm, pt, pm, t0, t1, t2, t3, t4⟩ ⟨s', mt', mm', pt', pm', t0', t1', t2', t3', t4'⟩) := S4.out.drewN 1; clear D4))
            go_quiet ((go_at_call 21; exact Calls.quiet_of_same (HA2.out _ (DD4.out _).out)))
            go_wp2_with fail
            go_ret
            exact ⟨_, rfl, fun e => (HN.out (HTT.out e)).elim, S4.out.drewN _⟩
        · skip
          go_enter Try.func19, Try.ntmps19
          go_upto_region 1 with (fail)
          rw [HV.out]
          go_upto_region 5 with (fail)
          go_region_held3 (fun w' => w'.cell? ⟨w.heap.size, 1, none⟩ = some (.int .i64 ev)) (go_keep) (first | (go_at_call 22; (with_reducible refine C.out.mono ?_); rintro e W2 ⟨rfl, a1, c3⟩; have C3 := Lib.hid c3; clear c3) | (go_at_call 34; (with_reducible refine C3.out.mono ?_); rintro e W3 ⟨rfl, b1, s3⟩; have S3 := Lib.hid s3; clear s3))
          all_goals
            go_upto_region 11 with (first | (go_at_call 25; refine (HP.out _ S3.out).mono ?_; rintro r w4 ⟨rfl, ⟨r0, r3, r4, r5, r6, r7, r8, r9⟩, S4⟩; have D4 : ∀ n, Hid (StE w (w4.drewN n) g h ⟨s, mt, mm, pt, pm, t0, t1, t2, t3, t4⟩ ⟨s', mt', mm', pt', pm', t0', t1', t2', t3', t4'⟩) := (fun n => S4.out.drewN n); have DD4 := Lib.hid D4; have D5 : Hid (StE w w4.drew g h ⟨s, mt, mm, pt, pm, t0, t1, t2, t3, t4⟩ ⟨s', mt', mm', pt', pm', t0', t1', t2', t3', t4'⟩) := S4.out.drewN 1; clear D4))
            go_region_held3 (fun w' => w'.cell? ⟨h, 0, none⟩ = some (.int .i64 s') ∧ w'.cell? ⟨h, 3, none⟩ = some (.bool pt') ∧ w'.cell? ⟨h, 4, none⟩ = some (.bool pm') ∧ w'.cell? ⟨h, 5, none⟩ = some (.int .i64 t0') ∧ w'.cell? ⟨h, 6, none⟩ = some (.int .i64 t1') ∧ w'.cell? ⟨h, 7, none⟩ = some (.int .i64 t2') ∧ w'.cell? ⟨h, 8, none⟩ = some (.int .i64 t3') ∧ w'.cell? ⟨h, 9, none⟩ = some (.int .i64 t4')) (go_keep) (first | (go_at_call 21; (with_reducible refine (HA.out _ D5.out).mono ?_); rintro e W5 ⟨rfl, rfl⟩) | (go_at_call 26; (with_reducible refine (HM.out _ D5.out).mono ?_); rintro e W6 ⟨rfl, ⟨y0, y3, y4, y5, y6, y7, y8, y9⟩, S6⟩))
            all_goals
              go_wp2_with fail
              go_ret
              exact ⟨_, rfl, fun e => (HTT.out e).1, S6.out⟩
theorem step_1 (g h : Nat) (x y : PhS) (ev : Int) (a b : Bool) (j : Int) (w : World) (hx : TrB w g x) (hy : RrB w h y) (hgh : g ≠ h) (ox : PhOk x j) (oy : PhOk y j) (hj : j < 1000000000) :
    Calls Try.prog 19 #[.pointer (some ⟨g, 0, none⟩), .pointer (some ⟨h, 0, none⟩), .agg #[.int .i64 1, .int .i64 ev, .bool a, .bool b]] w (StP w g h x y (phOX x a b) (phOX y a b)) := by
  obtain ⟨V, hV⟩ : ∃ V, w.alloc (.cells #[.int .i64 1, .int .i64 ev, .bool a, .bool b] 38) = V := ⟨_, rfl⟩
  have hBV : Below w.heap.size w V := by rw [← hV]; exact (Below.refl _ _).alloc (Nat.le_refl _) _
  have hnew : Blk V w.heap.size 38 [.int .i64 1, .int .i64 ev, .bool a, .bool b] := by rw [← hV]; exact blk_new w _ _
  have lg : g < w.heap.size := hx.lt
  have lh : h < w.heap.size := hy.lt
  have SV : StE w V g h x y := ⟨hx.below hBV, hy.below hBV, Only2.of_below g h hBV⟩
  have C : Hid (Calls Try.prog 23 #[.pointer (some ⟨g, 0, none⟩), .bool a, .bool b] V.drew fun e w2 => e = .returned (.int .i64 (phOE x)) ∧ w2.cell? ⟨w.heap.size, 2, none⟩ = some (.bool a) ∧ w2.cell? ⟨w.heap.size, 3, none⟩ = some (.bool b) ∧
      Calls Try.prog 35 #[.pointer (some ⟨h, 0, none⟩), .bool a, .bool b] w2 fun e w3 => e = .returned (.int .i64 (phOE y)) ∧ w3.cell? ⟨w.heap.size, 2, none⟩ = some (.bool a) ∧ w3.cell? ⟨w.heap.size, 3, none⟩ = some (.bool b) ∧ StE w w3 g h (phOX x a b) (phOX y a b)) := by
    refine (phOpen_any g x a b j _ (SV.drewN 1).1 ox hj).mono ?_
    rintro e w2 ⟨rfl, h1, g1⟩
    have hr2 : RrB w2 h y := RrB.row (show RrB V.drew h y from SV.2.1) g1 (Ne.symm hgh)
    have hb2 : Blk w2 w.heap.size 38 [.int .i64 1, .int .i64 ev, .bool a, .bool b] := Blk.grown (show Blk V.drew w.heap.size 38 [.int .i64 1, .int .i64 ev, .bool a, .bool b] from hnew) g1 (fun e => by injection e with e; omega)
    refine ⟨rfl, hb2.cell 2, hb2.cell 3, (ropen_any h y a b j w2 hr2 oy hj).mono ?_⟩
    rintro e w3 ⟨rfl, h3, g3⟩
    have hb3 : Blk w3 w.heap.size 38 [.int .i64 1, .int .i64 ev, .bool a, .bool b] := Blk.grown hb2 g3 (fun e => by injection e with e; omega)
    exact ⟨rfl, hb3.cell 2, hb3.cell 3, TrB.row h1 g3 hgh, h3, ((SV.drewN 1).2.2.trans (Only2.left g1)).trans (Only2.right g3)⟩
  have EZ : x = y → phOE x = phOE y := fun e => by rw [e]
  have EX : x = y → (phOX x a b) = (phOX y a b) := fun e => by rw [e]
  obtain ⟨z, hz⟩ : ∃ z, phOE x = z := ⟨_, rfl⟩
  obtain ⟨z', hz'⟩ : ∃ z', phOE y = z' := ⟨_, rfl⟩
  obtain ⟨x', hx'⟩ : ∃ x', (phOX x a b) = x' := ⟨_, rfl⟩
  obtain ⟨y', hy'⟩ : ∃ y', (phOX y a b) = y' := ⟨_, rfl⟩
  rw [hz, hz', hx', hy'] at C
  rw [hz, hz'] at EZ
  rw [hx', hy'] at EX
  rw [hx', hy']
  have HV := Lib.hid hV
  have n0 : V.cell? ⟨w.heap.size, 0, none⟩ = some (.int .i64 1) := hnew.cell 0
  have n2 : V.cell? ⟨w.heap.size, 2, none⟩ = some (.bool a) := hnew.cell 2
  have d2 : V.drew.cell? ⟨w.heap.size, 2, none⟩ = some (.bool a) := hnew.cell 2
  have n3 : V.cell? ⟨w.heap.size, 3, none⟩ = some (.bool b) := hnew.cell 3
  have d3 : V.drew.cell? ⟨w.heap.size, 3, none⟩ = some (.bool b) := hnew.cell 3
  have HEZ := Lib.hid EZ
  have HEX := Lib.hid EX
  clear hV hBV hnew SV hx hy ox oy EZ EX hz hz' hx' hy'
  rcases hzz : (z == z') with _ | _
  · have hne : (z != z') = true := by simpa using hzz
    have hw : x = y → False := fun e => by have := HEZ.out e; rw [this] at hzz; simp at hzz
    have HW := Lib.hid hw
    clear hw hzz
    go_enter Try.func19, Try.ntmps19
    go_upto_region 1 with (fail)
    rw [HV.out]
    go_upto_region 8 with (fail)
    go_region_held3 (fun w' => w'.cell? ⟨w.heap.size, 2, none⟩ = some (.bool a) ∧ w'.cell? ⟨w.heap.size, 3, none⟩ = some (.bool b)) (go_keep) (first | (go_at_call 23; (with_reducible refine C.out.mono ?_); rintro e W2 ⟨rfl, a2, a3, c3⟩; have C3 := Lib.hid c3; clear c3) | (go_at_call 35; (with_reducible refine C3.out.mono ?_); rintro e W3 ⟨rfl, b2, b3, s3⟩; have S3 := Lib.hid s3; clear s3))
    all_goals
      go_wp2_with fail
      go_ret
      exact ⟨_, rfl, fun e => (HW.out e).elim, S3.out⟩
  · have hze : (z != z') = false := by simpa using hzz
    clear hzz
    have E3 : ∀ W, (Op.equalIn 10000 34 (.agg #[.int .i64 x'.t0, .int .i64 x'.t1, .int .i64 x'.t2, .int .i64 x'.t3, .int .i64 x'.t4]) (.agg #[.int .i64 y'.t0, .int .i64 y'.t1, .int .i64 y'.t2, .int .i64 y'.t3, .int .i64 y'.t4])).run Try.prog W = .ok (eqT5 x' y') W := fun W => times_eq _ _ _ _ _ _ _ _ _ _ W
    have HT : x = y → eqT5 x' y' = true ∧ (x'.s == y'.s) = true ∧ (x'.pt == y'.pt) = true ∧ (x'.pm == y'.pm) = true := fun e => by
      have e2 := HEX.out e
      rw [e2]
      unfold eqT5
      simp
    have HTT := Lib.hid HT
    clear HT
    obtain ⟨bt, hbt⟩ : ∃ bt, eqT5 x' y' = bt := ⟨_, rfl⟩
    rw [hbt] at E3 HTT
    clear hbt
    have HP : Hid (∀ W, StE w W g h x' y' → Calls Try.prog 25 #[.pointer (some ⟨g, 0, none⟩)] W fun r w' => r = .returned (.tuple #[.bool x'.pt, .bool x'.pm]) ∧ RC w' h y' ∧ Hid (StE w w' g h x' y')) := by
      show ∀ W, _ → _
      intro W s
      refine (phProved_any g x' W s.1).mono ?_
      rintro r w' ⟨rfl, n, rfl⟩
      exact ⟨rfl, (s.drewN n).rc, s.drewN n⟩
    have HA : Hid (∀ W, StE w W g h x' y' → Calls Try.prog 21 #[.pointer (some ⟨g, 0, none⟩)] W fun r w' => r = .returned (.int .i64 x'.s) ∧ W = w') := fun W s => phAt_any g x' W s.1
    have HA2 : Hid (∀ W, StE w W g h x' y' → Calls Try.prog 21 #[.pointer (some ⟨g, 0, none⟩)] W fun r w' => r = .returned (.int .i64 x'.s) ∧ w' = W) := fun W s => (phAt_any g x' W s.1).mono fun _ _ ⟨a, b⟩ => ⟨a, b.symm⟩
    have HM : Hid (∀ W, StE w W g h x' y' → Calls Try.prog 26 #[.pointer (some ⟨g, 0, none⟩)] W fun r w' => r = .returned (.agg #[.int .i64 x'.t0, .int .i64 x'.t1, .int .i64 x'.t2, .int .i64 x'.t3, .int .i64 x'.t4]) ∧ RC w' h y' ∧ Hid (StE w w' g h x' y')) := by
      show ∀ W, _ → _
      intro W s
      refine (phTimes_any g x' W s.1).mono ?_
      rintro r w' ⟨rfl, hb⟩
      exact ⟨rfl, (s.below hb).rc, s.below hb⟩
    obtain ⟨s, mt, mm, pt, pm, t0, t1, t2, t3, t4⟩ := x'
    obtain ⟨s', mt', mm', pt', pm', t0', t1', t2', t3', t4'⟩ := y'
    simp only at E3 HTT HP HA HA2 HM
    rcases q1 : (s == s') with _ | _
    · have HN : Hid (bt = true ∧ (s == s') = true ∧ (pt == pt') = true ∧ (pm == pm') = true → False) := fun hh => by have := hh.2.1; rw [q1] at this; exact absurd this (by simp)
      go_enter Try.func19, Try.ntmps19
      go_upto_region 1 with (fail)
      rw [HV.out]
      go_upto_region 8 with (fail)
      go_region_held3 (fun w' => w'.cell? ⟨w.heap.size, 2, none⟩ = some (.bool a) ∧ w'.cell? ⟨w.heap.size, 3, none⟩ = some (.bool b)) (go_keep) (first | (go_at_call 23; (with_reducible refine C.out.mono ?_); rintro e W2 ⟨rfl, a2, a3, c3⟩; have C3 := Lib.hid c3; clear c3) | (go_at_call 35; (with_reducible refine C3.out.mono ?_); rintro e W3 ⟨rfl, b2, b3, s3⟩; have S3 := Lib.hid s3; clear s3))
      all_goals
        go_upto_region 11 with (first | (go_at_call 25; refine (HP.out _ S3.out).mono ?_; rintro r w4 ⟨rfl, ⟨r0, r3, r4, r5, r6, r7, r8, r9⟩, S4⟩; have D4 : ∀ n, Hid (StE w (w4.drewN n) g h ⟨s, mt, mm, pt, pm, t0, t1, t2, t3, t4⟩ ⟨s', mt', mm', pt', pm', t0', t1', t2', t3', t4'⟩) := (fun n => S4.out.drewN n); have DD4 := Lib.hid D4; have D5 : Hid (StE w w4.drew g h ⟨s, mt, mm, pt, pm, t0, t1, t2, t3, t4⟩ ⟨s', mt', mm', pt', pm', t0', t1', t2', t3', t4'⟩) := S4.out.drewN 1; clear D4))
        go_quiet ((go_at_call 21; exact Calls.quiet_of_same (HA2.out _ (DD4.out _).out)))
        go_wp2_with fail
        go_ret
        exact ⟨_, rfl, fun e => (HN.out (HTT.out e)).elim, S4.out.drewN _⟩
    · rcases q2 : (pt == pt') with _ | _
      · have HN : Hid (bt = true ∧ (s == s') = true ∧ (pt == pt') = true ∧ (pm == pm') = true → False) := fun hh => by have := hh.2.2.1; rw [q2] at this; exact absurd this (by simp)
        go_enter Try.func19, Try.ntmps19
        go_upto_region 1 with (fail)
        rw [HV.out]
        go_upto_region 8 with (fail)
        go_region_held3 (fun w' => w'.cell? ⟨w.heap.size, 2, none⟩ = some (.bool a) ∧ w'.cell? ⟨w.heap.size, 3, none⟩ = some (.bool b)) (go_keep) (first | (go_at_call 23; (with_reducible refine C.out.mono ?_); rintro e W2 ⟨rfl, a2, a3, c3⟩; have C3 := Lib.hid c3; clear c3) | (go_at_call 35; (with_reducible refine C3.out.mono ?_); rintro e W3 ⟨rfl, b2, b3, s3⟩; have S3 := Lib.hid s3; clear s3))
        all_goals
          go_upto_region 11 with (first | (go_at_call 25; refine (HP.out _ S3.out).mono ?_; rintro r w4 ⟨rfl, ⟨r0, r3, r4, r5, r6, r7, r8, r9⟩, S4⟩; have D4 : ∀ n, Hid (StE w (w4.drewN n) g h ⟨s, mt, mm, pt, pm, t0, t1, t2, t3, t4⟩ ⟨s', mt', mm', pt', pm', t0', t1', t2', t3', t4'⟩) := (fun n => S4.out.drewN n); have DD4 := Lib.hid D4; have D5 : Hid (StE w w4.drew g h ⟨s, mt, mm, pt, pm, t0, t1, t2, t3, t4⟩ ⟨s', mt', mm', pt', pm', t0', t1', t2', t3', t4'⟩) := S4.out.drewN 1; clear D4))
          go_quiet ((go_at_call 21; exact Calls.quiet_of_same (HA2.out _ (DD4.out _).out)))
          go_wp2_with fail
          go_ret
          exact ⟨_, rfl, fun e => (HN.out (HTT.out e)).elim, S4.out.drewN _⟩
      · rcases q3 : (pm == pm') with _ | _
        · have HN : Hid (bt = true ∧ (s == s') = true ∧ (pt == pt') = true ∧ (pm == pm') = true → False) := fun hh => by have := hh.2.2.2; rw [q3] at this; exact absurd this (by simp)
          go_enter Try.func19, Try.ntmps19
          go_upto_region 1 with (fail)
          rw [HV.out]
          go_upto_region 8 with (fail)
          go_region_held3 (fun w' => w'.cell? ⟨w.heap.size, 2, none⟩ = some (.bool a) ∧ w'.cell? ⟨w.heap.size, 3, none⟩ = some (.bool b)) (go_keep) (first | (go_at_call 23; (with_reducible refine C.out.mono ?_); rintro e W2 ⟨rfl, a2, a3, c3⟩; have C3 := Lib.hid c3; clear c3) | (go_at_call 35; (with_reducible refine C3.out.mono ?_); rintro e W3 ⟨rfl, b2, b3, s3⟩; have S3 := Lib.hid s3; clear s3))
          all_goals
            go_upto_region 11 with (first | (go_at_call 25; refine (HP.out _ S3.out).mono ?_; rintro r w4 ⟨rfl, ⟨r0, r3, r4, r5, r6, r7, r8, r9⟩, S4⟩; have D4 : ∀ n, Hid (StE w (w4.drewN n) g h ⟨s, mt, mm, pt, pm, t0, t1, t2, t3, t4⟩ ⟨s', mt', mm', pt', pm', t0', t1', t2', t3', t4'⟩) := (fun n => S4.out.drewN n); have DD4 := Lib.hid D4; have D5 : Hid (StE w w4.drew g h ⟨s, mt, mm, pt, pm, t0, t1, t2, t3, t4⟩ ⟨s', mt', mm', pt', pm', t0', t1', t2', t3', t4'⟩) := S4.out.drewN 1; clear D4))
            go_quiet ((go_at_call 21; exact Calls.quiet_of_same (HA2.out _ (DD4.out _).out)))
            go_wp2_with fail
            go_ret
            exact ⟨_, rfl, fun e => (HN.out (HTT.out e)).elim, S4.out.drewN _⟩
        · skip
          go_enter Try.func19, Try.ntmps19
          go_upto_region 1 with (fail)
          rw [HV.out]
          go_upto_region 8 with (fail)
          go_region_held3 (fun w' => w'.cell? ⟨w.heap.size, 2, none⟩ = some (.bool a) ∧ w'.cell? ⟨w.heap.size, 3, none⟩ = some (.bool b)) (go_keep) (first | (go_at_call 23; (with_reducible refine C.out.mono ?_); rintro e W2 ⟨rfl, a2, a3, c3⟩; have C3 := Lib.hid c3; clear c3) | (go_at_call 35; (with_reducible refine C3.out.mono ?_); rintro e W3 ⟨rfl, b2, b3, s3⟩; have S3 := Lib.hid s3; clear s3))
          all_goals
            go_upto_region 11 with (first | (go_at_call 25; refine (HP.out _ S3.out).mono ?_; rintro r w4 ⟨rfl, ⟨r0, r3, r4, r5, r6, r7, r8, r9⟩, S4⟩; have D4 : ∀ n, Hid (StE w (w4.drewN n) g h ⟨s, mt, mm, pt, pm, t0, t1, t2, t3, t4⟩ ⟨s', mt', mm', pt', pm', t0', t1', t2', t3', t4'⟩) := (fun n => S4.out.drewN n); have DD4 := Lib.hid D4; have D5 : Hid (StE w w4.drew g h ⟨s, mt, mm, pt, pm, t0, t1, t2, t3, t4⟩ ⟨s', mt', mm', pt', pm', t0', t1', t2', t3', t4'⟩) := S4.out.drewN 1; clear D4))
            go_region_held3 (fun w' => w'.cell? ⟨h, 0, none⟩ = some (.int .i64 s') ∧ w'.cell? ⟨h, 3, none⟩ = some (.bool pt') ∧ w'.cell? ⟨h, 4, none⟩ = some (.bool pm') ∧ w'.cell? ⟨h, 5, none⟩ = some (.int .i64 t0') ∧ w'.cell? ⟨h, 6, none⟩ = some (.int .i64 t1') ∧ w'.cell? ⟨h, 7, none⟩ = some (.int .i64 t2') ∧ w'.cell? ⟨h, 8, none⟩ = some (.int .i64 t3') ∧ w'.cell? ⟨h, 9, none⟩ = some (.int .i64 t4')) (go_keep) (first | (go_at_call 21; (with_reducible refine (HA.out _ D5.out).mono ?_); rintro e W5 ⟨rfl, rfl⟩) | (go_at_call 26; (with_reducible refine (HM.out _ D5.out).mono ?_); rintro e W6 ⟨rfl, ⟨y0, y3, y4, y5, y6, y7, y8, y9⟩, S6⟩))
            all_goals
              go_wp2_with fail
              go_ret
              exact ⟨_, rfl, fun e => (HTT.out e).1, S6.out⟩
theorem step_p (g h : Nat) (x y : PhS) (k : Int) (ev : Int) (a b : Bool) (j : Int) (w : World) (hx : TrB w g x) (hy : RrB w h y) (hgh : g ≠ h) (ox : PhOk x j) (oy : PhOk y j) (hj : j < 1000000000) (k0 : k ≠ 0) (k1 : k ≠ 1) :
    Calls Try.prog 19 #[.pointer (some ⟨g, 0, none⟩), .pointer (some ⟨h, 0, none⟩), .agg #[.int .i64 k, .int .i64 ev, .bool a, .bool b]] w (StP w g h x y x y) := by
  obtain ⟨V, hV⟩ : ∃ V, w.alloc (.cells #[.int .i64 k, .int .i64 ev, .bool a, .bool b] 38) = V := ⟨_, rfl⟩
  have hBV : Below w.heap.size w V := by rw [← hV]; exact (Below.refl _ _).alloc (Nat.le_refl _) _
  have hnew : Blk V w.heap.size 38 [.int .i64 k, .int .i64 ev, .bool a, .bool b] := by rw [← hV]; exact blk_new w _ _
  have lg : g < w.heap.size := hx.lt
  have lh : h < w.heap.size := hy.lt
  have SV : StE w V g h x y := ⟨hx.below hBV, hy.below hBV, Only2.of_below g h hBV⟩
  have EX : x = y → x = y := fun e => e
  obtain ⟨x', hx'⟩ : ∃ x', x' = x := ⟨_, rfl⟩
  obtain ⟨y', hy'⟩ : ∃ y', y' = y := ⟨_, rfl⟩
  have EZ : x = y → passB x.s ev = passB y.s ev := fun e => by rw [e]
  have ck : V.cell? ⟨w.heap.size, 0, none⟩ = some (.int .i64 k) := hnew.cell 0
  have ce : V.cell? ⟨w.heap.size, 1, none⟩ = some (.int .i64 ev) := hnew.cell 1
  have cs : V.cell? ⟨h, 0, none⟩ = some (.int .i64 y.s) := SV.2.1.cell 0
  have u0 : (k == 0) = false := by simpa using k0
  have u1 : (k == 1) = false := by simpa using k1
  have P1 : Hid (∀ n, Calls Try.prog 24 #[.pointer (some ⟨g, 0, none⟩), .int .i64 ev] (V.drewN n) fun r w' => r = .returned (.bool (passB x.s ev)) ∧ w' = V.drewN n) := fun n => (phPass_any g x ev (V.drewN n) SV.1).mono fun _ _ ⟨a, b⟩ => ⟨a, b.symm⟩
  have P2 : Hid (∀ n, Calls Try.prog 16 #[.int .i64 y.s, .int .i64 ev] (V.drewN n) fun r w' => r = .returned (.bool (passB y.s ev)) ∧ w' = V.drewN n) := fun n => (rpasses_any y.s ev (V.drewN n)).mono fun _ _ ⟨a, b⟩ => ⟨a, b.symm⟩
  obtain ⟨z, hz⟩ : ∃ z, passB x.s ev = z := ⟨_, rfl⟩
  obtain ⟨z', hz'⟩ : ∃ z', passB y.s ev = z' := ⟨_, rfl⟩
  rw [hz] at P1
  rw [hz'] at P2
  rw [hz, hz'] at EZ
  have SVH := Lib.hid SV
  have HV := Lib.hid hV
  have HEZ := Lib.hid EZ
  have HEX := Lib.hid EX
  clear hV hBV hnew SV hx hy ox oy EZ EX hz hz' k0 k1
  rcases z with _ | _
  · rcases z' with _ | _
    · skip
      have E3 : ∀ W, (Op.equalIn 10000 34 (.agg #[.int .i64 x'.t0, .int .i64 x'.t1, .int .i64 x'.t2, .int .i64 x'.t3, .int .i64 x'.t4]) (.agg #[.int .i64 y'.t0, .int .i64 y'.t1, .int .i64 y'.t2, .int .i64 y'.t3, .int .i64 y'.t4])).run Try.prog W = .ok (eqT5 x' y') W := fun W => times_eq _ _ _ _ _ _ _ _ _ _ W
      have HT : x = y → eqT5 x' y' = true ∧ (x'.s == y'.s) = true ∧ (x'.pt == y'.pt) = true ∧ (x'.pm == y'.pm) = true := fun e => by
        have e2 := HEX.out e
        rw [hx', hy'] 
        rw [e2]
        unfold eqT5
        simp
      have HTT := Lib.hid HT
      clear HT
      obtain ⟨bt, hbt⟩ : ∃ bt, eqT5 x' y' = bt := ⟨_, rfl⟩
      rw [hbt] at E3 HTT
      clear hbt
      have SQ : Hid (∀ n, StE w (V.drewN n) g h x' y') := fun n => by rw [hx', hy']; exact SVH.out.drewN n
      rw [show StP w g h x y x y = StP w g h x y x' y' by rw [hx', hy']]
      clear hx' hy' SVH
      have HP : Hid (∀ W, StE w W g h x' y' → Calls Try.prog 25 #[.pointer (some ⟨g, 0, none⟩)] W fun r w' => r = .returned (.tuple #[.bool x'.pt, .bool x'.pm]) ∧ RC w' h y' ∧ Hid (StE w w' g h x' y')) := by
        show ∀ W, _ → _
        intro W s
        refine (phProved_any g x' W s.1).mono ?_
        rintro r w' ⟨rfl, n, rfl⟩
        exact ⟨rfl, (s.drewN n).rc, s.drewN n⟩
      have HA : Hid (∀ W, StE w W g h x' y' → Calls Try.prog 21 #[.pointer (some ⟨g, 0, none⟩)] W fun r w' => r = .returned (.int .i64 x'.s) ∧ W = w') := fun W s => phAt_any g x' W s.1
      have HA2 : Hid (∀ W, StE w W g h x' y' → Calls Try.prog 21 #[.pointer (some ⟨g, 0, none⟩)] W fun r w' => r = .returned (.int .i64 x'.s) ∧ w' = W) := fun W s => (phAt_any g x' W s.1).mono fun _ _ ⟨a, b⟩ => ⟨a, b.symm⟩
      have HM : Hid (∀ W, StE w W g h x' y' → Calls Try.prog 26 #[.pointer (some ⟨g, 0, none⟩)] W fun r w' => r = .returned (.agg #[.int .i64 x'.t0, .int .i64 x'.t1, .int .i64 x'.t2, .int .i64 x'.t3, .int .i64 x'.t4]) ∧ RC w' h y' ∧ Hid (StE w w' g h x' y')) := by
        show ∀ W, _ → _
        intro W s
        refine (phTimes_any g x' W s.1).mono ?_
        rintro r w' ⟨rfl, hb⟩
        exact ⟨rfl, (s.below hb).rc, s.below hb⟩
      obtain ⟨s, mt, mm, pt, pm, t0, t1, t2, t3, t4⟩ := x'
      obtain ⟨s', mt', mm', pt', pm', t0', t1', t2', t3', t4'⟩ := y'
      simp only at E3 HTT HP HA HA2 HM
      rcases q1 : (s == s') with _ | _
      · have HN : Hid (bt = true ∧ (s == s') = true ∧ (pt == pt') = true ∧ (pm == pm') = true → False) := fun hh => by have := hh.2.1; rw [q1] at this; exact absurd this (by simp)
        go_enter Try.func19, Try.ntmps19
        go_upto_region 1 with (fail)
        rw [HV.out]
        go_upto_region 2 with (fail)
        go_quiet (first | (go_at_call 24; exact Calls.quiet_of_same (P1.out _)) | (go_at_call 16; exact Calls.quiet_of_same (P2.out _)))
        go_upto_region 11 with (first | (go_at_call 25; refine (HP.out _ (SQ.out _)).mono ?_; rintro r w4 ⟨rfl, ⟨r0, r3, r4, r5, r6, r7, r8, r9⟩, S4⟩; have D4 : ∀ n, Hid (StE w (w4.drewN n) g h ⟨s, mt, mm, pt, pm, t0, t1, t2, t3, t4⟩ ⟨s', mt', mm', pt', pm', t0', t1', t2', t3', t4'⟩) := (fun n => S4.out.drewN n); have DD4 := Lib.hid D4; have D5 : Hid (StE w w4.drew g h ⟨s, mt, mm, pt, pm, t0, t1, t2, t3, t4⟩ ⟨s', mt', mm', pt', pm', t0', t1', t2', t3', t4'⟩) := S4.out.drewN 1; clear D4))
        go_quiet ((go_at_call 21; exact Calls.quiet_of_same (HA2.out _ (DD4.out _).out)))
        go_wp2_with fail
        go_ret
        exact ⟨_, rfl, fun e => (HN.out (HTT.out e)).elim, S4.out.drewN _⟩
      · rcases q2 : (pt == pt') with _ | _
        · have HN : Hid (bt = true ∧ (s == s') = true ∧ (pt == pt') = true ∧ (pm == pm') = true → False) := fun hh => by have := hh.2.2.1; rw [q2] at this; exact absurd this (by simp)
          go_enter Try.func19, Try.ntmps19
          go_upto_region 1 with (fail)
          rw [HV.out]
          go_upto_region 2 with (fail)
          go_quiet (first | (go_at_call 24; exact Calls.quiet_of_same (P1.out _)) | (go_at_call 16; exact Calls.quiet_of_same (P2.out _)))
          go_upto_region 11 with (first | (go_at_call 25; refine (HP.out _ (SQ.out _)).mono ?_; rintro r w4 ⟨rfl, ⟨r0, r3, r4, r5, r6, r7, r8, r9⟩, S4⟩; have D4 : ∀ n, Hid (StE w (w4.drewN n) g h ⟨s, mt, mm, pt, pm, t0, t1, t2, t3, t4⟩ ⟨s', mt', mm', pt', pm', t0', t1', t2', t3', t4'⟩) := (fun n => S4.out.drewN n); have DD4 := Lib.hid D4; have D5 : Hid (StE w w4.drew g h ⟨s, mt, mm, pt, pm, t0, t1, t2, t3, t4⟩ ⟨s', mt', mm', pt', pm', t0', t1', t2', t3', t4'⟩) := S4.out.drewN 1; clear D4))
          go_quiet ((go_at_call 21; exact Calls.quiet_of_same (HA2.out _ (DD4.out _).out)))
          go_wp2_with fail
          go_ret
          exact ⟨_, rfl, fun e => (HN.out (HTT.out e)).elim, S4.out.drewN _⟩
        · rcases q3 : (pm == pm') with _ | _
          · have HN : Hid (bt = true ∧ (s == s') = true ∧ (pt == pt') = true ∧ (pm == pm') = true → False) := fun hh => by have := hh.2.2.2; rw [q3] at this; exact absurd this (by simp)
            go_enter Try.func19, Try.ntmps19
            go_upto_region 1 with (fail)
            rw [HV.out]
            go_upto_region 2 with (fail)
            go_quiet (first | (go_at_call 24; exact Calls.quiet_of_same (P1.out _)) | (go_at_call 16; exact Calls.quiet_of_same (P2.out _)))
            go_upto_region 11 with (first | (go_at_call 25; refine (HP.out _ (SQ.out _)).mono ?_; rintro r w4 ⟨rfl, ⟨r0, r3, r4, r5, r6, r7, r8, r9⟩, S4⟩; have D4 : ∀ n, Hid (StE w (w4.drewN n) g h ⟨s, mt, mm, pt, pm, t0, t1, t2, t3, t4⟩ ⟨s', mt', mm', pt', pm', t0', t1', t2', t3', t4'⟩) := (fun n => S4.out.drewN n); have DD4 := Lib.hid D4; have D5 : Hid (StE w w4.drew g h ⟨s, mt, mm, pt, pm, t0, t1, t2, t3, t4⟩ ⟨s', mt', mm', pt', pm', t0', t1', t2', t3', t4'⟩) := S4.out.drewN 1; clear D4))
            go_quiet ((go_at_call 21; exact Calls.quiet_of_same (HA2.out _ (DD4.out _).out)))
            go_wp2_with fail
            go_ret
            exact ⟨_, rfl, fun e => (HN.out (HTT.out e)).elim, S4.out.drewN _⟩
          · skip
            go_enter Try.func19, Try.ntmps19
            go_upto_region 1 with (fail)
            rw [HV.out]
            go_upto_region 2 with (fail)
            go_quiet (first | (go_at_call 24; exact Calls.quiet_of_same (P1.out _)) | (go_at_call 16; exact Calls.quiet_of_same (P2.out _)))
            go_upto_region 11 with (first | (go_at_call 25; refine (HP.out _ (SQ.out _)).mono ?_; rintro r w4 ⟨rfl, ⟨r0, r3, r4, r5, r6, r7, r8, r9⟩, S4⟩; have D4 : ∀ n, Hid (StE w (w4.drewN n) g h ⟨s, mt, mm, pt, pm, t0, t1, t2, t3, t4⟩ ⟨s', mt', mm', pt', pm', t0', t1', t2', t3', t4'⟩) := (fun n => S4.out.drewN n); have DD4 := Lib.hid D4; have D5 : Hid (StE w w4.drew g h ⟨s, mt, mm, pt, pm, t0, t1, t2, t3, t4⟩ ⟨s', mt', mm', pt', pm', t0', t1', t2', t3', t4'⟩) := S4.out.drewN 1; clear D4))
            go_region_held3 (fun w' => w'.cell? ⟨h, 0, none⟩ = some (.int .i64 s') ∧ w'.cell? ⟨h, 3, none⟩ = some (.bool pt') ∧ w'.cell? ⟨h, 4, none⟩ = some (.bool pm') ∧ w'.cell? ⟨h, 5, none⟩ = some (.int .i64 t0') ∧ w'.cell? ⟨h, 6, none⟩ = some (.int .i64 t1') ∧ w'.cell? ⟨h, 7, none⟩ = some (.int .i64 t2') ∧ w'.cell? ⟨h, 8, none⟩ = some (.int .i64 t3') ∧ w'.cell? ⟨h, 9, none⟩ = some (.int .i64 t4')) (go_keep) (first | (go_at_call 21; (with_reducible refine (HA.out _ D5.out).mono ?_); rintro e W5 ⟨rfl, rfl⟩) | (go_at_call 26; (with_reducible refine (HM.out _ D5.out).mono ?_); rintro e W6 ⟨rfl, ⟨y0, y3, y4, y5, y6, y7, y8, y9⟩, S6⟩))
            all_goals
              go_wp2_with fail
              go_ret
              exact ⟨_, rfl, fun e => (HTT.out e).1, S6.out⟩
    · skip
      have hw : x = y → False := fun e => by have := HEZ.out e; simp at this
      have HW := Lib.hid hw
      clear hw
      go_enter Try.func19, Try.ntmps19
      go_upto_region 1 with (fail)
      rw [HV.out]
      go_upto_region 2 with (fail)
      go_quiet (first | (go_at_call 24; exact Calls.quiet_of_same (P1.out _)) | (go_at_call 16; exact Calls.quiet_of_same (P2.out _)))
      subst hx'
      subst hy'
      go_wp2_with fail
      go_ret
      exact ⟨_, rfl, fun e => (HW.out e).elim, SVH.out.drewN _⟩
  · rcases z' with _ | _
    · skip
      have hw : x = y → False := fun e => by have := HEZ.out e; simp at this
      have HW := Lib.hid hw
      clear hw
      go_enter Try.func19, Try.ntmps19
      go_upto_region 1 with (fail)
      rw [HV.out]
      go_upto_region 2 with (fail)
      go_quiet (first | (go_at_call 24; exact Calls.quiet_of_same (P1.out _)) | (go_at_call 16; exact Calls.quiet_of_same (P2.out _)))
      subst hx'
      subst hy'
      go_wp2_with fail
      go_ret
      exact ⟨_, rfl, fun e => (HW.out e).elim, SVH.out.drewN _⟩
    · skip
      have E3 : ∀ W, (Op.equalIn 10000 34 (.agg #[.int .i64 x'.t0, .int .i64 x'.t1, .int .i64 x'.t2, .int .i64 x'.t3, .int .i64 x'.t4]) (.agg #[.int .i64 y'.t0, .int .i64 y'.t1, .int .i64 y'.t2, .int .i64 y'.t3, .int .i64 y'.t4])).run Try.prog W = .ok (eqT5 x' y') W := fun W => times_eq _ _ _ _ _ _ _ _ _ _ W
      have HT : x = y → eqT5 x' y' = true ∧ (x'.s == y'.s) = true ∧ (x'.pt == y'.pt) = true ∧ (x'.pm == y'.pm) = true := fun e => by
        have e2 := HEX.out e
        rw [hx', hy'] 
        rw [e2]
        unfold eqT5
        simp
      have HTT := Lib.hid HT
      clear HT
      obtain ⟨bt, hbt⟩ : ∃ bt, eqT5 x' y' = bt := ⟨_, rfl⟩
      rw [hbt] at E3 HTT
      clear hbt
      have SQ : Hid (∀ n, StE w (V.drewN n) g h x' y') := fun n => by rw [hx', hy']; exact SVH.out.drewN n
      rw [show StP w g h x y x y = StP w g h x y x' y' by rw [hx', hy']]
      clear hx' hy' SVH
      have HP : Hid (∀ W, StE w W g h x' y' → Calls Try.prog 25 #[.pointer (some ⟨g, 0, none⟩)] W fun r w' => r = .returned (.tuple #[.bool x'.pt, .bool x'.pm]) ∧ RC w' h y' ∧ Hid (StE w w' g h x' y')) := by
        show ∀ W, _ → _
        intro W s
        refine (phProved_any g x' W s.1).mono ?_
        rintro r w' ⟨rfl, n, rfl⟩
        exact ⟨rfl, (s.drewN n).rc, s.drewN n⟩
      have HA : Hid (∀ W, StE w W g h x' y' → Calls Try.prog 21 #[.pointer (some ⟨g, 0, none⟩)] W fun r w' => r = .returned (.int .i64 x'.s) ∧ W = w') := fun W s => phAt_any g x' W s.1
      have HA2 : Hid (∀ W, StE w W g h x' y' → Calls Try.prog 21 #[.pointer (some ⟨g, 0, none⟩)] W fun r w' => r = .returned (.int .i64 x'.s) ∧ w' = W) := fun W s => (phAt_any g x' W s.1).mono fun _ _ ⟨a, b⟩ => ⟨a, b.symm⟩
      have HM : Hid (∀ W, StE w W g h x' y' → Calls Try.prog 26 #[.pointer (some ⟨g, 0, none⟩)] W fun r w' => r = .returned (.agg #[.int .i64 x'.t0, .int .i64 x'.t1, .int .i64 x'.t2, .int .i64 x'.t3, .int .i64 x'.t4]) ∧ RC w' h y' ∧ Hid (StE w w' g h x' y')) := by
        show ∀ W, _ → _
        intro W s
        refine (phTimes_any g x' W s.1).mono ?_
        rintro r w' ⟨rfl, hb⟩
        exact ⟨rfl, (s.below hb).rc, s.below hb⟩
      obtain ⟨s, mt, mm, pt, pm, t0, t1, t2, t3, t4⟩ := x'
      obtain ⟨s', mt', mm', pt', pm', t0', t1', t2', t3', t4'⟩ := y'
      simp only at E3 HTT HP HA HA2 HM
      rcases q1 : (s == s') with _ | _
      · have HN : Hid (bt = true ∧ (s == s') = true ∧ (pt == pt') = true ∧ (pm == pm') = true → False) := fun hh => by have := hh.2.1; rw [q1] at this; exact absurd this (by simp)
        go_enter Try.func19, Try.ntmps19
        go_upto_region 1 with (fail)
        rw [HV.out]
        go_upto_region 2 with (fail)
        go_quiet (first | (go_at_call 24; exact Calls.quiet_of_same (P1.out _)) | (go_at_call 16; exact Calls.quiet_of_same (P2.out _)))
        go_upto_region 11 with (first | (go_at_call 25; refine (HP.out _ (SQ.out _)).mono ?_; rintro r w4 ⟨rfl, ⟨r0, r3, r4, r5, r6, r7, r8, r9⟩, S4⟩; have D4 : ∀ n, Hid (StE w (w4.drewN n) g h ⟨s, mt, mm, pt, pm, t0, t1, t2, t3, t4⟩ ⟨s', mt', mm', pt', pm', t0', t1', t2', t3', t4'⟩) := (fun n => S4.out.drewN n); have DD4 := Lib.hid D4; have D5 : Hid (StE w w4.drew g h ⟨s, mt, mm, pt, pm, t0, t1, t2, t3, t4⟩ ⟨s', mt', mm', pt', pm', t0', t1', t2', t3', t4'⟩) := S4.out.drewN 1; clear D4))
        go_quiet ((go_at_call 21; exact Calls.quiet_of_same (HA2.out _ (DD4.out _).out)))
        go_wp2_with fail
        go_ret
        exact ⟨_, rfl, fun e => (HN.out (HTT.out e)).elim, S4.out.drewN _⟩
      · rcases q2 : (pt == pt') with _ | _
        · have HN : Hid (bt = true ∧ (s == s') = true ∧ (pt == pt') = true ∧ (pm == pm') = true → False) := fun hh => by have := hh.2.2.1; rw [q2] at this; exact absurd this (by simp)
          go_enter Try.func19, Try.ntmps19
          go_upto_region 1 with (fail)
          rw [HV.out]
          go_upto_region 2 with (fail)
          go_quiet (first | (go_at_call 24; exact Calls.quiet_of_same (P1.out _)) | (go_at_call 16; exact Calls.quiet_of_same (P2.out _)))
          go_upto_region 11 with (first | (go_at_call 25; refine (HP.out _ (SQ.out _)).mono ?_; rintro r w4 ⟨rfl, ⟨r0, r3, r4, r5, r6, r7, r8, r9⟩, S4⟩; have D4 : ∀ n, Hid (StE w (w4.drewN n) g h ⟨s, mt, mm, pt, pm, t0, t1, t2, t3, t4⟩ ⟨s', mt', mm', pt', pm', t0', t1', t2', t3', t4'⟩) := (fun n => S4.out.drewN n); have DD4 := Lib.hid D4; have D5 : Hid (StE w w4.drew g h ⟨s, mt, mm, pt, pm, t0, t1, t2, t3, t4⟩ ⟨s', mt', mm', pt', pm', t0', t1', t2', t3', t4'⟩) := S4.out.drewN 1; clear D4))
          go_quiet ((go_at_call 21; exact Calls.quiet_of_same (HA2.out _ (DD4.out _).out)))
          go_wp2_with fail
          go_ret
          exact ⟨_, rfl, fun e => (HN.out (HTT.out e)).elim, S4.out.drewN _⟩
        · rcases q3 : (pm == pm') with _ | _
          · have HN : Hid (bt = true ∧ (s == s') = true ∧ (pt == pt') = true ∧ (pm == pm') = true → False) := fun hh => by have := hh.2.2.2; rw [q3] at this; exact absurd this (by simp)
            go_enter Try.func19, Try.ntmps19
            go_upto_region 1 with (fail)
            rw [HV.out]
            go_upto_region 2 with (fail)
            go_quiet (first | (go_at_call 24; exact Calls.quiet_of_same (P1.out _)) | (go_at_call 16; exact Calls.quiet_of_same (P2.out _)))
            go_upto_region 11 with (first | (go_at_call 25; refine (HP.out _ (SQ.out _)).mono ?_; rintro r w4 ⟨rfl, ⟨r0, r3, r4, r5, r6, r7, r8, r9⟩, S4⟩; have D4 : ∀ n, Hid (StE w (w4.drewN n) g h ⟨s, mt, mm, pt, pm, t0, t1, t2, t3, t4⟩ ⟨s', mt', mm', pt', pm', t0', t1', t2', t3', t4'⟩) := (fun n => S4.out.drewN n); have DD4 := Lib.hid D4; have D5 : Hid (StE w w4.drew g h ⟨s, mt, mm, pt, pm, t0, t1, t2, t3, t4⟩ ⟨s', mt', mm', pt', pm', t0', t1', t2', t3', t4'⟩) := S4.out.drewN 1; clear D4))
            go_quiet ((go_at_call 21; exact Calls.quiet_of_same (HA2.out _ (DD4.out _).out)))
            go_wp2_with fail
            go_ret
            exact ⟨_, rfl, fun e => (HN.out (HTT.out e)).elim, S4.out.drewN _⟩
          · skip
            go_enter Try.func19, Try.ntmps19
            go_upto_region 1 with (fail)
            rw [HV.out]
            go_upto_region 2 with (fail)
            go_quiet (first | (go_at_call 24; exact Calls.quiet_of_same (P1.out _)) | (go_at_call 16; exact Calls.quiet_of_same (P2.out _)))
            go_upto_region 11 with (first | (go_at_call 25; refine (HP.out _ (SQ.out _)).mono ?_; rintro r w4 ⟨rfl, ⟨r0, r3, r4, r5, r6, r7, r8, r9⟩, S4⟩; have D4 : ∀ n, Hid (StE w (w4.drewN n) g h ⟨s, mt, mm, pt, pm, t0, t1, t2, t3, t4⟩ ⟨s', mt', mm', pt', pm', t0', t1', t2', t3', t4'⟩) := (fun n => S4.out.drewN n); have DD4 := Lib.hid D4; have D5 : Hid (StE w w4.drew g h ⟨s, mt, mm, pt, pm, t0, t1, t2, t3, t4⟩ ⟨s', mt', mm', pt', pm', t0', t1', t2', t3', t4'⟩) := S4.out.drewN 1; clear D4))
            go_region_held3 (fun w' => w'.cell? ⟨h, 0, none⟩ = some (.int .i64 s') ∧ w'.cell? ⟨h, 3, none⟩ = some (.bool pt') ∧ w'.cell? ⟨h, 4, none⟩ = some (.bool pm') ∧ w'.cell? ⟨h, 5, none⟩ = some (.int .i64 t0') ∧ w'.cell? ⟨h, 6, none⟩ = some (.int .i64 t1') ∧ w'.cell? ⟨h, 7, none⟩ = some (.int .i64 t2') ∧ w'.cell? ⟨h, 8, none⟩ = some (.int .i64 t3') ∧ w'.cell? ⟨h, 9, none⟩ = some (.int .i64 t4')) (go_keep) (first | (go_at_call 21; (with_reducible refine (HA.out _ D5.out).mono ?_); rintro e W5 ⟨rfl, rfl⟩) | (go_at_call 26; (with_reducible refine (HM.out _ D5.out).mono ?_); rintro e W6 ⟨rfl, ⟨y0, y3, y4, y5, y6, y7, y8, y9⟩, S6⟩))
            all_goals
              go_wp2_with fail
              go_ret
              exact ⟨_, rfl, fun e => (HTT.out e).1, S6.out⟩
/-- any call -/
theorem step_any (g h : Nat) (x y : PhS) (k ev : Int) (a b : Bool) (j : Int) (w : World) (hx : TrB w g x) (hy : RrB w h y) (hgh : g ≠ h) (ox : PhOk x j) (oy : PhOk y j) (hj : j < 1000000000) :
    Calls Try.prog 19 #[.pointer (some ⟨g, 0, none⟩), .pointer (some ⟨h, 0, none⟩), .agg #[.int .i64 k, .int .i64 ev, .bool a, .bool b]] w (StP w g h x y (stX x k ev a b) (stX y k ev a b)) := by
  by_cases h0 : k = 0
  · subst h0
    exact step_0 g h x y ev a b j w hx hy hgh ox oy hj
  · by_cases h1 : k = 1
    · subst h1
      exact step_1 g h x y ev a b j w hx hy hgh ox oy hj
    · rw [show stX x k ev a b = x from (if_neg h0).trans (if_neg h1), show stX y k ev a b = y from (if_neg h0).trans (if_neg h1)]
      exact step_p g h x y k ev a b j w hx hy hgh ox oy hj h0 h1
end Go.Proofs.Ytandakinbcfleaa
