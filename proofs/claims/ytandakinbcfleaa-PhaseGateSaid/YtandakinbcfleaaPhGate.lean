/-
  The law PhaseGate.
-/
import Derived.Test.YtandakinbcfleaaPhDown
import Derived.Deep.Cut
import Derived.Deep.CutRange
import Derived.Deep.CutBlock
namespace Go.Proofs.Ytandakinbcfleaa
open Go.RowKit
set_option maxRecDepth 100000
set_option maxHeartbeats 16000000
set_option linter.unusedSimpArgs false
set_option linter.unusedVariables false

/-- what the law remembers, beside the link -/
def Gate (x : PhS) (th mi op : Bool) : Prop := (x.s = 3 → op = true ∧ th = false ∧ mi = false) ∧ (x.s = 2 → op = true ∧ th = (x.mt && !x.pt) ∧ mi = (x.mm && !x.pm))
theorem Gate.far {x : PhS} {th mi op : Bool} (h3 : x.s ≠ 3) (h2 : x.s ≠ 2) : Gate x th mi op := ⟨fun h => absurd h h3, fun h => absurd h h2⟩
theorem phIn_s (x : PhS) (p : Int) : (phIn x p).s = p := by
  unfold phIn
  split
  · assumption
  · rfl
theorem nx_far {s e : Int} (h : nxPE s e = 0) : nxPS s e ≠ 3 ∧ nxPS s e ≠ 2 := by
  have key : ∀ a, a < 5 → ∀ b, b < 9 → phEnt (Int.ofNat a) (Int.ofNat b) ≠ 4 ∧ phEnt (Int.ofNat a) (Int.ofNat b) ≠ 3 := by decide +kernel
  have e1 : nxPS s e = phEnt s e - 1 := by unfold nxPS; rw [h]; rfl
  by_cases hin : 0 ≤ s ∧ s ≤ 4 ∧ 0 ≤ e ∧ e ≤ 8
  · obtain ⟨a, rfl⟩ := Int.eq_ofNat_of_zero_le hin.1
    obtain ⟨b, rfl⟩ := Int.eq_ofNat_of_zero_le hin.2.2.1
    have := key a (by omega) b (by omega)
    have h1 : phEnt (a : Int) (b : Int) ≠ 4 ∧ phEnt (a : Int) (b : Int) ≠ 3 := this
    rw [e1]
    omega
  · unfold nxPE at h
    rw [show okPE s e = false from decide_eq_false hin] at h
    simp at h
theorem gate_far {x : PhS} {e : Int} (th mi op : Bool) (h5 : e ≠ 5) (h6 : e ≠ 6) (h : phDE x e = 0) : Gate (phDX x e) th mi op := by
  have h56 : ¬ (e = 5 ∨ e = 6) := by omega
  have e1 : nxPE x.s e = 0 := by unfold phDE at h; rw [if_neg h56] at h; exact h
  have e2 : phDX x e = phIn (if e = 0 ∨ e = 1 ∨ e = 3 ∨ e = 4 then phForget x else x) (nxPS x.s e) := by unfold phDX; rw [if_neg h56, if_pos e1]
  obtain ⟨h3, h2⟩ := nx_far e1
  rw [e2]
  exact Gate.far (by rw [phIn_s]; exact h3) (by rw [phIn_s]; exact h2)
theorem do_fail {x : PhS} {e : Int} (h : phDE x e ≠ 0) : phDX x e = x := by
  unfold phDX
  unfold phDE at h
  by_cases h56 : e = 5 ∨ e = 6
  · rw [if_pos h56] at h ⊢
    unfold phPX
    by_cases h2 : x.s = 2
    · exfalso
      apply h
      unfold phPE
      rw [h2]
      rfl
    · rw [if_neg h2]
  · rw [if_neg h56] at h ⊢
    rw [if_neg h]
theorem gate_5 {x : PhS} {th mi op : Bool} (j : Int) (ho : PhOk x j) (g : Gate x th mi op) (h : phDE x 5 = 0) : Gate (phDX x 5) (th && (x.s != 2)) mi op := by
  have hs : x.s = 0 ∨ x.s = 1 ∨ x.s = 2 ∨ x.s = 3 ∨ x.s = 4 := by have := ho.1; omega
  obtain ⟨s, mt, mm, pt, pm, t0, t1, t2, t3, t4⟩ := x
  unfold Gate at *
  simp only at hs g ⊢
  rcases hs with rfl | rfl | rfl | rfl | rfl
  · simp [phDE, phPE] at h
  · simp [phDE, phPE] at h
  · obtain ⟨-, g2⟩ := g
    obtain ⟨rfl, rfl, rfl⟩ := g2 rfl
    cases mt <;> cases mm <;> cases pt <;> cases pm <;> simp [phDX, phPX, phTold, phAt, phOk, phIn]
  · simpa [phDX, phPX] using g
  · simp [phDX, phPX]
theorem gate_6 {x : PhS} {th mi op : Bool} (j : Int) (ho : PhOk x j) (g : Gate x th mi op) (h : phDE x 6 = 0) : Gate (phDX x 6) th (mi && (x.s != 2)) op := by
  have hs : x.s = 0 ∨ x.s = 1 ∨ x.s = 2 ∨ x.s = 3 ∨ x.s = 4 := by have := ho.1; omega
  obtain ⟨s, mt, mm, pt, pm, t0, t1, t2, t3, t4⟩ := x
  unfold Gate at *
  simp only at hs g ⊢
  rcases hs with rfl | rfl | rfl | rfl | rfl
  · simp [phDE, phPE] at h
  · simp [phDE, phPE] at h
  · obtain ⟨-, g2⟩ := g
    obtain ⟨rfl, rfl, rfl⟩ := g2 rfl
    cases mt <;> cases mm <;> cases pt <;> cases pm <;> simp [phDX, phPX, phTold, phAt, phOk, phIn]
  · simpa [phDX, phPX] using g
  · simp [phDX, phPX]
theorem gate_open {x : PhS} (a b : Bool) (h : x.s = 1) : Gate (phOX x a b) a b true := by
  obtain ⟨s, mt, mm, pt, pm, t0, t1, t2, t3, t4⟩ := x
  simp only at h
  subst h
  unfold Gate
  cases a <;> cases b <;> simp [phOX, phMust, phAt, phOk, phIn]
theorem open_no {x : PhS} (a b : Bool) (h : x.s ≠ 1) : phOX x a b = x := if_neg h
theorem pass_net {s n : Int} (hs : s ≠ 3) (h : ¬ (n = 49185 ∨ n = 49187 ∨ n = 49699 ∨ n = 49703)) : passB s n = false := by
  have e1 : ofLinkB n = false := decide_eq_false h
  have e2 : (n == 49185) = false := by simp; omega
  unfold passB
  rw [e1, e2]
  simp [hs]
/-- a round's state -/
def GateJ (w W : World) (g : Nat) (x : PhS) (j : Int) (th mi op : Bool) : Prop := TrB W g x ∧ PhOk x j ∧ Below w.heap.size w W ∧ Gate x th mi op
theorem phasegate_walk (A : Option Addr) (m c : Nat) (f : Nat → Int × Int × Bool × Bool) (n : Int) (w : World) (h : PhOps w w.heap.size A m f) (hm : m ≤ 8796093021952) :
    Calls Try.prog 6 #[.slice A m c, .int .i64 n] w fun e w' => e = .returned (.bool true) ∧ Below w.heap.size w w' := by
  have HO := Lib.hid h
  clear h
  obtain ⟨g, hg⟩ : ∃ g, w.heap.size = g := ⟨_, rfl⟩
  have HN : Hid (Calls Try.prog 18 #[] w fun e w' => e = .returned (.pointer (some ⟨g, 0, none⟩)) ∧ Hid (TrB w' g phZ) ∧ Hid (Below w.heap.size w w')) := by rw [← hg]; exact phNew_any w
  have HG := Lib.hid hg
  clear hg
  go_enter Try.func6, Try.ntmps6
  go_wp2_with (go_at_call 18; refine HN.out.mono ?_; rintro e w1 ⟨rfl, X0, B0⟩)
  go_loopw [6, 7, 8, 19] (fun u v z i wr => ∃ (k : Nat) (x : PhS) (th mi op : Bool), u = .bool th ∧ v = .bool mi ∧ z = .bool op ∧ i = .int .i64 k ∧ k ≤ m ∧ k ≤ 300 ∧ Hid (GateJ w wr g x k th mi op)) (fun _ _ _ i _ => m - (intOf i).toNat)
  case atStart => exact ⟨0, phZ, false, false, false, rfl, rfl, rfl, rfl, Nat.zero_le _, Nat.zero_le _, X0.out, by unfold PhOk phZ; simp, B0.out, Gate.far (by decide) (by decide)⟩
  case round =>
    rename_i wr
    obtain ⟨k, x, th, mi, op, rfl, rfl, rfl, rfl, hkm, hk3, hS⟩ := hrel
    clear X0 B0
    by_cases hlt : k < m
    · obtain ⟨b, off, rfl, hbl, hc⟩ := HO.out (by omega)
      obtain ⟨z, hz⟩ : ∃ z, f k = z := ⟨_, rfl⟩
      obtain ⟨z0, z1, z2, z3⟩ := z
      obtain ⟨x0, x1, x2, x3, i1, i2⟩ := hc k hlt
      rw [hz] at x0 x1 x2 x3 i1 i2
      have hB : Below w.heap.size w wr := hS.out.2.2.1
      have hbw : b < wr.heap.size := Nat.lt_of_lt_of_le hbl hB.size
      replace x0 := (hB.cell (p := ⟨b, off + k * 4, none⟩) hbl).trans x0
      replace x1 := (hB.cell (p := ⟨b, off + k * 4 + 1, none⟩) hbl).trans x1
      replace x2 := (hB.cell (p := ⟨b, off + k * 4 + 2, none⟩) hbl).trans x2
      replace x3 := (hB.cell (p := ⟨b, off + k * 4 + 3, none⟩) hbl).trans x3
      obtain ⟨V, hV⟩ : ∃ V, wr.alloc (.cells #[.int .i64 z0, .int .i64 z1, .bool z2, .bool z3] 38) = V := ⟨_, rfl⟩
      have hBV : Below wr.heap.size wr V := by rw [← hV]; exact (Below.refl _ _).alloc (Nat.le_refl _) _
      have hnew : Blk V wr.heap.size 38 [.int .i64 z0, .int .i64 z1, .bool z2, .bool z3] := by rw [← hV]; exact blk_new wr _ _
      have BV : Below w.heap.size w V := bto hB hBV
      have XV : TrB V g x := hS.out.1.below hBV
      have OK := hS.out.2.1
      have GT := hS.out.2.2.2
      have ngr : g ≠ wr.heap.size := by have := hS.out.1.lt; omega
      have HV := Lib.hid hV
      have y0 := hnew.cell 0
      have y1 := hnew.cell 1
      have y2 := hnew.cell 2
      have y3 := hnew.cell 3
      by_cases h3 : 300 ≤ k
      · obtain rfl : k = 300 := by omega
        have BB := Lib.hid BV
        clear hc hz hB hV hBV hnew hS i1 i2 hbl BV XV OK GT
        go_wp2_with (first | (rw [HV.out]) | (go_at_call 17; refine (awake26 _).mono ?_; rintro r w6 ⟨rfl, hb⟩; have B6 := Lib.hid (bto BB.out hb); clear hb))
        go_ret
        exact ⟨rfl, B6.out⟩
      · have h300 : k < 300 := by omega
        have HD : Hid (Calls Try.prog 22 #[.pointer (some ⟨g, 0, none⟩), .int .i64 z1] V fun r W => r = .returned (.int .i64 (phDE x z1)) ∧ W.cell? ⟨wr.heap.size, 1, none⟩ = some (.int .i64 z1) ∧ Hid (TrB W g (phDX x z1) ∧ PhOk (phDX x z1) ((k + 1 : Nat) : Int) ∧ Below w.heap.size w W)) := by
          refine (phDo_any g x z1 k V XV OK (by omega)).mono ?_
          rintro r W ⟨rfl, a1, a2⟩
          have hb := Blk.grown hnew a2 (fun e => by injection e with e; omega)
          exact ⟨rfl, hb.cell 1, a1, by have := phDX_ok z1 OK; rw [Int.natCast_add]; exact this, BV.grown a2 BV.size (fun k e => by cases e; have := HG.out; omega)⟩
        have HOp : Hid (Calls Try.prog 23 #[.pointer (some ⟨g, 0, none⟩), .bool z2, .bool z3] V fun r W => r = .returned (.int .i64 (phOE x)) ∧ W.cell? ⟨wr.heap.size, 2, none⟩ = some (.bool z2) ∧ W.cell? ⟨wr.heap.size, 3, none⟩ = some (.bool z3) ∧ Hid (TrB W g (phOX x z2 z3) ∧ PhOk (phOX x z2 z3) ((k + 1 : Nat) : Int) ∧ Below w.heap.size w W)) := by
          refine (phOpen_any g x z2 z3 k V XV OK (by omega)).mono ?_
          rintro r W ⟨rfl, a1, a2⟩
          have hb := Blk.grown hnew a2 (fun e => by injection e with e; omega)
          exact ⟨rfl, hb.cell 2, hb.cell 3, a1, by have := phOX_ok z2 z3 OK; rw [Int.natCast_add]; exact this, BV.grown a2 BV.size (fun k e => by cases e; have := HG.out; omega)⟩
        have HA : Hid (Calls Try.prog 21 #[.pointer (some ⟨g, 0, none⟩)] V fun r w' => r = .returned (.int .i64 x.s) ∧ V = w') := phAt_any g x V XV
        have KJ : Hid (GateJ w V g x ((k + 1 : Nat) : Int) th mi op) := ⟨XV, OK.up (by omega), BV, GT⟩
        have KO := Lib.hid OK
        have KG := Lib.hid GT
        clear hc hz hB hV hBV hnew hS i1 i2 hbl BV XV OK GT h3
        go_upto_block 2 with (rw [HV.out])
        go_cut [6, 7, 8, 11, 12] from 28 to 77 (fun u v z _ _ W => ∃ (x' : PhS) (th' mi' op' : Bool), u = .bool th' ∧ v = .bool mi' ∧ z = .bool op' ∧ Hid (GateJ w W g x' ((k + 1 : Nat) : Int) th' mi' op'))
        case first =>
          by_cases hk0 : z0 = 0
          · subst hk0
            by_cases hz : phDE x z1 = 0
            · rw [hz] at HD
              have HZ := Lib.hid hz
              clear hz
              by_cases h5 : z1 = 5
              · subst h5
                have GG := gate_5 _ KO.out KG.out HZ.out
                have GH : Hid (∀ W, Hid (TrB W g (phDX x 5) ∧ PhOk (phDX x 5) ((k + 1 : Nat) : Int) ∧ Below w.heap.size w W) → GateJ w W g (phDX x 5) ((k + 1 : Nat) : Int) (th && (x.s != 2)) mi op) := fun W s => ⟨s.out.1, s.out.2.1, s.out.2.2, GG⟩
                obtain ⟨q, hq⟩ : ∃ q, (x.s != 2) = q := ⟨_, rfl⟩
                rw [hq] at GH
                obtain ⟨s, hs⟩ : ∃ s, x.s = s := ⟨_, rfl⟩
                rw [hs] at HA hq
                clear GG hs
                cases th
                · clear hq
                  go_wp2_with (first | (go_at_call 21; refine HA.out.mono ?_; rintro r w' ⟨rfl, rfl⟩) | (go_at_call 22; refine HD.out.mono ?_; rintro r w2 ⟨rfl, y1', S2⟩))
                  go_meet
                  case rel => exact ⟨_, _, _, _, rfl, rfl, rfl, GH.out _ S2⟩
                · go_wp2_with (first | (go_at_call 21; refine HA.out.mono ?_; rintro r w' ⟨rfl, rfl⟩) | (go_at_call 22; refine HD.out.mono ?_; rintro r w2 ⟨rfl, y1', S2⟩))
                  go_meet
                  case rel => exact ⟨_, _, _, _, rfl, rfl, rfl, GH.out _ S2⟩
              · by_cases h6 : z1 = 6
                · subst h6
                  have GG := gate_6 _ KO.out KG.out HZ.out
                  have GH : Hid (∀ W, Hid (TrB W g (phDX x 6) ∧ PhOk (phDX x 6) ((k + 1 : Nat) : Int) ∧ Below w.heap.size w W) → GateJ w W g (phDX x 6) ((k + 1 : Nat) : Int) th (mi && (x.s != 2)) op) := fun W s => ⟨s.out.1, s.out.2.1, s.out.2.2, GG⟩
                  obtain ⟨q, hq⟩ : ∃ q, (x.s != 2) = q := ⟨_, rfl⟩
                  rw [hq] at GH
                  obtain ⟨s, hs⟩ : ∃ s, x.s = s := ⟨_, rfl⟩
                  rw [hs] at HA hq
                  clear GG hs h5
                  cases mi
                  · clear hq
                    go_wp2_with (first | (go_at_call 21; refine HA.out.mono ?_; rintro r w' ⟨rfl, rfl⟩) | (go_at_call 22; refine HD.out.mono ?_; rintro r w2 ⟨rfl, y1', S2⟩))
                    go_meet
                    case rel => exact ⟨_, _, _, _, rfl, rfl, rfl, GH.out _ S2⟩
                  · go_wp2_with (first | (go_at_call 21; refine HA.out.mono ?_; rintro r w' ⟨rfl, rfl⟩) | (go_at_call 22; refine HD.out.mono ?_; rintro r w2 ⟨rfl, y1', S2⟩))
                    go_meet
                    case rel => exact ⟨_, _, _, _, rfl, rfl, rfl, GH.out _ S2⟩
                · have GH : Hid (∀ W (o : Bool), Hid (TrB W g (phDX x z1) ∧ PhOk (phDX x z1) ((k + 1 : Nat) : Int) ∧ Below w.heap.size w W) → GateJ w W g (phDX x z1) ((k + 1 : Nat) : Int) th mi o) := fun W o s => ⟨s.out.1, s.out.2.1, s.out.2.2, gate_far th mi o h5 h6 HZ.out⟩
                  have u5 : (z1 == 5) = false := by simpa using h5
                  have u6 : (z1 == 6) = false := by simpa using h6
                  by_cases hev : z1 = 7 ∨ z1 = 8 ∨ z1 = 1 ∨ z1 = 4 ∨ z1 = 3
                  · clear h5 h6
                    rcases hev with rfl | rfl | rfl | rfl | rfl
                    all_goals
                      clear u5 u6
                      go_wp2_with (first | (go_at_call 21; refine HA.out.mono ?_; rintro r w' ⟨rfl, rfl⟩) | (go_at_call 22; refine HD.out.mono ?_; rintro r w2 ⟨rfl, y1', S2⟩))
                      go_meet
                      case rel => exact ⟨_, _, _, _, rfl, rfl, rfl, GH.out _ _ S2⟩
                  · have u7 : (z1 == 7) = false := by simp; omega
                    have u8 : (z1 == 8) = false := by simp; omega
                    have u1 : (z1 == 1) = false := by simp; omega
                    have u4 : (z1 == 4) = false := by simp; omega
                    have u3 : (z1 == 3) = false := by simp; omega
                    clear h5 h6 hev
                    go_wp2_with (first | (go_at_call 21; refine HA.out.mono ?_; rintro r w' ⟨rfl, rfl⟩) | (go_at_call 22; refine HD.out.mono ?_; rintro r w2 ⟨rfl, y1', S2⟩))
                    go_meet
                    case rel => exact ⟨_, _, _, _, rfl, rfl, rfl, GH.out _ _ S2⟩
            · have e1 := do_fail hz
              rw [e1] at HD
              have GH : Hid (∀ W, Hid (TrB W g x ∧ PhOk x ((k + 1 : Nat) : Int) ∧ Below w.heap.size w W) → GateJ w W g x ((k + 1 : Nat) : Int) th mi op) := fun W s => ⟨s.out.1, s.out.2.1, s.out.2.2, KG.out⟩
              obtain ⟨z, hzz⟩ : ∃ z, phDE x z1 = z := ⟨_, rfl⟩
              rw [hzz] at HD hz
              have uz : (z != 0) = true := by simpa using hz
              clear hz hzz e1
              go_wp2_with (first | (go_at_call 21; refine HA.out.mono ?_; rintro r w' ⟨rfl, rfl⟩) | (go_at_call 22; refine HD.out.mono ?_; rintro r w2 ⟨rfl, y1', S2⟩))
              go_meet
              case rel => exact ⟨_, _, _, _, rfl, rfl, rfl, GH.out _ S2⟩
          · have u0 : (z0 == 0) = false := by simpa using hk0
            by_cases hk1 : z0 = 1
            · subst hk1
              clear u0 hk0
              by_cases h1 : x.s = 1
              · have GG := gate_open z2 z3 h1
                have e1 : phOE x = 0 := if_pos (.inl h1)
                have GH : Hid (∀ W, Hid (TrB W g (phOX x z2 z3) ∧ PhOk (phOX x z2 z3) ((k + 1 : Nat) : Int) ∧ Below w.heap.size w W) → GateJ w W g (phOX x z2 z3) ((k + 1 : Nat) : Int) z2 z3 true) := fun W s => ⟨s.out.1, s.out.2.1, s.out.2.2, GG⟩
                rw [h1] at HA
                rw [e1] at HOp
                clear GG e1 h1
                go_wp2_with (first | (go_at_call 21; refine HA.out.mono ?_; rintro r w' ⟨rfl, rfl⟩) | (go_at_call 23; refine HOp.out.mono ?_; rintro r w2 ⟨rfl, y2', y3', S2⟩))
                go_meet
                case rel => exact ⟨_, _, _, _, rfl, rfl, rfl, GH.out _ S2⟩
              · rw [open_no z2 z3 h1] at HOp
                have GH : Hid (∀ W, Hid (TrB W g x ∧ PhOk x ((k + 1 : Nat) : Int) ∧ Below w.heap.size w W) → GateJ w W g x ((k + 1 : Nat) : Int) th mi op) := fun W s => ⟨s.out.1, s.out.2.1, s.out.2.2, KG.out⟩
                have u1 : (x.s == 1) = false := by simpa using h1
                obtain ⟨s, hs⟩ : ∃ s, x.s = s := ⟨_, rfl⟩
                rw [hs] at HA u1
                obtain ⟨z, hzz⟩ : ∃ z, phOE x = z := ⟨_, rfl⟩
                rw [hzz] at HOp
                clear h1 hs hzz
                rcases uz : (z == 0) with _ | _
                all_goals
                  go_wp2_with (first | (go_at_call 21; refine HA.out.mono ?_; rintro r w' ⟨rfl, rfl⟩) | (go_at_call 23; refine HOp.out.mono ?_; rintro r w2 ⟨rfl, y2', y3', S2⟩))
                  go_meet
                  case rel => exact ⟨_, _, _, _, rfl, rfl, rfl, GH.out _ S2⟩
            · have u1 : (z0 == 1) = false := by simpa using hk1
              clear hk0 hk1
              go_wp2
              go_meet
              case rel => exact ⟨_, _, _, _, rfl, rfl, rfl, KJ.out⟩
        case rest =>
          obtain ⟨x', th', mi', op', rfl, rfl, rfl, HJ⟩ := hcut
          clear HD HOp HA KJ KO KG y0 y1 y2 y3 x0 x1 x2 x3
          have HJ2 := HJ.out.1
          have HA := Lib.hid (phAt_any g x' _ HJ2)
          have HP := Lib.hid (phPass_any g x' n _ HJ2)
          clear HJ2
          by_cases hs3 : x'.s = 3
          · obtain ⟨g1, g2, g3⟩ := HJ.out.2.2.2.1 hs3
            subst g1 g2 g3
            clear HA HP hs3
            by_cases hn : n = 49185 ∨ n = 49187 ∨ n = 49699 ∨ n = 49703
            · rcases hn with rfl | rfl | rfl | rfl
              all_goals
                go_wp2
                go_roundw
                case rel => exact ⟨k + 1, x', _, _, _, rfl, rfl, rfl, by go_num, by omega, by omega, HJ.out⟩
                case measure => simp [intOf]; omega
            · have t1 : (n != 49185) = true := by simp; omega
              have t2 : (n != 49187) = true := by simp; omega
              have t3 : (n != 49699) = true := by simp; omega
              have t4 : (n != 49703) = true := by simp; omega
              clear hn
              go_wp2
              go_roundw
              case rel => exact ⟨k + 1, x', _, _, _, rfl, rfl, rfl, by go_num, by omega, by omega, HJ.out⟩
              case measure => simp [intOf]; omega
          · have v3 : (x'.s == 3) = false := by simpa using hs3
            by_cases hn : n = 49185 ∨ n = 49187 ∨ n = 49699 ∨ n = 49703
            · obtain ⟨s, hs⟩ : ∃ s, x'.s = s := ⟨_, rfl⟩
              rw [hs] at HA v3
              clear hs hs3 HP
              rcases hn with rfl | rfl | rfl | rfl
              all_goals
                cases th' <;> cases mi' <;> cases op'
                all_goals
                  go_wp2_with (go_at_call 21; refine HA.out.mono ?_; rintro r w' ⟨rfl, rfl⟩)
                  go_roundw
                  case rel => exact ⟨k + 1, x', _, _, _, rfl, rfl, rfl, by go_num, by omega, by omega, HJ.out⟩
                  case measure => simp [intOf]; omega
            · rw [pass_net hs3 hn] at HP
              obtain ⟨s, hs⟩ : ∃ s, x'.s = s := ⟨_, rfl⟩
              rw [hs] at HA v3
              have t1 : (n != 49185) = true := by simp; omega
              have t2 : (n != 49187) = true := by simp; omega
              have t3 : (n != 49699) = true := by simp; omega
              have t4 : (n != 49703) = true := by simp; omega
              clear hn hs hs3
              cases th' <;> cases mi' <;> cases op'
              all_goals
                go_wp2_with (first | (go_at_call 21; refine HA.out.mono ?_; rintro r w' ⟨rfl, rfl⟩) | (go_at_call 24; refine HP.out.mono ?_; rintro r w' ⟨rfl, rfl⟩))
                go_roundw
                case rel => exact ⟨k + 1, x', _, _, _, rfl, rfl, rfl, by go_num, by omega, by omega, HJ.out⟩
                case measure => simp [intOf]; omega
    · have BB := Lib.hid hS.out.2.2.1
      clear hS
      go_wp2_with (go_at_call 17; refine (awake26 _).mono ?_; rintro r w6 ⟨rfl, hb⟩; have B6 := Lib.hid (bto BB.out hb); clear hb)
      go_ret
      exact ⟨rfl, B6.out⟩
end Go.Proofs.Ytandakinbcfleaa
