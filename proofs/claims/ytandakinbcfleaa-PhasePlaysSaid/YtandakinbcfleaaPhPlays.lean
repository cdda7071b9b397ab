/-
  The law PhasePlays.
-/
import Derived.Test.YtandakinbcfleaaPhDown
import Derived.Deep.Cut
import Derived.Deep.CutRange
import Derived.Deep.CutBlock
namespace Go.Proofs.Ytandakinbcfleaa
open Go.RowKit
set_option maxRecDepth 100000
set_option maxHeartbeats 16000000
set_option linter.unusedSimpArgs false
set_option linter.unusedVariables false

theorem times_eq9 (a0 a1 a2 a3 a4 b0 b1 b2 b3 b4 : Int) (W : World) : (Op.equalIn 9999 34 (.agg #[.int .i64 a0, .int .i64 a1, .int .i64 a2, .int .i64 a3, .int .i64 a4]) (.agg #[.int .i64 b0, .int .i64 b1, .int .i64 b2, .int .i64 b3, .int .i64 b4])).run Try.prog W = .ok (a0 == b0 && (a1 == b1 && (a2 == b2 && (a3 == b3 && a4 == b4)))) W := by
  obtain ⟨i, hi⟩ := infoL
  rw [show (9999 : Nat) = 9997 + 1 + 1 from rfl, run_equalIn_array W (9997 + 1) _ _ Try.underlying34 hi, cellsL]
  have he : ∀ (x y : Int), (Op.equalIn 9998 2 (.int .i64 x) (.int .i64 y)).run Try.prog W = .ok (x == y) W := fun x y => run_equalIn_int W 9997 2 .i64 .i64 x y Try.underlying2
  simp only [show List.range 5 = [0, 1, 2, 3, 4] from rfl, Op.eqItems]
  cases h0 : (a0 == b0) <;> cases h1 : (a1 == b1) <;> cases h2 : (a2 == b2) <;> cases h3 : (a3 == b3) <;> cases h4 : (a4 == b4) <;> simp [Sem.run_bind, part5_0, part5_1, part5_2, part5_3, part5_4, he, Result.andThen_ok, *]
theorem part_s (x : PhS) (W : World) : (part 3 #[.int .i64 x.s, .bool x.mt, .bool x.mm, .bool x.pt, .bool x.pm, .int .i64 x.t0, .int .i64 x.t1, .int .i64 x.t2, .int .i64 x.t3, .int .i64 x.t4] 0).run Try.prog W = .ok (.int .i64 x.s) W := by kernel_rfl
theorem part_mt (x : PhS) (W : World) : (part 4 #[.int .i64 x.s, .bool x.mt, .bool x.mm, .bool x.pt, .bool x.pm, .int .i64 x.t0, .int .i64 x.t1, .int .i64 x.t2, .int .i64 x.t3, .int .i64 x.t4] 1).run Try.prog W = .ok (.bool x.mt) W := by kernel_rfl
theorem part_mm (x : PhS) (W : World) : (part 4 #[.int .i64 x.s, .bool x.mt, .bool x.mm, .bool x.pt, .bool x.pm, .int .i64 x.t0, .int .i64 x.t1, .int .i64 x.t2, .int .i64 x.t3, .int .i64 x.t4] 2).run Try.prog W = .ok (.bool x.mm) W := by kernel_rfl
theorem part_pt (x : PhS) (W : World) : (part 4 #[.int .i64 x.s, .bool x.mt, .bool x.mm, .bool x.pt, .bool x.pm, .int .i64 x.t0, .int .i64 x.t1, .int .i64 x.t2, .int .i64 x.t3, .int .i64 x.t4] 3).run Try.prog W = .ok (.bool x.pt) W := by kernel_rfl
theorem part_pm (x : PhS) (W : World) : (part 4 #[.int .i64 x.s, .bool x.mt, .bool x.mm, .bool x.pt, .bool x.pm, .int .i64 x.t0, .int .i64 x.t1, .int .i64 x.t2, .int .i64 x.t3, .int .i64 x.t4] 4).run Try.prog W = .ok (.bool x.pm) W := by kernel_rfl
theorem part_t (x : PhS) (W : World) : (part 34 #[.int .i64 x.s, .bool x.mt, .bool x.mm, .bool x.pt, .bool x.pm, .int .i64 x.t0, .int .i64 x.t1, .int .i64 x.t2, .int .i64 x.t3, .int .i64 x.t4] 5).run Try.prog W = .ok (.agg #[.int .i64 x.t0, .int .i64 x.t1, .int .i64 x.t2, .int .i64 x.t3, .int .i64 x.t4]) W := by kernel_rfl
theorem rs_eq (x y : PhS) (W : World) : (binOp .eql 36 (.agg #[.int .i64 x.s, .bool x.mt, .bool x.mm, .bool x.pt, .bool x.pm, .int .i64 x.t0, .int .i64 x.t1, .int .i64 x.t2, .int .i64 x.t3, .int .i64 x.t4]) (.agg #[.int .i64 y.s, .bool y.mt, .bool y.mm, .bool y.pt, .bool y.pm, .int .i64 y.t0, .int .i64 y.t1, .int .i64 y.t2, .int .i64 y.t3, .int .i64 y.t4])).run Try.prog W = .ok (.bool (sameX x y)) W := by
  have hS : Try.prog.underlying 36 = some (.struct (Try.prog.fieldsOf 36)) := by kernel_rfl
  have hp : Try.prog.stoodInHeld 36 = false := by kernel_rfl
  have hi : ∀ (a b : Int), (Op.equalIn 9999 3 (.int .i64 a) (.int .i64 b)).run Try.prog W = .ok (a == b) W := fun a b => run_equalIn_int W 9998 3 .i64 .i64 a b Try.underlying3
  have hb : ∀ (a b : Bool), (Op.equalIn 9999 4 (.bool a) (.bool b)).run Try.prog W = .ok (a == b) W := fun a b => run_equalIn_bool W 9998 4 a b Try.underlying4
  have ht := times_eq9 x.t0 x.t1 x.t2 x.t3 x.t4 y.t0 y.t1 y.t2 y.t3 y.t4 W
  rw [run_eql_struct, show (10000 : Nat) = 9999 + 1 from rfl, run_equalIn_agg W 9999 36 _ _ hS hp]
  simp only [Program.fieldsOf, Try.underlying36]
  unfold sameX eqM eqP eqT5
  generalize hT : (x.t0 == y.t0 && (x.t1 == y.t1 && (x.t2 == y.t2 && (x.t3 == y.t3 && x.t4 == y.t4)))) = bt at ht ⊢
  cases h0 : (x.s == y.s) <;> cases h1 : (x.mt == y.mt) <;> cases h2 : (x.mm == y.mm) <;> cases h3 : (x.pt == y.pt) <;> cases h4 : (x.pm == y.pm) <;> cases bt <;>
    simp [Op.eqFields, Sem.run_bind, part_s, part_mt, part_mm, part_pt, part_pm, part_t, hi, hb, ht, Result.andThen_ok, h0, h1, h2, h3, h4]
theorem sameX_self (x : PhS) : sameX x x = true := by unfold sameX eqM eqP eqT5; simp
theorem sameX_comm (x y : PhS) : sameX x y = sameX y x := by
  have hi : ∀ a b : Int, (a == b) = (b == a) := fun a b => by rw [Bool.eq_iff_iff]; simp; exact ⟨fun h => h.symm, fun h => h.symm⟩
  have hb : ∀ a b : Bool, (a == b) = (b == a) := fun a b => by cases a <;> cases b <;> rfl
  unfold sameX eqM eqP eqT5
  rw [hi x.s, hb x.mt, hb x.mm, hb x.pt, hb x.pm, hi x.t0, hi x.t1, hi x.t2, hi x.t3, hi x.t4]
abbrev RS (W : World) (g : Nat) (x : PhS) : Prop := W.cell? ⟨g, 0, none⟩ = some (.int .i64 x.s) ∧ W.cell? ⟨g, 1, none⟩ = some (.bool x.mt) ∧ W.cell? ⟨g, 2, none⟩ = some (.bool x.mm) ∧ W.cell? ⟨g, 3, none⟩ = some (.bool x.pt) ∧ W.cell? ⟨g, 4, none⟩ = some (.bool x.pm) ∧ W.cell? ⟨g, 5, none⟩ = some (.int .i64 x.t0) ∧ W.cell? ⟨g, 6, none⟩ = some (.int .i64 x.t1) ∧ W.cell? ⟨g, 7, none⟩ = some (.int .i64 x.t2) ∧ W.cell? ⟨g, 8, none⟩ = some (.int .i64 x.t3) ∧ W.cell? ⟨g, 9, none⟩ = some (.int .i64 x.t4)
theorem rs_of {W : World} {g : Nat} {x : PhS} (s : RrB W g x) : RS W g x := ⟨s.cell 0, s.cell 1, s.cell 2, s.cell 3, s.cell 4, s.cell 5, s.cell 6, s.cell 7, s.cell 8, s.cell 9⟩
theorem bdrw (W : World) (n : Nat) : Below W.heap.size W (W.drewN n) := ⟨rfl, rfl, rfl, Nat.le_refl _, fun _ _ => rfl⟩
/-- two pairs, apart -/
structure PL (w W : World) (a b c d : Nat) (x y : PhS) (j : Int) : Prop where
  t : TrB W a x
  u : TrB W b y
  r : RrB W c x
  s : RrB W d y
  ox : PhOk x j
  oy : PhOk y j
  bl : Below w.heap.size w W
  ge : w.heap.size ≤ a ∧ a < b ∧ b < c ∧ c < d
theorem PL.later {w W V : World} {a b c d : Nat} {x y : PhS} {j : Int} (h : PL w W a b c d x y j) (hb : Below W.heap.size W V) : PL w V a b c d x y j := ⟨h.t.below hb, h.u.below hb, h.r.below hb, h.s.below hb, h.ox, h.oy, bto h.bl hb, h.ge⟩
theorem PL.first {w W V : World} {a b c d : Nat} {x y x' : PhS} {j : Int} (h : PL w W a b c d x y j) (hx : PhOk x' (j + 1)) (s : StE W V a c x' x') : PL w V a b c d x' y (j + 1) := by
  obtain ⟨g1, g2, g3, g4⟩ := h.ge
  exact ⟨s.1, Blk.only2 h.u s.2.2 (by omega) (by omega), s.2.1, Blk.only2 h.s s.2.2 (by omega) (by omega), hx, h.oy.up (by omega), h.bl.trans (s.2.2.below h.bl.size (by omega) (by omega)), h.ge⟩
theorem PL.second {w W V : World} {a b c d : Nat} {x y y' : PhS} {j : Int} (h : PL w W a b c d x y j) (hy : PhOk y' (j + 1)) (s : StE W V b d y' y') : PL w V a b c d x y' (j + 1) := by
  obtain ⟨g1, g2, g3, g4⟩ := h.ge
  exact ⟨Blk.only2 h.t s.2.2 (by omega) (by omega), s.1, Blk.only2 h.r s.2.2 (by omega) (by omega), s.2.1, h.ox.up (by omega), hy, h.bl.trans (s.2.2.below h.bl.size (by omega) (by omega)), h.ge⟩

theorem phaseplays_walk (A : Option Addr) (m c : Nat) (f : Nat → Int × Int × Bool × Bool) (A' : Option Addr) (m' c' : Nat) (f' : Nat → Int × Int × Bool × Bool) (w : World) (h : PhOps w w.heap.size A m f) (hm : m ≤ 8796093021952) (h' : PhOps w w.heap.size A' m' f') (hm' : m' ≤ 8796093021952) :
    Calls Try.prog 5 #[.slice A m c, .slice A' m' c'] w fun e w' => e = .returned (.bool true) ∧ Below w.heap.size w w' := by
  have HO := Lib.hid h
  have HO' := Lib.hid h'
  clear h h'
  obtain ⟨ta, hta⟩ : ∃ g, w.heap.size = g := ⟨_, rfl⟩
  have HN : Hid (Calls Try.prog 18 #[] w fun e w1 => e = .returned (.pointer (some ⟨ta, 0, none⟩)) ∧ ∃ tb, Calls Try.prog 18 #[] w1 fun e w2 => e = .returned (.pointer (some ⟨tb, 0, none⟩)) ∧ ∃ V,
      (w2.alloc (.cells #[.int .i64 0, .bool false, .bool false, .bool false, .bool false, .int .i64 0, .int .i64 0, .int .i64 0, .int .i64 0, .int .i64 0] 36)).alloc (.cells #[.int .i64 0, .bool false, .bool false, .bool false, .bool false, .int .i64 0, .int .i64 0, .int .i64 0, .int .i64 0, .int .i64 0] 36) = V ∧ Hid (PL w V ta tb w2.heap.size (w2.heap.size + 1) phZ phZ 0)) := by
    show Calls _ _ _ _ _
    subst hta
    refine (phNew_any w).mono ?_
    rintro e w1 ⟨rfl, x1, b1⟩
    refine ⟨rfl, w1.heap.size, (phNew_any w1).mono ?_⟩
    rintro e w2 ⟨rfl, x2, b2⟩
    refine ⟨rfl, _, rfl, ?_⟩
    have q1 : Below w2.heap.size w2 (w2.alloc (.cells (phC phZ).toArray 36)) := (Below.refl _ _).alloc (Nat.le_refl _) _
    have r1 : RrB (w2.alloc (.cells (phC phZ).toArray 36)) w2.heap.size phZ := blk_new w2 _ _
    have z1 : (w2.alloc (.cells (phC phZ).toArray 36)).heap.size = w2.heap.size + 1 := by simp
    have q2 : Below (w2.heap.size + 1) (w2.alloc (.cells (phC phZ).toArray 36)) ((w2.alloc (.cells (phC phZ).toArray 36)).alloc (.cells (phC phZ).toArray 36)) := (Below.refl _ _).alloc (by simp) _
    have r2 : RrB ((w2.alloc (.cells (phC phZ).toArray 36)).alloc (.cells (phC phZ).toArray 36)) (w2.heap.size + 1) phZ := by
      have := blk_new (w2.alloc (.cells (phC phZ).toArray 36)) 36 (phC phZ)
      rw [z1] at this
      exact this
    have q12 : Below w2.heap.size w2 ((w2.alloc (.cells (phC phZ).toArray 36)).alloc (.cells (phC phZ).toArray 36)) := q1.trans (q2.mono (by omega))
    have o0 : PhOk phZ 0 := by unfold PhOk phZ; simp
    have s1 := Blk.lt x1
    have s2 := Blk.lt x2
    have s3 := b2.size
    exact ⟨(x1.below b2).below q12, x2.below q12, Blk.below r1 q2 (by omega), r2, o0, o0, bto (bto b1 b2) q12, Nat.le_refl _, by omega, by omega, by omega⟩
  have HG := Lib.hid hta
  clear hta
  go_enter Try.func5, Try.ntmps5
  go_upto_block 0 with (first | (go_at_call 18; ((with_reducible refine HN.out.mono ?_); rintro e w1 ⟨rfl, tb, hn2⟩; have HN2 := Lib.hid hn2; clear hn2)) | (go_at_call 18; ((with_reducible refine HN2.out.mono ?_); rintro e w2 ⟨rfl, V0, hv0, X0⟩; have HV0 := Lib.hid hv0; clear hv0)))
  rw [HV0.out]
  clear HV0 HN HN2
  go_cut [9, 10] from 25 to 39 (fun _ _ W => ∃ (x : PhS) (j : Int), j ≤ 300 ∧ Hid (PL w W ta tb w2.heap.size (w2.heap.size + 1) x phZ j))
  case first =>
    go_wp2_with fail
    go_loopw [27] (fun i wr => ∃ (k : Nat) (x : PhS), i = .int .i64 k ∧ k ≤ m ∧ k ≤ 300 ∧ Hid (PL w wr ta tb w2.heap.size (w2.heap.size + 1) x phZ k)) (fun i _ => m - (intOf i).toNat)
    case atStart => exact ⟨0, phZ, rfl, Nat.zero_le _, Nat.zero_le _, X0.out⟩
    case round =>
      rename_i wr
      obtain ⟨k, x, rfl, hkm, hk3, hS⟩ := hrel
      clear X0
      by_cases hlt : k < m
      · obtain ⟨b, off, rfl, hbl, hc⟩ := HO.out (by omega)
        obtain ⟨z, hz⟩ : ∃ z, f k = z := ⟨_, rfl⟩
        obtain ⟨z0, z1, z2, z3⟩ := z
        obtain ⟨x0, x1, x2, x3, i1, i2⟩ := hc k hlt
        rw [hz] at x0 x1 x2 x3 i1 i2
        have hB : Below w.heap.size w wr := hS.out.bl
        have hbw : b < wr.heap.size := Nat.lt_of_lt_of_le hbl hB.size
        replace x0 := (hB.cell (p := ⟨b, off + k * 4, none⟩) hbl).trans x0
        replace x1 := (hB.cell (p := ⟨b, off + k * 4 + 1, none⟩) hbl).trans x1
        replace x2 := (hB.cell (p := ⟨b, off + k * 4 + 2, none⟩) hbl).trans x2
        replace x3 := (hB.cell (p := ⟨b, off + k * 4 + 3, none⟩) hbl).trans x3
        obtain ⟨V, hV⟩ : ∃ V, wr.alloc (.cells #[.int .i64 z0, .int .i64 z1, .bool z2, .bool z3] 38) = V := ⟨_, rfl⟩
        have hBV : Below wr.heap.size wr V := by rw [← hV]; exact (Below.refl _ _).alloc (Nat.le_refl _) _
        have hnew : Blk V wr.heap.size 38 [.int .i64 z0, .int .i64 z1, .bool z2, .bool z3] := by rw [← hV]; exact blk_new wr _ _
        have PV := hS.out.later hBV
        have HV := Lib.hid hV
        have y0 := hnew.cell 0
        have y1 := hnew.cell 1
        have y2 := hnew.cell 2
        have y3 := hnew.cell 3
        by_cases h3 : 300 ≤ k
        · obtain rfl : k = 300 := by omega
          have PV2 := Lib.hid PV
          clear hc hz hB hV hBV hnew hS i1 i2 hbl PV
          go_wp2_with (rw [HV.out])
          go_meet
          case rel => exact ⟨x, 300, by omega, PV2.out⟩
        · have ST := Lib.hid (step_any ta w2.heap.size x x z0 z1 z2 z3 300 V PV.t PV.r (by have := PV.ge; omega) (PV.ox.up (by omega)) (PV.ox.up (by omega)) (by omega))
          have KB : Hid (∀ W, StE V W ta w2.heap.size (stX x z0 z1 z2 z3) (stX x z0 z1 z2 z3) → PL w W ta tb w2.heap.size (w2.heap.size + 1) (stX x z0 z1 z2 z3) phZ ((k + 1 : Nat) : Int)) := fun W s => by have := PV.first (stX_ok z0 z1 z2 z3 PV.ox) s; rw [Int.natCast_add]; exact this
          have h300 : k < 300 := by omega
          clear hc hz hB hV hBV hnew hS i1 i2 hbl PV h3
          go_wp2_with (first | (rw [HV.out]) | (go_at_call 19; (with_reducible refine ST.out.mono ?_); rintro r w5 ⟨bb, rfl, hbb, s5⟩; have S5 := Lib.hid (KB.out _ s5); obtain rfl := hbb (by trivial); clear s5 hbb))
          go_roundw
          case rel => exact ⟨k + 1, _, by go_num, by omega, by omega, S5.out⟩
          case measure => simp [intOf]; omega
      · go_wp2
        go_meet
        case rel => exact ⟨x, k, by omega, hS.out⟩
  case rest =>
    obtain ⟨x, j, hj, hX⟩ := hcut
    clear X0
    obtain ⟨W6, hW6⟩ : ∃ W6, W6 = wc := ⟨_, rfl⟩
    subst hW6
    go_upto_block 2 with (fail)
    go_cut [11, 12] from 40 to 54 (fun _ _ W => ∃ (y : PhS) (j2 : Int), j2 ≤ 300 ∧ Hid (PL w W ta tb w2.heap.size (w2.heap.size + 1) x y (j + j2)))
    case first =>
      go_wp2_with fail
      go_loopw [42] (fun i wr => ∃ (k : Nat) (y : PhS), i = .int .i64 k ∧ k ≤ m' ∧ k ≤ 300 ∧ Hid (PL w wr ta tb w2.heap.size (w2.heap.size + 1) x y (j + k))) (fun i _ => m' - (intOf i).toNat)
      case atStart => exact ⟨0, phZ, rfl, Nat.zero_le _, Nat.zero_le _, by have h7 := hX.out; show PL _ _ _ _ _ _ _ _ _; simpa using h7⟩
      case round =>
        rename_i wr
        obtain ⟨k, y, rfl, hkm, hk3, hS⟩ := hrel
        clear hX
        by_cases hlt : k < m'
        · obtain ⟨b, off, rfl, hbl, hc⟩ := HO'.out (by omega)
          obtain ⟨z, hz⟩ : ∃ z, f' k = z := ⟨_, rfl⟩
          obtain ⟨z0, z1, z2, z3⟩ := z
          obtain ⟨x0, x1, x2, x3, i1, i2⟩ := hc k hlt
          rw [hz] at x0 x1 x2 x3 i1 i2
          have hB : Below w.heap.size w wr := hS.out.bl
          have hbw : b < wr.heap.size := Nat.lt_of_lt_of_le hbl hB.size
          replace x0 := (hB.cell (p := ⟨b, off + k * 4, none⟩) hbl).trans x0
          replace x1 := (hB.cell (p := ⟨b, off + k * 4 + 1, none⟩) hbl).trans x1
          replace x2 := (hB.cell (p := ⟨b, off + k * 4 + 2, none⟩) hbl).trans x2
          replace x3 := (hB.cell (p := ⟨b, off + k * 4 + 3, none⟩) hbl).trans x3
          obtain ⟨V, hV⟩ : ∃ V, wr.alloc (.cells #[.int .i64 z0, .int .i64 z1, .bool z2, .bool z3] 38) = V := ⟨_, rfl⟩
          have hBV : Below wr.heap.size wr V := by rw [← hV]; exact (Below.refl _ _).alloc (Nat.le_refl _) _
          have hnew : Blk V wr.heap.size 38 [.int .i64 z0, .int .i64 z1, .bool z2, .bool z3] := by rw [← hV]; exact blk_new wr _ _
          have PV := hS.out.later hBV
          have HV := Lib.hid hV
          have y0 := hnew.cell 0
          have y1 := hnew.cell 1
          have y2 := hnew.cell 2
          have y3 := hnew.cell 3
          by_cases h3 : 300 ≤ k
          · obtain rfl : k = 300 := by omega
            have PV2 := Lib.hid PV
            clear hc hz hB hV hBV hnew hS i1 i2 hbl PV
            go_wp2_with (rw [HV.out])
            go_meet
            case rel => exact ⟨y, 300, by omega, PV2.out⟩
          · have ST := Lib.hid (step_any tb (w2.heap.size + 1) y y z0 z1 z2 z3 600 V PV.u PV.s (by have := PV.ge; omega) (PV.oy.up (by omega)) (PV.oy.up (by omega)) (by omega))
            have KB : Hid (∀ W, StE V W tb (w2.heap.size + 1) (stX y z0 z1 z2 z3) (stX y z0 z1 z2 z3) → PL w W ta tb w2.heap.size (w2.heap.size + 1) x (stX y z0 z1 z2 z3) (j + ((k + 1 : Nat) : Int))) := fun W s => by have := PV.second (stX_ok z0 z1 z2 z3 PV.oy) s; rw [Int.natCast_add, ← Int.add_assoc]; exact this
            have h300 : k < 300 := by omega
            clear hc hz hB hV hBV hnew hS i1 i2 hbl PV h3
            go_wp2_with (first | (rw [HV.out]) | (go_at_call 19; (with_reducible refine ST.out.mono ?_); rintro r w5 ⟨bb, rfl, hbb, s5⟩; have S5 := Lib.hid (KB.out _ s5); obtain rfl := hbb (by trivial); clear s5 hbb))
            go_roundw
            case rel => exact ⟨k + 1, _, by go_num, by omega, by omega, S5.out⟩
            case measure => simp [intOf]; omega
        · go_wp2
          go_meet
          case rel => exact ⟨y, k, by omega, hS.out⟩
    case rest =>
      obtain ⟨y, j2, hj2, hY⟩ := hcut
      clear hX HO HO'
      obtain ⟨rc, hrc⟩ : ∃ rc, w2.heap.size = rc := ⟨_, rfl⟩
      obtain ⟨sd, hsd⟩ : ∃ sd, rc + 1 = sd := ⟨_, rfl⟩
      rw [hrc, hsd] at hY
      have HRC := Lib.hid hrc
      have HSD := Lib.hid hsd
      clear hrc hsd
      have EQR : ∀ W, (binOp .eql 36 (.agg #[.int .i64 x.s, .bool x.mt, .bool x.mm, .bool x.pt, .bool x.pm, .int .i64 x.t0, .int .i64 x.t1, .int .i64 x.t2, .int .i64 x.t3, .int .i64 x.t4]) (.agg #[.int .i64 y.s, .bool y.mt, .bool y.mm, .bool y.pt, .bool y.pm, .int .i64 y.t0, .int .i64 y.t1, .int .i64 y.t2, .int .i64 y.t3, .int .i64 y.t4])).run Try.prog W = .ok (.bool (sameX x y)) W := fun W => rs_eq x y W
      have HS1 : Hid (∀ W, Hid (PL w W ta tb rc sd x y (j + j2)) → Calls Try.prog 20 #[.pointer (some ⟨ta, 0, none⟩), .pointer (some ⟨tb, 0, none⟩)] W fun r V => r = .returned (.bool (sameX x y)) ∧ RS V rc x ∧ RS V sd y ∧ Hid (PL w V ta tb rc sd x y (j + j2))) := by
        show ∀ W, _ → _
        intro W P
        refine (phSame_any ta tb x y W P.out.t P.out.u).mono ?_
        rintro r V ⟨rfl, n, rfl⟩
        have P2 := P.out.later (bdrw W n)
        exact ⟨rfl, rs_of P2.r, rs_of P2.s, P2⟩
      have HS2 : Hid (∀ W, Hid (PL w W ta tb rc sd x y (j + j2)) → Calls Try.prog 20 #[.pointer (some ⟨tb, 0, none⟩), .pointer (some ⟨ta, 0, none⟩)] W fun r V => r = .returned (.bool (sameX x y)) ∧ RS V rc x ∧ RS V sd y ∧ Hid (PL w V ta tb rc sd x y (j + j2))) := by
        show ∀ W, _ → _
        intro W P
        rw [sameX_comm]
        refine (phSame_any tb ta y x W P.out.u P.out.t).mono ?_
        rintro r V ⟨rfl, n, rfl⟩
        have P2 := P.out.later (bdrw W n)
        exact ⟨rfl, rs_of P2.r, rs_of P2.s, P2⟩
      have HS3 : Hid (∀ W, Hid (PL w W ta tb rc sd x y (j + j2)) → Calls Try.prog 20 #[.pointer (some ⟨ta, 0, none⟩), .pointer (some ⟨ta, 0, none⟩)] W fun r V => r = .returned (.bool true) ∧ RS V rc x ∧ RS V sd y ∧ Hid (PL w V ta tb rc sd x y (j + j2))) := by
        show ∀ W, _ → _
        intro W P
        have := phSame_any ta ta x x W P.out.t P.out.t
        rw [sameX_self] at this
        refine this.mono ?_
        rintro r V ⟨rfl, n, rfl⟩
        have P2 := P.out.later (bdrw W n)
        exact ⟨rfl, rs_of P2.r, rs_of P2.s, P2⟩
      have HS4 : Hid (∀ W, Hid (PL w W ta tb rc sd x y (j + j2)) → Calls Try.prog 20 #[.pointer (some ⟨ta, 0, none⟩), .pointer none] W fun r V => r = .returned (.bool false) ∧ RS V rc x ∧ RS V sd y ∧ Hid (PL w V ta tb rc sd x y (j + j2))) := by
        show ∀ W, _ → _
        intro W P
        refine (phSame_none ta W).mono ?_
        rintro r V ⟨rfl, n, rfl⟩
        have P2 := P.out.later (bdrw W n)
        exact ⟨rfl, rs_of P2.r, rs_of P2.s, P2⟩
      have HAW : Hid (∀ W, Hid (PL w W ta tb rc sd x y (j + j2)) → Calls Try.prog 17 #[] W fun r V => r = .returned (.bool true) ∧ RS V rc x ∧ RS V sd y ∧ Hid (Below w.heap.size w V)) := by
        show ∀ W, _ → _
        intro W P
        refine (awake26 W).mono ?_
        rintro r V ⟨rfl, hb⟩
        have P2 := P.out.later hb
        exact ⟨rfl, rs_of P2.r, rs_of P2.s, P2.bl⟩
      obtain ⟨W7, hW7⟩ : ∃ W7, W7 = wc := ⟨_, rfl⟩
      subst hW7
      have P0 : Hid (PL w W7.drew ta tb rc sd x y (j + j2)) := hY.out.later (bdrw W7 1)
      have R1 := rs_of hY.out.r
      have R2 := rs_of hY.out.s
      obtain ⟨q, hq⟩ : ∃ q, sameX x y = q := ⟨_, rfl⟩
      rw [hq] at EQR HS1 HS2
      clear hq hY
      obtain ⟨xs, xmt, xmm, xpt, xpm, xt0, xt1, xt2, xt3, xt4⟩ := x
      obtain ⟨ys, ymt, ymm, ypt, ypm, yt0, yt1, yt2, yt3, yt4⟩ := y
      simp only at EQR
      obtain ⟨m0, m1, m2, m3, m4, m5, m6, m7, m8, m9⟩ := R1
      obtain ⟨n0, n1, n2, n3, n4, n5, n6, n7, n8, n9⟩ := R2
      go_upto_region 19 with (fail)
      rw [HRC.out, HSD.out]
      cases q
      all_goals
        go_region_held3 (fun w' => w'.cell? ⟨rc, 0, none⟩ = some (.int .i64 xs) ∧ w'.cell? ⟨rc, 1, none⟩ = some (.bool xmt) ∧ w'.cell? ⟨rc, 2, none⟩ = some (.bool xmm) ∧ w'.cell? ⟨rc, 3, none⟩ = some (.bool xpt) ∧ w'.cell? ⟨rc, 4, none⟩ = some (.bool xpm) ∧ w'.cell? ⟨rc, 5, none⟩ = some (.int .i64 xt0) ∧ w'.cell? ⟨rc, 6, none⟩ = some (.int .i64 xt1) ∧ w'.cell? ⟨rc, 7, none⟩ = some (.int .i64 xt2) ∧ w'.cell? ⟨rc, 8, none⟩ = some (.int .i64 xt3) ∧ w'.cell? ⟨rc, 9, none⟩ = some (.int .i64 xt4) ∧ w'.cell? ⟨sd, 0, none⟩ = some (.int .i64 ys) ∧ w'.cell? ⟨sd, 1, none⟩ = some (.bool ymt) ∧ w'.cell? ⟨sd, 2, none⟩ = some (.bool ymm) ∧ w'.cell? ⟨sd, 3, none⟩ = some (.bool ypt) ∧ w'.cell? ⟨sd, 4, none⟩ = some (.bool ypm) ∧ w'.cell? ⟨sd, 5, none⟩ = some (.int .i64 yt0) ∧ w'.cell? ⟨sd, 6, none⟩ = some (.int .i64 yt1) ∧ w'.cell? ⟨sd, 7, none⟩ = some (.int .i64 yt2) ∧ w'.cell? ⟨sd, 8, none⟩ = some (.int .i64 yt3) ∧ w'.cell? ⟨sd, 9, none⟩ = some (.int .i64 yt4)) (go_keep) (first | (go_at_call 20; (with_reducible refine (HS1.out _ P0).mono ?_); rintro r V1 ⟨rfl, ⟨a10, a11, a12, a13, a14, a15, a16, a17, a18, a19⟩, ⟨b10, b11, b12, b13, b14, b15, b16, b17, b18, b19⟩, P1⟩) | (go_at_call 20; (with_reducible refine (HS2.out _ P1).mono ?_); rintro r V2 ⟨rfl, ⟨a20, a21, a22, a23, a24, a25, a26, a27, a28, a29⟩, ⟨b20, b21, b22, b23, b24, b25, b26, b27, b28, b29⟩, P2⟩) | (go_at_call 20; (with_reducible refine (HS3.out _ P2).mono ?_); rintro r V3 ⟨rfl, ⟨a30, a31, a32, a33, a34, a35, a36, a37, a38, a39⟩, ⟨b30, b31, b32, b33, b34, b35, b36, b37, b38, b39⟩, P3⟩) | (go_at_call 20; (with_reducible refine (HS4.out _ P3).mono ?_); rintro r V4 ⟨rfl, ⟨a40, a41, a42, a43, a44, a45, a46, a47, a48, a49⟩, ⟨b40, b41, b42, b43, b44, b45, b46, b47, b48, b49⟩, P4⟩) | (go_at_call 17; (with_reducible refine (HAW.out _ P4).mono ?_); rintro r V5 ⟨rfl, ⟨a50, a51, a52, a53, a54, a55, a56, a57, a58, a59⟩, ⟨b50, b51, b52, b53, b54, b55, b56, b57, b58, b59⟩, B5⟩))
        all_goals
          go_wp2_with fail
          go_ret
          exact ⟨rfl, B5.out⟩
end Go.Proofs.Ytandakinbcfleaa
