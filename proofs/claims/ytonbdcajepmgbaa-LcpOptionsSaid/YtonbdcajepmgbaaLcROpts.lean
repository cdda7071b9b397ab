/-
  tetherref11.Options: what is asked, by the reference.
-/
import Derived.Test.YtonbdcajepmgbaaLcRSmall
import Derived.Test.YtonbdcajepmgbaaOLent
import Derived.Deep.Cut
namespace Go.Proofs.Ytonbdcajepmgbaa
open Go.RowKit
set_option maxRecDepth 100000
set_option maxHeartbeats 4000000
set_option linter.unusedSimpArgs false
set_option linter.unusedVariables false

theorem cells6_kept {W W' : World} {z : Nat} {o : LOpts} (h : cells6 W z o) (hz : z < W.heap.size) (hB : Below W.heap.size W W') : cells6 W' z o := by
  obtain ⟨h0, h1, h2, h3, h4, h5⟩ := h
  have k : ∀ i, W'.cell? ⟨z, i, none⟩ = W.cell? ⟨z, i, none⟩ := fun i => hB.cell (show z < W.heap.size from hz)
  exact ⟨(k 0).trans h0, (k 1).trans h1, (k 2).trans h2, (k 3).trans h3, (k 4).trans h4, (k 5).trans h5⟩
theorem cells6_box (W : World) (t : Nat) (o : LOpts) : cells6 (W.alloc (.cells #[.int .i64 o.mru, .int .i64 o.accm, .int .i64 o.auth, .int .u32 o.magic, .bool o.pfc, .bool o.acfc] t)) W.heap.size o := by
  have h := blk_new W t o.cells
  exact ⟨Blk.cell h 0, Blk.cell h 1, Blk.cell h 2, Blk.cell h 3, Blk.cell h 4, Blk.cell h 5⟩
/-- the options so far; W1 is the world behind the box -/
def RO (W1 W : World) (v : Value) (s : List Opt) : Prop := OwnL W W1.heap.size v s ∧ Below W1.heap.size W1 W
theorem RO.six {W1 W : World} {v : Value} {s : List Opt} {o : LOpts} {z : Nat} (h : RO W1 W v s) (hz : z < W1.heap.size) (h6 : cells6 W1 z o) : cells6 W z o := cells6_kept h6 hz h.2
/-- one option more -/
def RoApp (W1 w1 : World) (v : Value) (s : List Opt) (K : Int) (D : Option Addr) (k d : Nat) : Prop :=
  ∃ v' w', (Builtin.append_ #[55, 55] 55 #[v, .slice (some ⟨w1.heap.size, 0, none⟩) 1 1]).run Try.prog (w1.alloc (.cells #[.int .i64 K, .slice D k d] 70)) = .ok v' w' ∧ RO W1 w' v' s
theorem ro_app {W1 W : World} {v : Value} {s : List Opt} (h : RO W1 W v s) (hs : s.length ≤ 1000) (K : Int) (D : Option Addr) (k d : Nat) (l : List UInt8) (ho : Own W W1.heap.size (.slice D k d) l) : RoApp W1 W v (s ++ [(K, l)]) K D k d := by
  obtain ⟨v', w', h1, h2, h3⟩ := app_set h.1 K D k d l ho (by omega) h.2.size W1 h.2 (Nat.le_refl _)
  exact ⟨v', w', h1, h2, h3⟩
def RoB (W1 W : World) (v : Value) (s : List Opt) (K x m : Int) (n : Nat) : Prop :=
  Calls Try.prog 102 #[.int .u64 x, .int .i64 m] W fun e w1 => ∃ D k d, e = .returned (.slice D k d) ∧ RoApp W1 w1 v (s ++ [(K, putB x.toNat n)]) K D k d
theorem ro_bytes {W1 W : World} {v : Value} {s : List Opt} (h : RO W1 W v s) (hs : s.length ≤ 1000) (K x m : Int) (n : Nat) (hm : m = (n : Int)) (hn : n ≤ 8) (hx0 : 0 ≤ x) (hx : x < 18446744073709551616) : RoB W1 W v s K x m n := by
  subst hm
  refine (refbytes_any n x W hn hx0 hx).mono ?_
  rintro e w1 ⟨u, rfl, ho, hb⟩
  obtain ⟨D, d, rfl, -⟩ := own_rdv1 ho
  have h1 : RO W1 w1 v s := ⟨h.1.later hb, h.2.trans (hb.mono h.2.size)⟩
  exact ⟨D, _, d, rfl, ro_app h1 hs K D _ d _ (ho.base_le h.2.size)⟩
def RoA (W1 W : World) (v : Value) (s : List Opt) (a : Int) (z : Nat) : Prop :=
  Calls Try.prog 48 #[.int .i64 a] W fun e w1 => ∃ D k d, e = .returned (.slice D k d) ∧ (∀ X, (binOp .neq 52 (.slice D k d) (.slice none 0 0)).run Try.prog X = .ok (.bool (!(authB a).isEmpty)) X) ∧ (w1.cell? ⟨z, 2, none⟩ = some (.int .i64 a)) ∧ RO W1 w1 v s ∧
    Calls Try.prog 48 #[.int .i64 a] w1 fun e w2 => ∃ D k d, e = .returned (.slice D k d) ∧ RoApp W1 w2 v (s ++ [(3, authB a)]) 3 D k d
theorem ro_auth {W1 W : World} {v : Value} {s : List Opt} (h : RO W1 W v s) (hs : s.length ≤ 1000) (a : Int) (z : Nat) (hz : z < W1.heap.size) (h2 : W1.cell? ⟨z, 2, none⟩ = some (.int .i64 a)) : RoA W1 W v s a z := by
  refine (rauth_any a W).mono ?_
  rintro e w1 ⟨D, k, c, rfl, ho, hb, hn, hne⟩
  have h1 : RO W1 w1 v s := ⟨h.1.later hb, h.2.trans (hb.mono h.2.size)⟩
  refine ⟨D, k, c, rfl, fun X => ?_, (h1.2.cell (show z < W1.heap.size from hz)).trans h2, h1, (rauth_any a w1).mono ?_⟩
  · by_cases he : authB a = []
    · obtain ⟨rfl, rfl, rfl⟩ := hn he
      rw [he]
      exact nne_no X
    · obtain ⟨g, rfl⟩ := hne he
      have : (authB a).isEmpty = false := by
        rcases h3 : authB a with _ | ⟨a, t⟩
        · exact absurd h3 he
        · rfl
      rw [this]
      exact nne_yes X _ _ _
  · rintro e w2 ⟨D2, k2, c2, rfl, ho2, hb2, -⟩
    have h3 : RO W1 w2 v s := ⟨h1.1.later hb2, h1.2.trans (hb2.mono h1.2.size)⟩
    exact ⟨D2, k2, c2, rfl, ro_app h3 hs 3 D2 k2 c2 _ (ho2.base_le h1.2.size)⟩
theorem opts_lens (o : LOpts) : (opt1 o).length ≤ 1 ∧ (opt2 o).length ≤ 1 ∧ (opt3 o).length ≤ 1 ∧ (opt4 o).length ≤ 1 ∧ (opt5 o).length ≤ 1 ∧ (opt6 o).length ≤ 1 :=
  ⟨ite_len _ _, ite_len _ _, ite_len _ _, ite_len _ _, ite_len _ _, ite_len _ _⟩
theorem roptions_any (o : LOpts) (w : World) (hw : o.wf) :
    Calls Try.prog 41 #[.agg #[.int .i64 o.mru, .int .i64 o.accm, .int .i64 o.auth, .int .u32 o.magic, .bool o.pfc, .bool o.acfc]] w fun e w' => ∃ A n c, e = .returned (.slice A n c) ∧ n = (optsOf o).length ∧ OwnL w' w.heap.size (.slice A n c) (optsOf o) ∧ Below w.heap.size w w' := by
  obtain ⟨W1, hW1⟩ : ∃ W1, w.alloc (.cells #[.int .i64 o.mru, .int .i64 o.accm, .int .i64 o.auth, .int .u32 o.magic, .bool o.pfc, .bool o.acfc] 74) = W1 := ⟨_, rfl⟩
  have B1 : Below w.heap.size w W1 := by rw [← hW1]; exact (Below.refl _ _).alloc (Nat.le_refl _) _
  have s1 : W1.heap.size = w.heap.size + 1 := by rw [← hW1]; simp
  have h6 : cells6 W1 w.heap.size o := by rw [← hW1]; exact cells6_box w _ o
  have hz : w.heap.size < W1.heap.size := by omega
  have HW := Lib.hid hW1
  have H6 := Lib.hid h6
  have HB := Lib.hid B1
  obtain ⟨⟨m1, m2⟩, ⟨a1, a2⟩, ⟨u1, u2⟩, ⟨g1, g2⟩⟩ := hw
  obtain ⟨l1, l2, l3, l4, l5, l6⟩ := opts_lens o
  obtain ⟨x0, x1, x2, x3, x4, x5⟩ := h6
  have b1 := u64_bd o.mru
  have b2 := u64_bd o.accm
  have b4 : 0 ≤ o.magic ∧ o.magic < 18446744073709551616 := ⟨g1, by omega⟩
  have HM := Lib.hid (show u64 o.magic = o.magic by unfold u64; rw [IntKind.wrap_u64]; omega)
  have HR0 := Lib.hid (show RO W1 W1 (.slice none 0 0) [] from ⟨OwnL.nil _ _, Below.refl _ _⟩)
  clear hW1 B1
  go_enter Try.func41, Try.ntmps41
  go_upto_region 1 with (fail)
  rw [HW.out]
  go_upto_if 6 with (fail)
  go_cut [0, 3] from 4 (fun u v W => Hid (RO W1 W v (opt1 o)))
  case first =>
    rcases hb : (o.mru != 1500) with _ | _
    · have HN : Hid (opt1 o = []) := by show _ = _; unfold opt1; rw [hb]; rfl
      go_wp2
      go_meet
      case rel => exact (by rw [HN.out]; exact HR0.out)
    · have HN : Hid (opt1 o = [(1, putB (u64 o.mru).toNat 2)]) := by show _ = _; unfold opt1; rw [hb]; rfl
      have RB0 := ro_bytes HR0.out (by simp) 1 (u64 o.mru) 2 2 rfl (by omega) b1.1 b1.2
      unfold RoB RoApp at RB0
      try unfold u64 at RB0
      have RB := Lib.hid RB0
      clear RB0
      go_wp2_with (first
        | (go_at_call 102; ((with_reducible refine RB.out.mono ?_); rintro e wb ⟨D, k, d, rfl, v2, w2, hr2, hro⟩; have R2 := Lib.hid hr2; have HN2 := Lib.hid hro; clear hr2 hro))
        | (at_builtin; refine wpList_appO 55 55 rfl (.tmp 7) (.tmp 13) rfl _ _ rfl rfl _ _ R2.out ?_))
      go_meet
      case rel => exact (by rw [HN.out]; exact HN2.out)
  case rest =>
    have HR1 := hcut
    clear hcut x0 x1 x2 x3 x4 x5
    obtain ⟨x0, x1, x2, x3, x4, x5⟩ := HR1.out.six hz H6.out
    go_upto_if 17 with (fail)
    go_cut [0, 3] from 4 (fun u v W => Hid (RO W1 W v ((opt1 o) ++ opt2 o)))
    case first =>
      rcases hb : (o.accm != 4294967295) with _ | _
      · have HN : Hid (opt2 o = []) := by show _ = _; unfold opt2; rw [hb]; rfl
        go_wp2
        go_meet
        case rel => exact (by rw [HN.out, List.append_nil]; exact HR1.out)
      · have HN : Hid (opt2 o = [(2, putB (u64 o.accm).toNat 4)]) := by show _ = _; unfold opt2; rw [hb]; rfl
        have RB0 := ro_bytes HR1.out (by omega) 2 (u64 o.accm) 4 4 rfl (by omega) b2.1 b2.2
        unfold RoB RoApp at RB0
        try unfold u64 at RB0
        have RB := Lib.hid RB0
        clear RB0
        go_wp2_with (first
          | (go_at_call 102; ((with_reducible refine RB.out.mono ?_); rintro e wb ⟨D, k, d, rfl, v2, w2, hr2, hro⟩; have R2 := Lib.hid hr2; have HN2 := Lib.hid hro; clear hr2 hro))
          | (at_builtin; refine wpList_appO 55 55 rfl (.tmp 18) (.tmp 24) rfl _ _ rfl rfl _ _ R2.out ?_))
        go_meet
        case rel => exact (by rw [HN.out]; exact HN2.out)
    case rest =>
      have HR2 := hcut
      clear hcut x0 x1 x2 x3 x4 x5
      obtain ⟨x0, x1, x2, x3, x4, x5⟩ := HR2.out.six hz H6.out
      have RA0 := ro_auth HR2.out (by simp only [List.length_append]; omega) o.auth w.heap.size hz H6.out.2.2.1
      unfold RoA RoApp at RA0
      have RA := Lib.hid RA0
      clear RA0
      go_upto_if 29 with (go_at_call 48; ((with_reducible refine RA.out.mono ?_); rintro e wa ⟨D, k, d, rfl, hneq, xa, hro, ra⟩; have HRA := Lib.hid hro; have RA2 := Lib.hid ra; clear hro ra))
      go_cut [0, 3] from 4 (fun u v W => Hid (RO W1 W v (((opt1 o) ++ opt2 o) ++ opt3 o)))
      case first =>
        rcases hb : (!(authB o.auth).isEmpty) with _ | _
        · have HN : Hid (opt3 o = []) := by show _ = _; unfold opt3; rw [hb]; rfl
          go_wp2
          go_meet
          case rel => exact (by rw [HN.out, List.append_nil]; exact HRA.out)
        · have HN : Hid (opt3 o = [(3, authB o.auth)]) := by show _ = _; unfold opt3; rw [hb]; rfl
          go_wp2_with (first
            | (go_at_call 48; ((with_reducible refine RA2.out.mono ?_); rintro e wb ⟨D2, k2, d2, rfl, v2, w2, hr2, hro⟩; have R2 := Lib.hid hr2; have HN2 := Lib.hid hro; clear hr2 hro))
            | (at_builtin; refine wpList_appO 55 55 rfl (.tmp 30) (.tmp 35) rfl _ _ rfl rfl _ _ R2.out ?_))
          go_meet
          case rel => exact (by rw [HN.out]; exact HN2.out)
      case rest =>
        have HR3 := hcut
        clear hcut x0 x1 x2 x3 x4 x5
        obtain ⟨x0, x1, x2, x3, x4, x5⟩ := HR3.out.six hz H6.out
        go_upto_if 39 with (fail)
        go_cut [0, 3] from 4 (fun u v W => Hid (RO W1 W v ((((opt1 o) ++ opt2 o) ++ opt3 o) ++ opt4 o)))
        case first =>
          rcases hb : (o.magic != 0) with _ | _
          · have HN : Hid (opt4 o = []) := by show _ = _; unfold opt4; rw [hb]; rfl
            go_wp2
            go_meet
            case rel => exact (by rw [HN.out, List.append_nil]; exact HR3.out)
          · have HN : Hid (opt4 o = [(5, putB (o.magic).toNat 4)]) := by show _ = _; unfold opt4; rw [hb, HM.out]; rfl
            have RB0 := ro_bytes HR3.out (by simp only [List.length_append]; omega) 5 (o.magic) 4 4 rfl (by omega) b4.1 b4.2
            unfold RoB RoApp at RB0
            try unfold u64 at RB0
            have RB := Lib.hid RB0
            clear RB0
            go_wp2_with (first
              | (go_at_call 102; ((with_reducible refine RB.out.mono ?_); rintro e wb ⟨D, k, d, rfl, v2, w2, hr2, hro⟩; have R2 := Lib.hid hr2; have HN2 := Lib.hid hro; clear hr2 hro))
              | (at_builtin; refine wpList_appO 55 55 rfl (.tmp 40) (.tmp 46) rfl _ _ rfl rfl _ _ R2.out ?_))
            go_meet
            case rel => exact (by rw [HN.out]; exact HN2.out)
        case rest =>
          have HR4 := hcut
          clear hcut x0 x1 x2 x3 x4 x5
          obtain ⟨x0, x1, x2, x3, x4, x5⟩ := HR4.out.six hz H6.out
          go_upto_if 49 with (fail)
          go_cut [0, 3] from 4 (fun u v W => Hid (RO W1 W v (((((opt1 o) ++ opt2 o) ++ opt3 o) ++ opt4 o) ++ opt5 o)))
          case first =>
            obtain ⟨bb, hb⟩ : ∃ b, o.pfc = b := ⟨_, rfl⟩
            cases bb
            · have HN : Hid (opt5 o = []) := by show _ = _; unfold opt5; rw [hb]; rfl
              rw [hb]
              go_wp2
              go_meet
              case rel => exact (by rw [HN.out, List.append_nil]; exact HR4.out)
            · have HN : Hid (opt5 o = [(7, [])]) := by show _ = _; unfold opt5; rw [hb]; rfl
              rw [hb]
              obtain ⟨v2, w2, hr2, hro⟩ := ro_app HR4.out (by simp only [List.length_append]; omega) 7 none 0 0 [] (Own.nil _ _)
              have R2 := Lib.hid hr2
              have HN2 := Lib.hid hro
              clear hr2 hro
              go_wp2_with (at_builtin; refine wpList_appO 55 55 rfl (.tmp 50) (.tmp 52) rfl _ _ rfl rfl _ _ R2.out ?_)
              go_meet
              case rel => exact (by rw [HN.out]; exact HN2.out)
          case rest =>
            have HR5 := hcut
            clear hcut x0 x1 x2 x3 x4 x5
            obtain ⟨x0, x1, x2, x3, x4, x5⟩ := HR5.out.six hz H6.out
            go_upto_if 55 with (fail)
            go_cut [0, 3] from 4 (fun u v W => Hid (RO W1 W v ((((((opt1 o) ++ opt2 o) ++ opt3 o) ++ opt4 o) ++ opt5 o) ++ opt6 o)))
            case first =>
              obtain ⟨bb, hb⟩ : ∃ b, o.acfc = b := ⟨_, rfl⟩
              cases bb
              · have HN : Hid (opt6 o = []) := by show _ = _; unfold opt6; rw [hb]; rfl
                rw [hb]
                go_wp2
                go_meet
                case rel => exact (by rw [HN.out, List.append_nil]; exact HR5.out)
              · have HN : Hid (opt6 o = [(8, [])]) := by show _ = _; unfold opt6; rw [hb]; rfl
                rw [hb]
                obtain ⟨v2, w2, hr2, hro⟩ := ro_app HR5.out (by simp only [List.length_append]; omega) 8 none 0 0 [] (Own.nil _ _)
                have R2 := Lib.hid hr2
                have HN2 := Lib.hid hro
                clear hr2 hro
                go_wp2_with (at_builtin; refine wpList_appO 55 55 rfl (.tmp 56) (.tmp 58) rfl _ _ rfl rfl _ _ R2.out ?_)
                go_meet
                case rel => exact (by rw [HN.out]; exact HN2.out)
            case rest =>
              have HR6 := hcut
              clear hcut x0 x1 x2 x3 x4 x5
              obtain ⟨x0, x1, x2, x3, x4, x5⟩ := HR6.out.six hz H6.out
              obtain ⟨hL, hB⟩ := HR6.out
              obtain ⟨A, c, hv⟩ := hL.shape
              have HL := Lib.hid hL
              have HV := Lib.hid hv
              have HB6 := Lib.hid hB
              clear hL hB hv
              go_wp2
              go_ret
              exact ⟨A, _, c, by rw [HV.out]; rfl, rfl, by have h := HL.out; rw [HV.out] at h; exact h.base_le (by omega), HB.out.trans (HB6.out.mono (by omega))⟩
end Go.Proofs.Ytonbdcajepmgbaa
