/-
  tetherref03.Body.
-/
import Derived.Test.YtmdlpbgelgeiaaaDoorHdREsc
import Derived.Deep.CutRange
namespace Go.Proofs.YtmdlpbgelgeiaaaDoor
open Go.RowKit
set_option maxRecDepth 100000
set_option maxHeartbeats 2000000
set_option linter.unusedSimpArgs false
set_option linter.unusedVariables false

theorem rbody_bad (proto : Int) (A : Option Addr) (n c : Nat) (accm : Int) (pfc acfc : Bool) (w : World) (he : bodyE proto n accm ≠ 0) :
    Calls Tryd.prog 15 #[.agg #[.int .i64 proto, .slice A n c], .agg #[.int .i64 accm, .bool pfc, .bool acfc]] w fun e w' => e = .returned (.tuple #[.slice none 0 0, .int .i64 (bodyE proto n accm)]) ∧ Below w.heap.size w w' := by
  have BF : ∀ o1 o2, Below w.heap.size w ((w.alloc o1).alloc o2) := fun o1 o2 => ((Below.refl _ _).alloc (Nat.le_refl _) _).alloc (by simp) _
  cases hp : protoB proto
  · have e : bodyE proto n accm = 30 := by unfold bodyE; rw [if_pos hp]
    rw [e]
    have PC := fun W => Lib.hid (rproto_any proto W)
    rw [hp] at PC
    clear he e
    go_enter Tryd.func15, Tryd.ntmps15
    go_wp2_with (go_at_call 40; refine (PC _).out.mono ?_; rintro e w' ⟨rfl, rfl⟩)
    go_ret2
    exact ⟨rfl, BF _ _⟩
  · have PC := fun W => Lib.hid (rproto_any proto W)
    rw [hp] at PC
    by_cases hn : 16384 < n
    · have e : bodyE proto n accm = 4 := by unfold bodyE; rw [if_neg (by rw [hp]; simp), if_pos hn]
      rw [e]
      have hn' : (16384 : Int) < (n : Int) := by omega
      clear he e
      go_enter Tryd.func15, Tryd.ntmps15
      go_wp2_with (go_at_call 40; refine (PC _).out.mono ?_; rintro e w' ⟨rfl, rfl⟩)
      go_ret2
      exact ⟨rfl, BF _ _⟩
    · cases hm : mapB accm
      · have e : bodyE proto n accm = 1 := by unfold bodyE; rw [if_neg (by rw [hp]; simp), if_neg hn, if_pos hm]
        rw [e]
        have MC := fun W => Lib.hid (rmap_any accm W)
        rw [hm] at MC
        have hn' : (n : Int) ≤ 16384 := by omega
        clear he e
        go_enter Tryd.func15, Tryd.ntmps15
        go_wp2_with (first
          | (go_at_call 40; refine (PC _).out.mono ?_; rintro e w' ⟨rfl, rfl⟩)
          | (go_at_call 35; refine (MC _).out.mono ?_; rintro e w' ⟨rfl, rfl⟩))
        go_ret2
        exact ⟨rfl, BF _ _⟩
      · exfalso
        apply he
        unfold bodyE
        rw [if_neg (by rw [hp]; simp), if_neg hn, if_neg (by rw [hm]; simp)]

theorem rbody_ok (proto : Int) (A : Option Addr) (n c B : Nat) (l : List UInt8) (accm : Int) (pfc acfc : Bool) (w : World) (hr : Rd w B A n l) (hB : B ≤ w.heap.size) (hnil : A = none → c = 0) (he : bodyE proto n accm = 0) :
    Calls Tryd.prog 15 #[.agg #[.int .i64 proto, .slice A n c], .agg #[.int .i64 accm, .bool pfc, .bool acfc]] w fun e w' => ∃ v, e = .returned (.tuple #[v, .int .i64 0]) ∧ Own w' w.heap.size v (bodyL proto pfc acfc l) ∧ Below w.heap.size w w' := by
  obtain ⟨hp, hn, hm⟩ := bodyE_ok he
  have PC := fun W => Lib.hid (rproto_any proto W)
  have MC := fun W => Lib.hid (rmap_any accm W)
  rw [hp] at PC
  rw [hm] at MC
  have hpb : 0 < proto ∧ proto ≤ 65535 := by unfold protoB at hp; simp at hp; omega
  obtain ⟨p0, p1⟩ := hpb
  obtain ⟨W1, hW1⟩ : ∃ W1, (w.alloc (.cells #[.int .i64 proto, .slice A n c] 24)).alloc (.cells #[.int .i64 accm, .bool pfc, .bool acfc] 26) = W1 := ⟨_, rfl⟩
  have s1 : W1.heap.size = w.heap.size + 2 := by rw [← hW1]; simp
  have B1 : Below w.heap.size w W1 := by rw [← hW1]; exact ((Below.refl _ _).alloc (Nat.le_refl _) _).alloc (by simp) _
  have F1 : FrB W1 w proto A n c accm pfc acfc := by
    have a1 := blk_new w 24 [.int .i64 proto, .slice A n c]
    have a2 := blk_new (w.alloc (.cells #[.int .i64 proto, .slice A n c] 24)) 26 [.int .i64 accm, .bool pfc, .bool acfc]
    rw [World.size_alloc] at a2
    have a1' : Blk W1 w.heap.size 24 [.int .i64 proto, .slice A n c] := by rw [← hW1]; exact (Below.heap_alloc _ _ _ (by simp)).trans a1
    have a2' : Blk W1 (w.heap.size + 1) 26 [.int .i64 accm, .bool pfc, .bool acfc] := by rw [← hW1]; exact a2
    exact ⟨⟨a1'.cell 0, a1'.cell 1⟩, a2'.cell 0, a2'.cell 1, a2'.cell 2⟩
  have hr1 : Rd W1 B A n l := hr.below (B1.mono hB)
  have hl := hr.1
  have HW := Lib.hid hW1
  have HB1 := Lib.hid B1
  have HF := Lib.hid F1
  have HR := Lib.hid hr1
  have HL := Lib.hid hl
  have S1 := Lib.hid s1
  obtain ⟨⟨x0, x1⟩, x2, x3, x4⟩ := F1
  have n1 : (n : Int) ≤ 16384 := by omega
  have HR0 : Hid (RB W1 W1 (.slice none 0 0) []) := ⟨Own.nil _ _, Below.refl _ _⟩
  obtain ⟨L, hL⟩ : ∃ L, (proto == 49185) = L := ⟨_, rfl⟩
  have hLG : Hid (L = true → decide (255 < proto) = true) := by
    show _ → _
    intro e
    rw [← hL] at e
    have e2 : proto = 49185 := by simpa using e
    simp [e2]
  have HH1 : Hid (hd1 proto acfc = if (!acfc || L) = true then [255, 3] else []) := by show _ = _; unfold hd1; rw [hL]
  have z0 : w.heap.size < W1.heap.size := by omega
  have z1 : w.heap.size + 1 < W1.heap.size := by omega
  clear hW1 B1 hr1 hr hl s1 hp hm he
  go_enter Tryd.func15, Tryd.ntmps15
  go_upto_region 1 with (fail)
  rw [HW.out]
  go_upto_region 9 with (first
    | (go_at_call 40; refine (PC _).out.mono ?_; rintro e w' ⟨rfl, rfl⟩)
    | (go_at_call 35; refine (MC _).out.mono ?_; rintro e w' ⟨rfl, rfl⟩))
  go_cut [29] from 9 (fun u W => u = .bool (!acfc || L) ∧ W1 = W)
  case first =>
    cases L
    all_goals
      cases acfc
      all_goals
        go_wp2
        go_meet
        case rel => exact ⟨rfl, rfl⟩
  case rest =>
    obtain ⟨rfl, rfl⟩ := hcut
    go_upto_if 29 with (fail)
    go_cut [6] from 9 (fun u W => Hid (RB W1 W u (hd1 proto acfc)))
    case first =>
      rcases hb : (!acfc || L) with _ | _
      · have HN : Hid (hd1 proto acfc = []) := by show _ = _; rw [HH1.out, hb]; rfl
        go_wp2
        go_meet
        case rel => exact (by rw [HN.out]; exact HR0.out)
      · have HN : Hid (hd1 proto acfc = [255, 3]) := by show _ = _; rw [HH1.out, hb]; rfl
        obtain ⟨v', w2, r2, h2⟩ := HR0.out.app 2 ((Below.refl _ _).alloc (Nat.le_refl _) (.cells #[.int .u8 255, .int .u8 3] 5)) (rd_two _ 255 3 255 3 rfl rfl) (by simp) (by simp)
        have R2 := Lib.hid r2
        have H2 := Lib.hid h2
        clear r2 h2
        go_wp2_with (at_builtin; refine wpList_app rfl (.tmp 30) (.tmp 31) rfl _ _ rfl rfl _ _ R2.out ?_)
        go_meet
        case rel => exact (by rw [HN.out]; exact H2.out)
    case rest =>
      have HR1 := hcut
      clear hcut x0 x1 x2 x3 x4
      obtain ⟨⟨x0, x1⟩, x2, x3, x4⟩ := HF.out.later S1.out HR1.out.2
      rename World => Wc
      have l1 := hd1_le proto acfc
      go_upto_region 11 with (fail)
      go_cut [43] from 9 (fun b W => b = .bool (!pfc || decide (255 < proto)) ∧ Wc = W)
      case first =>
        cases L
        · cases pfc
          · go_wp2
            go_meet
            case rel => exact ⟨rfl, rfl⟩
          · rcases hb : decide (255 < proto) with _ | _
            all_goals
              go_wp2
              go_meet
              case rel => exact ⟨by rw [hb]; rfl, rfl⟩
        · have hb := hLG.out rfl
          have HB := Lib.hid hb
          clear hb
          go_wp2
          go_meet
          case rel => exact ⟨by rw [HB.out, Bool.or_true], rfl⟩
      case rest =>
        obtain ⟨rfl, rfl⟩ := hcut
        go_upto_if 43 with (fail)
        go_cut [6] from 9 (fun u W => Hid (RB W1 W u (hd1 proto acfc ++ hd2 proto pfc)))
        case first =>
          rcases hb : (!pfc || decide (255 < proto)) with _ | _
          · have HN : Hid (hd2 proto pfc = []) := by show _ = _; unfold hd2; rw [hb]; rfl
            go_wp2
            go_meet
            case rel => exact (by rw [HN.out, List.append_nil]; exact HR1.out)
          · have HN : Hid (hd2 proto pfc = [UInt8.ofNat ((proto / 256).toNat)]) := by show _ = _; unfold hd2; rw [hb]; rfl
            obtain ⟨v', w2, r2, h2⟩ := HR1.out.app 1 ((Below.refl _ _).alloc (Nat.le_refl _) (.cells #[.int .u8 (proto / 256)] 5)) (rd_one _ _ (proto / 256) (byte_of _ (by omega) (by omega))) (by simp) (by omega)
            have R2 := Lib.hid r2
            have H2 := Lib.hid h2
            clear r2 h2
            go_wp2_with (at_builtin; refine wpList_app rfl (.tmp 44) (.tmp 49) rfl _ _ rfl rfl _ _ R2.out ?_)
            go_meet
            case rel => exact (by rw [HN.out]; exact H2.out)
        case rest =>
          have HR2 := hcut
          clear hcut x0 x1 x2 x3 x4
          obtain ⟨⟨x0, x1⟩, x2, x3, x4⟩ := HF.out.later S1.out HR2.out.2
          rename World => Wd
          have l2 := hd2_le proto pfc
          obtain ⟨v3, w3, r3, h3⟩ := HR2.out.app 1 ((Below.refl _ _).alloc (Nat.le_refl _) (.cells #[.int .u8 (proto % 256)] 5)) (rd_one _ _ (proto % 256) (byte_of _ (by omega) (by omega))) (by simp) (by rw [List.length_append]; omega)
          have xx1 : w3.cell? ⟨w.heap.size, 1, none⟩ = some (.slice A n c) := (HF.out.later S1.out h3.2).1.2
          have hL3 : (hd1 proto acfc ++ hd2 proto pfc ++ [UInt8.ofNat (proto % 256).toNat]).length ≤ 4 := hdL_le proto pfc acfc
          obtain ⟨v4, w4, r4, h4⟩ := h3.app c (Below.refl _ _) (HR.out.below (h3.2.mono (by omega))) hnil (by omega)
          obtain ⟨g4, c4, rfl, g4a, g4b, g4c⟩ : ∃ g c4, v4 = .slice (some ⟨g, 0, none⟩) (hd1 proto acfc ++ hd2 proto pfc ++ [UInt8.ofNat (proto % 256).toNat] ++ l).length c4 ∧ W1.heap.size ≤ g ∧ g < w4.heap.size ∧ (hd1 proto acfc ++ hd2 proto pfc ++ [UInt8.ofNat (proto % 256).toNat] ++ l).length ≤ c4 := by
            rcases h4.1.form with ⟨_, e⟩ | h
            · simp at e
            · exact h
          obtain ⟨M, hM⟩ : ∃ M, M = hd1 proto acfc ++ hd2 proto pfc ++ [UInt8.ofNat (proto % 256).toNat] ++ l := ⟨_, rfl⟩
          have HM : Hid (sumd M = bodyL proto pfc acfc l) := by show _ = _; rw [hM]; rfl
          rw [← hM] at h4 g4c r4
          have hML : M.length ≤ 16388 := by rw [hM, List.length_append]; have := HL.out; omega
          obtain ⟨m, hm⟩ : ∃ m, m = M.length := ⟨_, rfl⟩
          have hrd := h4.1.rd rfl M.length (Nat.le_refl _)
          rw [List.take_length] at hrd
          rw [← hm] at hrd g4c r4 hML
          have SC := Lib.hid (rsum03_any (some ⟨g4, 0, none⟩) m c4 w4.heap.size M w4 hrd (by unfold maxLen; omega))
          obtain ⟨z, hz⟩ : ∃ z : Int, z = ((sum16 M : Nat) : Int) := ⟨_, rfl⟩
          rw [← hz] at SC
          have hs16 := sum16_lt M
          have z2 : 0 ≤ z := by omega
          have z3 : z ≤ 65535 := by omega
          have hq : IntKind.u16.wrap (z.tdiv 256) % 256 = z / 256 := by
            rw [Int.tdiv_eq_ediv_of_nonneg z2, IntWalk.u16_in _ (by omega)]
            omega
          obtain ⟨v5, w5, r5, h5⟩ := h4.app 2 ((Below.refl _ _).alloc (Nat.le_refl _) (.cells #[.int .u8 (z % 256), .int .u8 (IntKind.u16.wrap (z.tdiv 256) % 256)] 5)) (rd_two _ _ (UInt8.ofNat (z / 256).toNat) (z % 256) _ (byte_of _ (by omega) (by omega)) (by rw [hq]; exact byte_of _ (by omega) (by omega))) (by simp) (by omega)
          have H5 : Hid (Own w5 W1.heap.size v5 (bodyL proto pfc acfc l) ∧ Below W1.heap.size W1 w5) := by
            refine ⟨?_, h5.2⟩
            have := h5.1
            rw [← HM.out]
            unfold sumd
            rw [show low16 (sum16 M) = [UInt8.ofNat (z % 256).toNat, UInt8.ofNat (z / 256).toNat] by
              unfold low16
              rw [show (z % 256).toNat = sum16 M % 256 by omega, show (z / 256).toNat = sum16 M / 256 % 256 by omega]]
            exact this
          rw [← hm] at r5
          have R3 := Lib.hid r3
          have R4 := Lib.hid r4
          have R5 := Lib.hid r5
          clear r3 h3 r4 h4 hrd hM hm hL3 h5 r5 hz hs16 hq
          go_wp2_with (first
            | (at_builtin; refine wpList_app rfl (.tmp 51) (.tmp 56) rfl _ _ rfl rfl _ _ R3.out ?_)
            | (at_builtin; refine wpList_app rfl (.tmp 58) (.tmp 60) rfl _ _ rfl rfl _ _ R4.out ?_)
            | (go_at_call 41; refine SC.out.mono ?_; rintro e w' ⟨rfl, rfl⟩)
            | (at_builtin; refine wpList_app rfl (.tmp 64) (.tmp 71) rfl _ _ rfl rfl _ _ R5.out ?_))
          go_ret2
          have zz := S1.out
          exact ⟨_, rfl, own_lower H5.out.1 (by omega), HB1.out.trans (H5.out.2.mono (by omega))⟩
end Go.Proofs.YtmdlpbgelgeiaaaDoor
