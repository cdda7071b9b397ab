/-
  hdlc.Body: what stands between a frame's flags.
-/
import Derived.Test.YtmdlpbgelgeiaaaDoorHdEsc
import Derived.Deep.CutRange
namespace Go.Proofs.YtmdlpbgelgeiaaaDoor
open Go.RowKit
set_option maxRecDepth 100000
set_option maxHeartbeats 2000000
set_option linter.unusedSimpArgs false
set_option linter.unusedVariables false

def hd1 (proto : Int) (acfc : Bool) : List UInt8 := if (!acfc || proto == 49185) = true then [255, 3] else []
def hd2 (proto : Int) (pfc : Bool) : List UInt8 := if (!pfc || decide (255 < proto)) = true then [UInt8.ofNat ((proto / 256).toNat)] else []
def hd3 (proto : Int) : List UInt8 := [UInt8.ofNat ((proto % 256).toNat)]
def hdL (proto : Int) (pfc acfc : Bool) : List UInt8 := hd1 proto acfc ++ hd2 proto pfc ++ hd3 proto
def sumd (l : List UInt8) : List UInt8 := l ++ low16 (sum16 l)
def bodyL (proto : Int) (pfc acfc : Bool) (l : List UInt8) : List UInt8 := sumd (hdL proto pfc acfc ++ l)
def bodyE (proto : Int) (n : Nat) (accm : Int) : Int := if protoB proto = false then 30 else if 16384 < n then 4 else if mapB accm = false then 1 else 0
theorem hd1_le (proto : Int) (acfc : Bool) : (hd1 proto acfc).length ≤ 2 := by unfold hd1; split <;> simp
theorem hd2_le (proto : Int) (pfc : Bool) : (hd2 proto pfc).length ≤ 1 := by unfold hd2; split <;> simp
theorem hdL_le (proto : Int) (pfc acfc : Bool) : (hdL proto pfc acfc).length ≤ 4 := by
  have h1 := hd1_le proto acfc
  have h2 := hd2_le proto pfc
  unfold hdL hd3
  simp only [List.length_append, List.length_singleton]
  omega
theorem byte_of (z : Int) (h : 0 ≤ z) (h2 : z < 256) : z = ((UInt8.ofNat z.toNat).toNat : Int) := by
  have e : (UInt8.ofNat z.toNat).toNat = z.toNat % 256 := by simp
  rw [e]
  omega
theorem own_lower {w : World} {b b' : Nat} {v : Value} {l : List UInt8} (h : Own w b v l) (hb : b' ≤ b) : Own w b' v l := by
  obtain ⟨h1, h2⟩ := h
  refine ⟨h1, h2.imp id ?_⟩
  rintro ⟨g, cap, cur, e, hg, r⟩
  exact ⟨g, cap, cur, e, Nat.le_trans hb hg, r⟩
/-- bytes of the call's own, and nothing elder changed -/
def RB (W1 W : World) (v : Value) (l : List UInt8) : Prop := Own W W1.heap.size v l ∧ Below W1.heap.size W1 W
theorem RB.app {W1 W W' : World} {v : Value} {l m : List UInt8} {A : Option Addr} {n B : Nat} (c : Nat) (h : RB W1 W v l) (hW : Below W.heap.size W W') (hr : Rd W' B A n m) (hnil : A = none → c = 0) (hm : l.length + n ≤ 140737488355328) :
    ∃ v' w2, (Builtin.append_ #[22, 22] 22 #[v, .slice A n c]).run Tryd.prog W' = .ok v' w2 ∧ RB W1 w2 v' (l ++ m) := by
  have hs := h.2.size
  have hs2 := hW.size
  have ho := h.1.later hW
  obtain ⟨v', w2, r, o, g, b⟩ := append_run ho c hr hnil hm (by omega)
  exact ⟨v', w2, r, o, (h.2.trans (hW.mono hs)).grown g (by omega) (fun k hk => (ho.block k hk).1)⟩
def FrB (W : World) (w : World) (proto : Int) (A : Option Addr) (n c : Nat) (accm : Int) (pfc acfc : Bool) : Prop :=
  (W.cell? ⟨w.heap.size, 0, none⟩ = some (.int .i64 proto) ∧ W.cell? ⟨w.heap.size, 1, none⟩ = some (.slice A n c)) ∧ (W.cell? ⟨w.heap.size + 1, 0, none⟩ = some (.int .i64 accm) ∧ W.cell? ⟨w.heap.size + 1, 1, none⟩ = some (.bool pfc) ∧ W.cell? ⟨w.heap.size + 1, 2, none⟩ = some (.bool acfc))
theorem FrB.later {w W1 W : World} {proto : Int} {A : Option Addr} {n c : Nat} {accm : Int} {pfc acfc : Bool} (h : FrB W1 w proto A n c accm pfc acfc) (hs : W1.heap.size = w.heap.size + 2) (hB : Below W1.heap.size W1 W) : FrB W w proto A n c accm pfc acfc :=
  ⟨⟨(hB.cell (p := ⟨w.heap.size, 0, none⟩) (by show _ < _; simp; omega)).trans h.1.1, (hB.cell (p := ⟨w.heap.size, 1, none⟩) (by show _ < _; simp; omega)).trans h.1.2⟩,
   (hB.cell (p := ⟨w.heap.size + 1, 0, none⟩) (by show _ < _; simp; omega)).trans h.2.1, (hB.cell (p := ⟨w.heap.size + 1, 1, none⟩) (by show _ < _; simp; omega)).trans h.2.2.1, (hB.cell (p := ⟨w.heap.size + 1, 2, none⟩) (by show _ < _; simp; omega)).trans h.2.2.2⟩

theorem body_bad (proto : Int) (A : Option Addr) (n c : Nat) (accm : Int) (pfc acfc : Bool) (w : World) (he : bodyE proto n accm ≠ 0) :
    Calls Tryd.prog 14 #[.agg #[.int .i64 proto, .slice A n c], .agg #[.int .i64 accm, .bool pfc, .bool acfc]] w fun e w' => e = .returned (.tuple #[.slice none 0 0, .int .i64 (bodyE proto n accm)]) ∧ Below w.heap.size w w' := by
  have BF : ∀ o1 o2, Below w.heap.size w ((w.alloc o1).alloc o2) := fun o1 o2 => ((Below.refl _ _).alloc (Nat.le_refl _) _).alloc (by simp) _
  cases hp : protoB proto
  · have e : bodyE proto n accm = 30 := by unfold bodyE; rw [if_pos hp]
    rw [e]
    have PC := fun W => Lib.hid (protoRight_any proto W)
    rw [hp] at PC
    clear he e
    go_enter Tryd.func14, Tryd.ntmps14
    go_wp2_with (go_at_call 37; refine (PC _).out.mono ?_; rintro e w' ⟨rfl, rfl⟩)
    go_ret2
    exact ⟨rfl, BF _ _⟩
  · have PC := fun W => Lib.hid (protoRight_any proto W)
    rw [hp] at PC
    by_cases hn : 16384 < n
    · have e : bodyE proto n accm = 4 := by unfold bodyE; rw [if_neg (by rw [hp]; simp), if_pos hn]
      rw [e]
      have hn' : (16384 : Int) < (n : Int) := by omega
      clear he e
      go_enter Tryd.func14, Tryd.ntmps14
      go_wp2_with (go_at_call 37; refine (PC _).out.mono ?_; rintro e w' ⟨rfl, rfl⟩)
      go_ret2
      exact ⟨rfl, BF _ _⟩
    · cases hm : mapB accm
      · have e : bodyE proto n accm = 1 := by unfold bodyE; rw [if_neg (by rw [hp]; simp), if_neg hn, if_pos hm]
        rw [e]
        have MC := fun W => Lib.hid (mapRight_any accm W)
        rw [hm] at MC
        have hn' : (n : Int) ≤ 16384 := by omega
        clear he e
        go_enter Tryd.func14, Tryd.ntmps14
        go_wp2_with (first
          | (go_at_call 37; refine (PC _).out.mono ?_; rintro e w' ⟨rfl, rfl⟩)
          | (go_at_call 38; refine (MC _).out.mono ?_; rintro e w' ⟨rfl, rfl⟩))
        go_ret2
        exact ⟨rfl, BF _ _⟩
      · exfalso
        apply he
        unfold bodyE
        rw [if_neg (by rw [hp]; simp), if_neg hn, if_neg (by rw [hm]; simp)]
theorem bodyE_ok {proto : Int} {n : Nat} {accm : Int} (h : bodyE proto n accm = 0) : protoB proto = true ∧ n ≤ 16384 ∧ mapB accm = true := by
  unfold bodyE at h
  cases hp : protoB proto
  · rw [if_pos hp] at h; omega
  · rw [if_neg (by rw [hp]; simp)] at h
    by_cases hn : 16384 < n
    · rw [if_pos hn] at h; omega
    · rw [if_neg hn] at h
      cases hm : mapB accm
      · rw [if_pos hm] at h; omega
      · exact ⟨rfl, by omega, rfl⟩

theorem body_ok (proto : Int) (A : Option Addr) (n c B : Nat) (l : List UInt8) (accm : Int) (pfc acfc : Bool) (w : World) (hr : Rd w B A n l) (hB : B ≤ w.heap.size) (hnil : A = none → c = 0) (hnc : n ≤ c) (he : bodyE proto n accm = 0) (hT : Tab16 w) :
    Calls Tryd.prog 14 #[.agg #[.int .i64 proto, .slice A n c], .agg #[.int .i64 accm, .bool pfc, .bool acfc]] w fun e w' => ∃ g m, e = .returned (.tuple #[.slice (some ⟨g, 0, none⟩) m m, .int .i64 0]) ∧ m = (bodyL proto pfc acfc l).length ∧ Own w' w.heap.size (.slice (some ⟨g, 0, none⟩) m m) (bodyL proto pfc acfc l) ∧ Below w.heap.size w w' := by
  obtain ⟨hp, hn, hm⟩ := bodyE_ok he
  have PC := fun W => Lib.hid (protoRight_any proto W)
  have MC := fun W => Lib.hid (mapRight_any accm W)
  rw [hp] at PC
  rw [hm] at MC
  have hpb : 0 < proto ∧ proto ≤ 65535 := by unfold protoB at hp; simp at hp; omega
  obtain ⟨p0, p1⟩ := hpb
  obtain ⟨W1, hW1⟩ : ∃ W1, (w.alloc (.cells #[.int .i64 proto, .slice A n c] 24)).alloc (.cells #[.int .i64 accm, .bool pfc, .bool acfc] 31) = W1 := ⟨_, rfl⟩
  have s1 : W1.heap.size = w.heap.size + 2 := by rw [← hW1]; simp
  have B1 : Below w.heap.size w W1 := by rw [← hW1]; exact ((Below.refl _ _).alloc (Nat.le_refl _) _).alloc (by simp) _
  have F1 : FrB W1 w proto A n c accm pfc acfc := by
    have a1 := blk_new w 24 [.int .i64 proto, .slice A n c]
    have a2 := blk_new (w.alloc (.cells #[.int .i64 proto, .slice A n c] 24)) 31 [.int .i64 accm, .bool pfc, .bool acfc]
    rw [World.size_alloc] at a2
    have a1' : Blk W1 w.heap.size 24 [.int .i64 proto, .slice A n c] := by rw [← hW1]; exact (Below.heap_alloc _ _ _ (by simp)).trans a1
    have a2' : Blk W1 (w.heap.size + 1) 31 [.int .i64 accm, .bool pfc, .bool acfc] := by rw [← hW1]; exact a2
    exact ⟨⟨a1'.cell 0, a1'.cell 1⟩, a2'.cell 0, a2'.cell 1, a2'.cell 2⟩
  have hr1 : Rd W1 B A n l := hr.below (B1.mono hB)
  have hT1 : Tab16 W1 := hT.kept B1
  have hl := hr.1
  have HW := Lib.hid hW1
  have HB1 := Lib.hid B1
  have HF := Lib.hid F1
  have HR := Lib.hid hr1
  have HT := Lib.hid hT1
  have HL := Lib.hid hl
  have S1 := Lib.hid s1
  obtain ⟨⟨x0, x1⟩, x2, x3, x4⟩ := F1
  have n1 : (n : Int) ≤ 16384 := by omega
  have MK := mk0_run (n + 4) ((n : Int) + 4) (by omega) (by omega) W1
  have hR0 : RB W1 (W1.alloc (.cells (zeros (n + 4)).toArray 5)) (.slice (some ⟨W1.heap.size, 0, none⟩) 0 (n + 4)) [] := ⟨own_room W1 W1.heap.size (n + 4) (Nat.le_refl _) (by omega), (Below.refl _ _).alloc (Nat.le_refl _) _⟩
  obtain ⟨W2, hW2⟩ : ∃ W2, W1.alloc (.cells (zeros (n + 4)).toArray 5) = W2 := ⟨_, rfl⟩
  rw [hW2] at hR0 MK
  clear hW2
  obtain ⟨⟨y0, y1⟩, y2, y3, y4⟩ := HF.out.later S1.out hR0.2
  have HR0 := Lib.hid hR0
  clear hR0
  have z0 : w.heap.size < W1.heap.size := by omega
  have z1 : w.heap.size + 1 < W1.heap.size := by omega
  clear hW1 B1 hr1 hT1 hT hr hl s1 hp hm he
  go_enter Tryd.func14, Tryd.ntmps14
  go_upto_region 1 with (fail)
  rw [HW.out]
  go_upto_region 8 with (first
    | (go_at_call 37; refine (PC _).out.mono ?_; rintro e w' ⟨rfl, rfl⟩)
    | (go_at_call 38; refine (MC _).out.mono ?_; rintro e w' ⟨rfl, rfl⟩))
  clear MK
  go_cut [34] from 7 (fun u W => u = .bool (!acfc || proto == 49185) ∧ W2 = W)
  case first =>
    cases acfc
    · go_wp2
      go_meet
      case rel => exact ⟨rfl, rfl⟩
    · rcases hb : (proto == 49185) with _ | _
      all_goals
        go_wp2
        go_meet
        case rel => exact ⟨by rw [hb]; rfl, rfl⟩
  case rest =>
    obtain ⟨rfl, rfl⟩ := hcut
    go_upto_if 34 with (fail)
    go_cut [6] from 7 (fun u W => Hid (RB W1 W u (hd1 proto acfc)))
    case first =>
      rcases hb : (!acfc || proto == 49185) with _ | _
      · have HN : Hid (hd1 proto acfc = []) := by show _ = _; unfold hd1; rw [hb]; rfl
        go_wp2
        go_meet
        case rel => exact (by rw [HN.out]; exact HR0.out)
      · have HN : Hid (hd1 proto acfc = [255, 3]) := by show _ = _; unfold hd1; rw [hb]; rfl
        obtain ⟨v', w2, r2, h2⟩ := HR0.out.app 2 ((Below.refl _ _).alloc (Nat.le_refl _) (.cells #[.int .u8 255, .int .u8 3] 5)) (rd_two _ 255 3 255 3 rfl rfl) (by simp) (by simp)
        have R2 := Lib.hid r2
        have H2 := Lib.hid h2
        clear r2 h2
        go_wp2_with (at_builtin; refine wpList_app rfl (.tmp 35) (.tmp 36) rfl _ _ rfl rfl _ _ R2.out ?_)
        go_meet
        case rel => exact (by rw [HN.out]; exact H2.out)
    case rest =>
      have HR1 := hcut
      clear hcut x0 x1 x2 x3 x4 y0 y1 y2 y3 y4
      obtain ⟨⟨x0, x1⟩, x2, x3, x4⟩ := HF.out.later S1.out HR1.out.2
      rename World => Wc
      have l1 := hd1_le proto acfc
      go_upto_region 10 with (fail)
      go_cut [45] from 7 (fun b W => b = .bool (!pfc || decide (255 < proto)) ∧ Wc = W)
      case first =>
        cases pfc
        · go_wp2
          go_meet
          case rel => exact ⟨rfl, rfl⟩
        · rcases hb : decide (255 < proto) with _ | _
          all_goals
            go_wp2
            go_meet
            case rel => exact ⟨by rw [hb]; rfl, rfl⟩
      case rest =>
        obtain ⟨rfl, rfl⟩ := hcut
        go_upto_if 45 with (fail)
        go_cut [6] from 7 (fun u W => Hid (RB W1 W u (hd1 proto acfc ++ hd2 proto pfc)))
        case first =>
          rcases hb : (!pfc || decide (255 < proto)) with _ | _
          · have HN : Hid (hd2 proto pfc = []) := by show _ = _; unfold hd2; rw [hb]; rfl
            go_wp2
            go_meet
            case rel => exact (by rw [HN.out, List.append_nil]; exact HR1.out)
          · have HN : Hid (hd2 proto pfc = [UInt8.ofNat ((proto / 256).toNat)]) := by show _ = _; unfold hd2; rw [hb]; rfl
            obtain ⟨v', w2, r2, h2⟩ := HR1.out.app 1 ((Below.refl _ _).alloc (Nat.le_refl _) (.cells #[.int .u8 (proto / 256)] 5)) (rd_one _ _ (proto / 256) (byte_of _ (by omega) (by omega))) (by simp) (by omega)
            have R2 := Lib.hid r2
            have H2 := Lib.hid h2
            clear r2 h2
            go_wp2_with (at_builtin; refine wpList_app rfl (.tmp 46) (.tmp 51) rfl _ _ rfl rfl _ _ R2.out ?_)
            go_meet
            case rel => exact (by rw [HN.out]; exact H2.out)
        case rest =>
          have HR2 := hcut
          clear hcut x0 x1 x2 x3 x4
          obtain ⟨⟨x0, x1⟩, x2, x3, x4⟩ := HF.out.later S1.out HR2.out.2
          rename World => Wd
          have l2 := hd2_le proto pfc
          obtain ⟨v3, w3, r3, h3⟩ := HR2.out.app 1 ((Below.refl _ _).alloc (Nat.le_refl _) (.cells #[.int .u8 (proto % 256)] 5)) (rd_one _ _ (proto % 256) (byte_of _ (by omega) (by omega))) (by simp) (by rw [List.length_append]; omega)
          have xx1 : w3.cell? ⟨w.heap.size, 1, none⟩ = some (.slice A n c) := (HF.out.later S1.out h3.2).1.2
          have hL3 : (hd1 proto acfc ++ hd2 proto pfc ++ [UInt8.ofNat (proto % 256).toNat]).length ≤ 4 := hdL_le proto pfc acfc
          obtain ⟨v4, w4, r4, h4⟩ := h3.app c (Below.refl _ _) (HR.out.below (h3.2.mono (by omega))) hnil (by omega)
          obtain ⟨g4, c4, rfl, g4a, g4b, g4c⟩ : ∃ g c4, v4 = .slice (some ⟨g, 0, none⟩) (hd1 proto acfc ++ hd2 proto pfc ++ [UInt8.ofNat (proto % 256).toNat] ++ l).length c4 ∧ W1.heap.size ≤ g ∧ g < w4.heap.size ∧ (hd1 proto acfc ++ hd2 proto pfc ++ [UInt8.ofNat (proto % 256).toNat] ++ l).length ≤ c4 := by
            rcases h4.1.form with ⟨_, e⟩ | h
            · simp at e
            · exact h
          obtain ⟨M, hM⟩ : ∃ M, M = hd1 proto acfc ++ hd2 proto pfc ++ [UInt8.ofNat (proto % 256).toNat] ++ l := ⟨_, rfl⟩
          have HM : Hid (sumd M = bodyL proto pfc acfc l) := by show _ = _; rw [hM]; rfl
          rw [← hM] at h4 g4c r4
          have hML : M.length ≤ 16388 := by rw [hM, List.length_append]; have := HL.out; omega
          obtain ⟨m, hm⟩ : ∃ m, m = M.length := ⟨_, rfl⟩
          have hrd := h4.1.rd rfl M.length (Nat.le_refl _)
          rw [List.take_length] at hrd
          rw [← hm] at hrd g4c r4 hML
          have P4 := Lib.hid (put16_any (some ⟨g4, 0, none⟩) m c4 w4.heap.size M w4 hrd (Nat.le_refl _) g4c (by omega) (HT.out.kept h4.2))
          have H4 := Lib.hid h4.2
          have R3 := Lib.hid r3
          have R4 := Lib.hid r4
          have HMM := Lib.hid hm
          clear r3 h3 r4 h4 hrd hM hm hL3
          go_wp2_with (first
            | (at_builtin; refine wpList_app rfl (.tmp 53) (.tmp 57) rfl _ _ rfl rfl _ _ R3.out ?_)
            | (at_builtin; refine wpList_app rfl (.tmp 59) (.tmp 61) rfl _ _ rfl rfl _ _ R4.out ?_)
            | (go_at_call 39; refine P4.out.mono ?_; rintro e w5 ⟨g, rfl, ho5, hb5⟩; have H5 := Lib.hid hb5; have O5 := Lib.hid ho5; clear hb5 ho5))
          go_ret2
          have s4 := H4.out.size
          have z1 := S1.out
          refine ⟨g, m + 2, rfl, ?_, ?_, HB1.out.trans ((H4.out.mono (by omega)).trans (H5.out.mono (by omega)))⟩
          · rw [← HM.out, HMM.out]; unfold sumd; rw [List.length_append, low16_length]
          · have h5 := O5.out
            rw [← HM.out]
            exact own_lower h5 (by omega)
end Go.Proofs.YtmdlpbgelgeiaaaDoor
