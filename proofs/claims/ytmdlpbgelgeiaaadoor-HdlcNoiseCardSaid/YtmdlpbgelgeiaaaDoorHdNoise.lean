/-
  tetherlaw03.HdlcNoise.
-/
import Derived.Test.YtmdlpbgelgeiaaaDoorHdEncU
import Derived.Test.YtmdlpbgelgeiaaaDoorHdRef
import Derived.Test.YtmdlpbgelgeiaaaDoorHdKnown
import Derived.Test.YtmdlpbgelgeiaaaDoorHdSameF
import Derived.Test.YtmdlpbgelgeiaaaDoorHdFrmsO
namespace Go.Proofs.YtmdlpbgelgeiaaaDoor
open Go.RowKit
set_option maxRecDepth 100000
set_option maxHeartbeats 2000000
set_option linter.unusedSimpArgs false
set_option linter.unusedVariables false

theorem kd_noise {a : Int} {k : Nat} (h : k < 32) (hn : nmd a k = true) : kd a (UInt8.ofNat k).toNat = 1 := by
  have e : (UInt8.ofNat k).toNat = k := by simp; omega
  rw [e]
  unfold kd
  rw [if_neg (by omega), if_neg (by omega), if_pos ⟨h, hn⟩]
/-- bytes m make what bytes x make -/
def NzL (a : Int) (M : Nat) (m x : List UInt8) : Prop := runS a M true true st0 m = runS a M true true st0 x ∧ frs a M true true st0 m = frs a M true true st0 x
theorem NzL.byte {a : Int} {M : Nat} {m x : List UInt8} (h : NzL a M m x) (c : UInt8) : NzL a M (m ++ [c]) (x ++ [c]) := by
  unfold NzL
  rw [runS_append, runS_append, frs_append, frs_append, h.1, h.2]
  exact ⟨rfl, rfl⟩
theorem NzL.noise {a : Int} {M : Nat} {m x : List UInt8} (h : NzL a M m x) (c : UInt8) (hc : kd a c.toNat = 1) : NzL a M (m ++ [c]) x := by
  have e1 : ∀ s, runS a M true true s [c] = s := fun s => by show stp1 a M true true s c = s; unfold stp1; rw [if_pos hc]
  have e2 : ∀ s, frs a M true true s [c] = [] := fun s => by
    show out1 a M true true s c ++ [] = []
    unfold out1
    rw [if_neg (by rw [hc]; simp)]
    rfl
  unfold NzL
  rw [runS_append, frs_append, e1, e2, List.append_nil]
  exact h
theorem FL.low {W : World} {base : Nat} {v : Value} {fs : List Frm} {L : Nat → Prop} (h : FL W base v fs L) : FL W base v fs (fun i => L i ∧ base ≤ i) := by
  obtain ⟨cs, h1, h2, h3, h4⟩ := h
  refine ⟨cs, h1, fun g e => ⟨h2 g e, (h1.block g e).1⟩, fun i hi => ?_, h4⟩
  obtain ⟨a, E, k, c, b, o, l⟩ := h3 i hi
  exact ⟨a, E, k, c, b, o, fun g e => ⟨l g e, (o.block g e).1⟩⟩
/-- two new lines -/
structure NzJ (w W : World) (b1 b2 : Nat) (a : Int) : Prop where
  l1 : LnAt W b1 a 16390 true true (.slice none 0 0) st0
  l2 : LnAt W b2 a 16390 true true (.slice none 0 0) st0
  bel : Below w.heap.size w W
  lo : w.heap.size ≤ b1
  lt : b1 < b2
  hi : b2 < W.heap.size
theorem NzJ.later {w W V : World} {b1 b2 : Nat} {a : Int} (h : NzJ w W b1 b2 a) (hB : Below W.heap.size W V) : NzJ w V b1 b2 a := by
  have := h.hi
  have := h.lo
  have := h.lt
  have s := hB.size
  exact ⟨h.l1.later hB, h.l2.later hB, h.bel.trans (hB.mono (by omega)), h.lo, h.lt, by omega⟩
/-- the calls at the end -/
def NzC (w V : World) (b1 b2 : Nat) (u v : Value) : Prop :=
  Calls Tryd.prog 28 #[.pointer (some ⟨b1, 0, none⟩), u] V fun e V1 => ∃ x, e = .returned x ∧
    Hid (Calls Tryd.prog 28 #[.pointer (some ⟨b2, 0, none⟩), v] V1 fun e V2 => ∃ y, e = .returned y ∧
      Hid (Calls Tryd.prog 24 #[x, y] V2 fun e V3 => e = .returned (.bool true) ∧
        Hid (Calls Tryd.prog 21 #[] V3 fun e V4 => e = .returned (.bool true) ∧ Hid (Below w.heap.size w V4))))
theorem nz_c (w V : World) (b1 b2 B1 B2 : Nat) (a : Int) (u v : Value) (x m : List UInt8) (h : NzJ w V b1 b2 a) (hu : Own V B1 u x) (hv : Own V B2 v m) (hB1 : b2 < B1) (hB2 : b2 < B2) (hx : x.length ≤ 1099511627776) (hm : m.length ≤ 1099511627776) (hz : NzL a 16390 m x) (hT : Tab16 w) : NzC w V b1 b2 u v := by
  have hlo := h.lo
  have hlt := h.lt
  have hhi := h.hi
  have hg0 := tab_lt hT
  have hbs := h.bel.size
  obtain ⟨A1, n1, c1, rfl⟩ := hu.asSlice
  obtain ⟨A2, n2, c2, rfl⟩ := hv.asSlice
  obtain ⟨e1, e2, e3⟩ := hu.lenF
  obtain ⟨f1, f2, f3⟩ := hv.lenF
  unfold NzC
  refine (feed_any b1 a 16390 true true (Nat.le_refl _) st0 (.slice none 0 0) A1 n1 c1 x V h.l1 hu.rdAllF e3 (by omega) (hT.kept h.bel) (by omega) (fun _ g o s e => ⟨?_, by simp [Value.ownBlock]⟩)).mono ?_
  · have := hu.block
    subst e
    rcases hu.form with ⟨e, _⟩ | ⟨g', cap, e, hg', _⟩
    · cases e
    · injection e with e _ _
      injection e with e
      injection e with e
      omega
  rintro e V1 ⟨v1, hv1, L1, rfl, fl1, hL1, ln1, t1⟩
  refine ⟨v1, rfl, Lib.hid ?_⟩
  have keep1 : ∀ i, i < V.heap.size → i ≠ b1 → V1.heap[i]? = V.heap[i]? := fun i hi hn => t1.block i hi hn (by simp [Value.ownBlock])
  have l2 : LnAt V1 b2 a 16390 true true (.slice none 0 0) st0 := ⟨(keep1 b2 hhi (by omega)).trans h.l2.blk, Own.nil _ _, by simp [st0]⟩
  have hv1' : Own V1 B2 (.slice A2 n2 c2) m := own_same hv (fun g e => keep1 g (hv.block g e).2 (by have := (hv.block g e).1; omega))
  have s1 := t1.size
  have B1' : Below w.heap.size w V1 := h.bel.trans (t1.toBelow w.heap.size (by omega) (by omega) (fun g e => by cases e))
  refine (feed_any b2 a 16390 true true (Nat.le_refl _) st0 (.slice none 0 0) A2 n2 c2 m V1 l2 hv1'.rdAllF f3 (by omega) (hT.kept B1') (by omega) (fun _ g o s e => ⟨?_, by simp [Value.ownBlock]⟩)).mono ?_
  · subst e
    rcases hv1'.form with ⟨e, _⟩ | ⟨g', cap, e, hg', _⟩
    · cases e
    · injection e with e _ _
      injection e with e
      injection e with e
      omega
  rintro e V2 ⟨v2, hv2, L2, rfl, fl2, hL2, ln2, t2⟩
  refine ⟨v2, rfl, Lib.hid ?_⟩
  have s2 := t2.size
  have fl1' : FL V2 V.heap.size v1 (frs a 16390 true true st0 x) (fun i => L1 i ∧ V.heap.size ≤ i) := fl1.low.same (fun i hi => t2.block i (hL1 i hi.1).2.2 (by omega) (by simp [Value.ownBlock]))
  have hb1 := frs_bytes a 16390 true true x st0 (by simp [st0])
  have hb2 := frs_bytes a 16390 true true m st0 (by simp [st0])
  obtain ⟨A3, c3, rfl, r3, _, _⟩ := fl1'.own.rd (fun o ho => by have := hb1 o ho; omega)
  obtain ⟨A4, c4, rfl, r4, _, _⟩ := fl2.own.rd (fun o ho => by have := hb2 o ho; omega)
  have k1 := frs_le a 16390 true true x st0
  have k2 := frs_le a 16390 true true m st0
  refine (sameframes_any A3 A4 _ _ c3 c4 V2.heap.size _ _ V2 r3 r4 (by omega) (by omega)).mono ?_
  rintro e V3 ⟨rfl, q, rfl⟩
  refine ⟨by rw [decide_eq_true hz.2.symm], Lib.hid ?_⟩
  have B2' : Below w.heap.size w V2 := B1'.trans (t2.toBelow w.heap.size (by omega) (by omega) (fun g e => by cases e))
  have B3' : Below w.heap.size w (V2.drewN q) := below_drewN B2' q
  refine (known_any _ (hT.kept B3')).mono ?_
  rintro e V4 ⟨rfl, b4⟩
  exact ⟨rfl, Lib.hid (B3'.trans (b4.mono B3'.size))⟩
theorem noise_walk (A : Option Addr) (n c : Nat) (s : List Frm) (a : Int) (N : Option Addr) (nn cn : Nat) (w : World) (hr : FrmRd w w.heap.size A n s) (hN : RdN w w.heap.size N nn) (hn : n ≤ 4398046511104) (hnn : nn ≤ 17592186043904) (hT : Tab16 w) :
    Calls Tryd.prog 7 #[.slice A n c, .int .i64 a, .slice N nn cn] w fun e w' => e = .returned (.bool true) ∧ Below w.heap.size w w' := by
  have MC := Lib.hid (rmap_any a w)
  cases hm : mapB a
  · rw [hm] at MC
    have KC := Lib.hid (known_any w hT)
    clear hr hN
    go_enter Tryd.func7, Tryd.ntmps7
    go_wp2_with (first
      | (go_at_call 35; refine MC.out.mono ?_; rintro e w' ⟨rfl, rfl⟩)
      | (go_at_call 21; refine KC.out.mono ?_; rintro e w' ⟨rfl, hb⟩))
    go_ret
    exact ⟨rfl, hb⟩
  · rw [hm] at MC
    have hab : 0 ≤ a ∧ a < 4294967296 := by unfold mapB at hm; simp at hm; omega
    obtain ⟨h0, h1⟩ := hab
    have NC : Hid (Calls Tryd.prog 25 #[.int .i64 16384, .int .i64 a, .bool true, .bool true] w fun e W1 => ∃ b1, e = .returned (.pointer (some ⟨b1, 0, none⟩)) ∧
        Hid (Calls Tryd.prog 25 #[.int .i64 16384, .int .i64 a, .bool true, .bool true] W1 fun e W2 => ∃ b2, e = .returned (.pointer (some ⟨b2, 0, none⟩)) ∧ Hid (NzJ w W2 b1 b2 a))) := by
      have hnb : newB 16384 a = true := by unfold newB; rw [hm]; rfl
      refine (new_yes 16384 a true true w hnb).mono ?_
      rintro e W1 ⟨b1, M, rfl, hb1, hM, _, ln1, be1⟩
      obtain rfl : M = 16390 := by omega
      refine ⟨b1, rfl, Lib.hid ?_⟩
      refine (new_yes 16384 a true true W1 hnb).mono ?_
      rintro e W2 ⟨b2, M, rfl, hb2, hM, _, ln2, be2⟩
      obtain rfl : M = 16390 := by omega
      have := Blk.lt ln1.blk
      have s1 := be1.size
      exact ⟨b2, rfl, Lib.hid ⟨ln1.later be2, ln2, be1.trans (be2.mono s1), hb1, by omega, Blk.lt ln2.blk⟩⟩
    have HR := Lib.hid hr
    have HN := Lib.hid hN
    have HT := Lib.hid hT
    have hl := hr.1
    have HL := Lib.hid hl
    clear hr hN hT hl hm
    go_enter Tryd.func7, Tryd.ntmps7
    go_wp2_with (first
      | (go_at_call 35; refine MC.out.mono ?_; rintro e w' ⟨rfl, rfl⟩)
      | (go_at_call 25; (with_reducible refine NC.out.mono ?_); rintro e W1 ⟨b1, rfl, NC2⟩)
      | (go_at_call 25; (with_reducible refine NC2.out.mono ?_); rintro e W2 ⟨b2, rfl, HJ⟩))
    go_loopw [9, 10] (fun u i wr => ∃ (k : Nat) (x : List UInt8), i = .int .i64 k ∧ k ≤ n ∧ k ≤ 20 ∧ Hid (Own wr W2.heap.size u x ∧ x.length ≤ 40000 * k) ∧ Hid (Below W2.heap.size W2 wr)) (fun _ i _ => 20 - (intOf i).toNat)
    case atStart => exact ⟨0, [], rfl, Nat.zero_le _, Nat.zero_le _, ⟨Own.nil _ _, by simp⟩, Below.refl _ _⟩
    case round =>
      obtain ⟨k, x, rfl, hk, hk20, HO, HB⟩ := hrel
      obtain ⟨T, hTT⟩ : ∃ T : Bool, decide (k < n ∧ k < 20) = T := ⟨_, rfl⟩
      go_upto_region 9 with (fail)
      go_cut [37] from 30 to 52 (fun z W => z = .bool T ∧ wr = W)
      case first =>
        by_cases q1 : k < n
        · by_cases q2 : k < 20
          · have HH : Hid (T = true) := by show _ = _; rw [← hTT]; simp [q1, q2]
            have q3 : (k : Int) < 20 := by omega
            clear hTT
            go_wp2
            go_meet
            case rel => exact ⟨by rw [HH.out], rfl⟩
          · have HH : Hid (T = false) := by show _ = _; rw [← hTT]; simp [q2]
            have q3 : (20 : Int) ≤ k := by omega
            clear hTT
            go_wp2
            go_meet
            case rel => exact ⟨by rw [HH.out, decide_eq_false (by omega)], rfl⟩
        · have HH : Hid (T = false) := by show _ = _; rw [← hTT]; simp [q1]
          have q3 : (n : Int) ≤ (k : Int) := by omega
          have q4 : decide (k < n) = false := by simpa using q1
          clear hTT
          go_wp2
          go_meet
          case rel => exact ⟨by rw [HH.out], rfl⟩
      case rest =>
        obtain ⟨rfl, rfl⟩ := hcut
        cases T
        · obtain ⟨A1, n1, c1, rfl⟩ := HO.out.1.asSlice
          obtain ⟨f1, f2, f3⟩ := HO.out.1.lenF
          have F1 := Lib.hid f1
          have hx20 : x.length ≤ 800000 := by have := HO.out.2; omega
          have hn1 : n1 ≤ 800000 := by omega
          have HX := Lib.hid hx20
          have HU := HJ.out.hi
          have HV := HB.out.size
          have BW : Below w.heap.size w wr := HJ.out.bel.trans (HB.out.mono HJ.out.bel.size)
          have HBW := Lib.hid BW
          clear f1 f2 f3 hTT hx20 BW
          obtain ⟨W5, hW5⟩ : ∃ W5, W5 = wr := ⟨_, rfl⟩
          subst hW5
          go_wp2
          go_loopw [13, 14] (fun v i wr => ∃ (k2 : Nat) (m : List UInt8), i = .int .i64 k2 ∧ k2 ≤ n1 ∧ Hid (Own wr W5.heap.size v m ∧ m.length ≤ 2 * k2 ∧ NzL a 16390 m (x.take k2)) ∧ Hid (Below W5.heap.size W5 wr)) (fun _ i _ => n1 - (intOf i).toNat)
          case atStart => exact ⟨0, [], rfl, Nat.zero_le _, ⟨Own.nil _ _, by simp, by rw [List.take_zero]; exact ⟨rfl, rfl⟩⟩, Below.refl _ _⟩
          case round =>
            obtain ⟨k2, m, rfl, hk2, HO2, HB2⟩ := hrel
            by_cases hlt2 : k2 < n1
            · obtain ⟨b, o, rfl, hbb, hcell⟩ := HO.out.1.rdAllF.2 (by omega)
              obtain ⟨cc, hcc⟩ : ∃ cc, cc = x.getD k2 0 := ⟨_, rfl⟩
              obtain ⟨z, hz⟩ : ∃ z : Int, z = (cc.toNat : Int) := ⟨_, rfl⟩
              have HC : Hid (∀ V, Below W5.heap.size W5 V → V.cell? ⟨b, o + k2, none⟩ = some (.int .u8 z)) := by
                show ∀ V, _
                intro V hV
                refine (hV.cell hbb).trans ?_
                rw [hz, hcc]
                exact hcell k2 hlt2
              have HZ := Lib.hid hz
              have HCC := Lib.hid hcc
              have HV2 := HB2.out.size
              have HM := Lib.hid HO2.out.2.1
              clear hcell hcc hz hbb
              go_upto_if 62 with (fail)
              go_cut [13, 15] from 53 to 89 (fun v j W => Hid (∃ m', Own W W5.heap.size v m' ∧ m'.length ≤ 2 * k2 + 1 ∧ NzL a 16390 m' (x.take k2)) ∧ Hid (Below W5.heap.size W5 W))
              case first =>
                by_cases q : k2 < nn
                · obtain ⟨b3, o3, rfl, hb3, hcN⟩ := HN.out (by omega)
                  obtain ⟨y, hy, y0, y1⟩ := hcN k2 q
                  have hy' : wr.cell? ⟨b3, o3 + k2, none⟩ = some (.int .i64 y) := by
                    refine (HB2.out.cell (p := ⟨b3, o3 + k2, none⟩) ?_).trans ((HBW.out.cell (p := ⟨b3, o3 + k2, none⟩) hb3).trans hy)
                    have := HBW.out.size
                    show b3 < _
                    omega
                  have CC : Hid (Calls Tryd.prog 32 #[.int .i64 y, .int .i64 40] wr fun e w' => (∃ j : Nat, e = .returned (.int .i64 (j : Int)) ∧ j < 40) ∧ wr = w') := hdcount_any y 40 wr ⟨y0, y1⟩ (by decide) (by decide)
                  clear hcN hy y0 y1
                  go_upto_region 19 with (go_at_call 32; refine CC.out.mono ?_; rintro e w' ⟨⟨j, rfl, hj⟩, rfl⟩)
                  by_cases q2 : j < 32
                  · have d2 : (j : Int) < 32 := by omega
                    have d4 := nmd_bit a j h0 h1
                    rcases hnm : nmd a j with _ | _
                    · rw [hnm] at d4
                      clear hnm
                      go_wp2
                      go_meet
                      case rel => exact ⟨⟨m, HO2.out.1, by have := HM.out; omega, HO2.out.2.2⟩, HB2.out⟩
                    · rw [hnm] at d4
                      have hkd := kd_noise q2 hnm
                      obtain ⟨v3, w3, r3, o3', g3, b3'⟩ := append_run (HO2.out.1.alloc (.cells #[.int .u8 (j : Int)] 5)) 1 (rd_one wr (UInt8.ofNat j) (j : Int) (by rw [show (UInt8.ofNat j).toNat = j by simp; omega])) (by simp) (by have := HM.out; omega) (by simp; omega)
                      have B3 : Hid (Below W5.heap.size W5 w3) := (HB2.out.alloc HV2 _).grown g3 (by simp; omega) (fun g e => (HO2.out.1.block g e).1)
                      have R3 := Lib.hid r3
                      have O3 : Hid (∃ m', Own w3 W5.heap.size v3 m' ∧ m'.length ≤ 2 * k2 + 1 ∧ NzL a 16390 m' (x.take k2)) := ⟨_, o3', by rw [List.length_append, List.length_singleton]; have := HM.out; omega, HO2.out.2.2.noise _ hkd⟩
                      clear r3 o3' g3 b3' hnm hkd
                      go_wp2_with (at_builtin; refine wpList_app rfl (.tmp 78) (.tmp 81) rfl _ _ rfl rfl _ _ R3.out ?_)
                      go_meet
                      case rel => exact ⟨O3.out, B3.out⟩
                  · have d2 : (32 : Int) ≤ (j : Int) := by omega
                    go_wp2
                    go_meet
                    case rel => exact ⟨⟨m, HO2.out.1, by have := HM.out; omega, HO2.out.2.2⟩, HB2.out⟩
                · have q3 : (nn : Int) ≤ (k2 : Int) := by omega
                  have q4 : decide (k2 < nn) = false := by simpa using q
                  go_wp2
                  go_meet
                  case rel => exact ⟨⟨m, HO2.out.1, by have := HM.out; omega, HO2.out.2.2⟩, HB2.out⟩
              case rest =>
                obtain ⟨⟨m', ho', hm', hz'⟩, hb'⟩ := hcut
                rename World => Wc
                have ck := HC.out Wc hb'.out
                have hs' := hb'.out.size
                obtain ⟨v3, w3, r3, o3, g3, b3⟩ := append_run (ho'.alloc (.cells #[.int .u8 z] 5)) 1 (rd_one Wc cc z HZ.out) (by simp) (by omega) (by simp; omega)
                have B3 : Hid (Below W5.heap.size W5 w3) := (hb'.out.alloc hs' _).grown g3 (by simp; omega) (fun g e => (ho'.block g e).1)
                have R3 := Lib.hid r3
                have hkx : k2 < x.length := by have := F1.out; omega
                have O3 : Hid (Own w3 W5.heap.size v3 (m' ++ [cc]) ∧ (m' ++ [cc]).length ≤ 2 * (k2 + 1) ∧ NzL a 16390 (m' ++ [cc]) (x.take (k2 + 1))) := ⟨o3, by rw [List.length_append, List.length_singleton]; omega, by rw [hd_take_next x k2 hkx, ← HCC.out]; exact hz'.byte cc⟩
                clear r3 o3 g3 b3 ho' hm' hz' hb' hkx HC
                go_wp2_with (at_builtin; refine wpList_app rfl (.tmp 83) (.tmp 88) rfl _ _ rfl rfl _ _ R3.out ?_)
                go_roundw
                case rel => exact ⟨k2 + 1, _, by go_num, by omega, O3, B3⟩
                case measure => simp [intOf]; omega
            · obtain rfl : k2 = n1 := by omega
              have hzz : NzL a 16390 m x := by
                have := HO2.out.2.2
                rwa [List.take_of_length_le (by have := F1.out; omega)] at this
              have FC : Hid (NzC w wr b1 b2 (.slice A1 k2 c1) u13) := nz_c w wr b1 b2 W2.heap.size W5.heap.size a (.slice A1 k2 c1) u13 x m (HJ.out.later (HB.out.trans (HB2.out.mono HV))) (HO.out.1.later HB2.out) HO2.out.1 HU (by omega) (by have := HX.out; omega) (by have := HX.out; have := HO2.out.2.1; omega) hzz HT.out
              unfold NzC at FC
              clear hzz
              go_wp2_with (first
                | (go_at_call 28; (with_reducible refine FC.out.mono ?_); rintro e V1 ⟨y1, rfl, FC2⟩)
                | (go_at_call 28; (with_reducible refine FC2.out.mono ?_); rintro e V2 ⟨y2, rfl, SC⟩)
                | (go_at_call 24; (with_reducible refine SC.out.mono ?_); rintro e V3 ⟨rfl, KC⟩)
                | (go_at_call 21; (with_reducible refine KC.out.mono ?_); rintro e V4 ⟨rfl, HE⟩))
              go_ret
              exact ⟨rfl, HE.out⟩
        · have hlt : k < n ∧ k < 20 := by simpa using hTT
          obtain ⟨q1, q2⟩ := hlt
          obtain ⟨b, off, rfl, hb, hc⟩ := HR.out.2 (by omega)
          obtain ⟨d1, E, kk, cc, d2, hRd, hE, hkc, hkb⟩ := hc k (by have := HL.out; omega)
          obtain ⟨y, hy⟩ : ∃ y, s[k]'(by have := HL.out; omega) = y := ⟨_, rfl⟩
          rw [hy] at d1 hRd
          obtain ⟨P, l⟩ := y
          have BW : Below w.heap.size w wr := HJ.out.bel.trans (HB.out.mono HJ.out.bel.size)
          replace d1 : wr.cell? ⟨b, off + k * 2, none⟩ = some (.int .i64 P) := (BW.cell (p := ⟨b, off + k * 2, none⟩) hb).trans d1
          replace d2 : wr.cell? ⟨b, off + k * 2 + 1, none⟩ = some (.slice E kk cc) := (BW.cell (p := ⟨b, off + k * 2 + 1, none⟩) hb).trans d2
          have EC : Hid (Calls Tryd.prog 11 #[.agg #[.int .i64 P, .slice E kk cc], .agg #[.int .i64 a, .bool false, .bool false]] wr fun e w2 => ∃ A2 n2 c2, e = .returned (.tuple #[.slice A2 n2 c2, .int .i64 (bodyE P kk a)]) ∧ ∃ v3 w3 x3, Hid ((Builtin.append_ #[22, 22] 22 #[u9, .slice A2 n2 c2]).run Tryd.prog w2 = .ok v3 w3) ∧ Hid (Own w3 W2.heap.size v3 x3 ∧ x3.length ≤ 40000 * (k + 1)) ∧ Hid (Below W2.heap.size W2 w3)) := by
            refine (encode_un P E kk cc w.heap.size l a false false wr (hRd.below BW) BW.size hE hkc (HT.out.kept BW)).mono ?_
            rintro e w2 ⟨A2, n2, c2, rfl, o2, b2⟩
            obtain ⟨f1, f2, f3⟩ := o2.lenF
            have ho := HO.out.1.later b2
            have s2 := HB.out.size
            have s3 := b2.size
            have hx := HO.out.2
            have he := encX_len P kk a false false l hRd.1
            obtain ⟨v3, w3, r3, o3, g3, _⟩ := append_run ho c2 o2.rdAllF f2 (by omega) (by omega)
            have b23 : Below W2.heap.size W2 w3 := (HB.out.trans (b2.mono s2)).grown g3 (by omega) (fun k hk => (ho.block k hk).1)
            exact ⟨A2, n2, c2, rfl, v3, w3, _, Lib.hid r3, Lib.hid ⟨o3, by rw [List.length_append]; omega⟩, Lib.hid b23⟩
          clear hc hy hRd hTT
          go_wp2_with (first
            | (go_at_call 11; (with_reducible refine EC.out.mono ?_); rintro e w2 ⟨A2, n2, c2, rfl, v3, w3, x3, R3, O3, B3⟩)
            | (at_builtin; refine wpList_app rfl (.tmp 50) (.tmp 51) rfl _ _ rfl rfl _ _ R3.out ?_))
          go_roundw
          case rel => exact ⟨k + 1, x3, by go_num, by omega, by omega, O3, B3⟩
          case measure => simp [intOf]; omega
end Go.Proofs.YtmdlpbgelgeiaaaDoor
