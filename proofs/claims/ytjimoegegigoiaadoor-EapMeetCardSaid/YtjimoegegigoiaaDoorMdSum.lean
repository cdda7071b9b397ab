/-
  md5.Sum: the digest.
-/
import Derived.Test.YtjimoegegigoiaaDoorMdEnd
import Derived.Stop.RegionWithIn
namespace Go.Proofs.YtjimoegegigoiaaDoor
open Go.RowKit Go.Shelf
set_option maxRecDepth 100000
set_option maxHeartbeats 2000000
set_option linter.unusedSimpArgs false
set_option linter.unusedVariables false
attribute [local go_sem] Oper.semAt_some encX agg16

/-- a post that bears no panic -/
def NoP (Q : Exit → Act → World → Prop) : Exit → Act → World → Prop
  | .panic _, _, _ => False
  | .normal, a, w => Q .normal a w
  | .ret, a, w => Q .ret a w
  | .exit id, a, w => Q (.exit id) a w
  | .goto t, a, w => Q (.goto t) a w
  | .outgrown, a, w => Q .outgrown a w
theorem wpIn_nop {F : Fence} {n : Nat} {P : Program} {c : Code} {Q : Exit → Act → World → Prop} {a : Act} {w : World} (h : c.wpIn F n P (NoP Q) a w) : c.wpIn F n P Q a w :=
  wpIn_mono h fun e a w h => by
    cases e with
    | panic _ => exact h.elim
    | _ => exact h
theorem nop_normal {Q : Exit → Act → World → Prop} {a : Act} {w : World} (h : Q .normal a w) : NoP Q .normal a w := h
theorem begin_ok : mdBegin.ok := by unfold mdBegin W4.ok; dsimp only; omega
theorem sum_in (A : Option Addr) (nn c B : Nat) (l : List UInt8) (w : World) (hr : Rd w B A nn l) (hB : B ≤ w.heap.size) (hc : nn ≤ c) (hnil : A = none → c = 0) (hm : nn ≤ 140737488351240) (hK : TabK w) (hS : TabS w) :
    CallsIn Fence.wide 12 Tryd.prog 53 #[.slice A nn c] w fun e w' => e = .returned (.agg (partB (mdOver (mdPad l) ((mdPad l).length / 64)) 16).toArray) ∧ Below w.heap.size w w' := by
  have hl := hr.1
  obtain ⟨V, hV⟩ : ∃ V, V = mdOver (mdPad l) ((mdPad l).length / 64) := ⟨_, rfl⟩
  have HVV := Lib.hid hV
  rw [← hV]
  clear hV
  obtain ⟨k, hk⟩ : ∃ k, k = nn / 64 := ⟨_, rfl⟩
  obtain ⟨q, hq⟩ : ∃ q, q = 64 * k := ⟨_, rfl⟩
  obtain ⟨A2, c2, hs2, hr2, hnl2, hc2⟩ := slice_from A nn c B q l w hr hc hnil (by omega)
  have HQ := Lib.hid hq
  have HS2 := Lib.hid hs2
  have HR := Lib.hid hr
  have HR2 := Lib.hid hr2
  have HL := Lib.hid hl
  have HKn := Lib.hid hk
  have KK := Lib.hid hK
  have SS := Lib.hid hS
  have iq0 : (0 : Int) ≤ (q : Int) := by omega
  have iq1 : (q : Int) ≤ (nn : Int) := by omega
  clear hs2 hr hr2 hl hk hK hS hq
  refine callsIn_of_wp_marks Tryd.func53 rfl trivial ?_ rfl
  simp only [Tryd.ntmps53, List.size_toArray, List.length_cons, List.length_nil, Nat.reduceAdd, Nat.reduceSub, Array.replicate_succ, Array.replicate_zero, List.push_toArray, List.append_toArray, List.nil_append, List.cons_append]
  gi_wp2_with (first
    | (refine ⟨trivial, ?_⟩; gi_at_call 74; refine (callsIn_wide.2 (begin_any _)).mono ?_; rintro e w1 ⟨rfl, hb1⟩; obtain ⟨W3, hst, hbk, hgw⟩ := store_all2 (blk_new w1 136 [.int .u32 0, .int .u32 0, .int .u32 0, .int .u32 0]) (show (cells4 mdBegin).length = _ by simp [cells4]) (cells4_one2 mdBegin))
    | (refine ⟨trivial, ?_⟩; gi_at_call 75; refine (blocks_in Fence.wide _ trivial rfl _ _ _ _).mono ?_; rintro e w' ⟨rfl, rfl⟩))
  have hs1 := hb1.size
  have hs3 := hgw.size
  rw [World.size_alloc] at hs1
  rw [World.size_alloc] at hs3
  have hb1' : Below (w.heap.size + 1) (w.alloc (.cells (zeros 16).toArray 55)) w1 := by rw [World.size_alloc] at hb1; exact hb1
  have hz3 : Blk W3 w.heap.size 55 (zeros 16) := (hgw.block w.heap.size (by rw [World.size_alloc]; omega) (by intro e; injection e with e; omega)).trans ((Below.heap_alloc _ _ _ (by omega)).trans ((hb1'.block _ (by omega)).trans (blk_new w 55 (zeros 16))))
  have hB3 : Below w.heap.size w W3 := ((((Below.refl _ w).alloc (Nat.le_refl _) _).trans (hb1'.mono (by omega))).alloc (by omega) _).grown hgw (by rw [World.size_alloc]; omega) (fun k e => by cases e; omega)
  obtain ⟨b3, hb3⟩ : ∃ b, b = w1.heap.size := ⟨_, rfl⟩
  rw [← hb3] at hbk hs1 hs3
  rw [← hb3]
  obtain ⟨W0, hW0⟩ : ∃ W0, W0 = W3.alloc (.cells #[.slice A nn c] 22) := ⟨_, rfl⟩
  have hW0s : W0.heap.size = W3.heap.size + 1 := by rw [hW0, World.size_alloc]
  have hBx : W0.cell? ⟨W3.heap.size, 0, none⟩ = some (.slice A nn c) := by rw [hW0]; exact (blk_new W3 22 [.slice A nn c]).cell 0
  have hB0 : Below w.heap.size w W0 := by rw [hW0]; exact hB3.alloc (by omega) _
  have hz0 : Blk W0 w.heap.size 55 (zeros 16) := by rw [hW0]; exact (Below.heap_alloc _ _ _ (by omega)).trans hz3
  have hu0 : Blk W0 b3 136 (cells4 mdBegin) := by rw [hW0]; exact (Below.heap_alloc _ _ _ (by omega)).trans hbk
  have hrd0 : Rd W0 B A nn l := HR.out.later hB hB0
  rw [← hW0]
  obtain ⟨gb, hgb, hA⟩ : ∃ gb, gb < w.heap.size + 1 ∧ (64 ≤ nn → ∀ b o s, A = some ⟨b, o, s⟩ → b = gb ∧ b < w.heap.size) := by
    by_cases h64 : 64 ≤ nn
    · obtain ⟨b, off, e, hb, _⟩ := HR.out.2 (by omega)
      refine ⟨b, by omega, fun _ b' o' s' e' => ?_⟩
      rw [e] at e'
      cases e'
      exact ⟨rfl, by omega⟩
    · exact ⟨0, by omega, fun h => absurd h h64⟩
  have hgx : 64 ≤ nn → gb < w.heap.size := by
    intro h64
    obtain ⟨b, off, e, hb, _⟩ := HR.out.2 (by omega)
    obtain ⟨e1, e2⟩ := hA h64 b off none e
    omega
  obtain ⟨gq, hgq, hgA⟩ : ∃ gq, gq < W0.heap.size ∧ (64 ≤ nn → gq = gb) ∧ gq ≠ b3 := by
    by_cases h64 : 64 ≤ nn
    · have := hgx h64
      exact ⟨gb, by omega, fun _ => rfl, by omega⟩
    · exact ⟨w.heap.size, by omega, fun h => absurd h h64, by omega⟩
  have HW0 := Lib.hid hW0
  clear hW0 hb3 hst hgw hb1 hb1' hz3 hB3 hbk
  refine wpIn_rangeFunc_ownH rfl (by omega) (gf := 101) (lb := #[.pointer (some ⟨W3.heap.size, 0, none⟩)]) rfl trivial (enters_of Tryd.func101 (by kernel_rfl) rfl)
    (blocks_stops 11 (by omega) W3.heap.size B gq nn c A l W0 (by omega) (by omega) hBx hrd0 hc (by omega) hnil (fun h b o s e => by rw [hgA.1 h]; exact (hA h b o s e).1)) KeepB.trans (keepB_b (by omega)) (Below.refl _ _) (fun _ => rfl)
    (fun pre W => (Blk W b3 136 (cells4 (wordsX mdBegin pre)) ∧ Blk W w.heap.size 55 (zeros 16)) ∧ Below w.heap.size W0 W)
    (fun _ _ _ => False)
    (OwnFrom.and (OwnFrom.and (Own.from (blk_own _ _ _) _) (Own.from (blk_own _ _ _) _)) (ownFrom_below (by omega) (by omega)))
    (fun _ _ _ _ _ hs _ _ => hs)
    ⟨⟨hu0, hz0⟩, Below.refl _ _⟩
    (fun x a' W => ∃ Bx, b3 < Bx ∧ Blk W Bx 141 (cells16 x.1) ∧ a' = { tmps := #[.slice A nn c, undef, .pointer (some ⟨w.heap.size, 0, none⟩), .pointer (some ⟨b3, 0, none⟩), .pointer (some ⟨Bx, 0, none⟩), .agg (cells4 mdBegin).toArray, .slice A nn c, .func (.func 101) #[] #[.pointer (some ⟨W3.heap.size, 0, none⟩)], agg16 x.1, undef, undef, undef, undef, undef, undef, undef, undef, undef, undef, undef, undef], defers := [] })
    (fun x a' _ X Y row hs hg hr => by obtain ⟨Bx, h1, h2, h3⟩ := hs; exact ⟨Bx, h1, blk_own Bx _ (fun (_ : Unit) => cells16 x.1) () X Y row h2 hg (fun r e => (hr r e).2), h3⟩)
    ?assign ?body ?done ?stop
  case assign =>
    rintro lp pre x W K ⟨⟨hu1, hz1⟩, hB1⟩ hK
    have hsz1 := hB1.size
    gi_wp2
    exact hK _ _ ((KeepsOthers.alloc _ _).from _) (KeepB.below ((Below.refl W.heap.size W).alloc (Nat.le_refl _) _) (by omega))
      ⟨⟨(Below.heap_alloc _ _ _ (by omega)).trans hu1, (Below.heap_alloc _ _ _ (by omega)).trans hz1⟩, hB1.alloc (by omega) _⟩ ⟨W.heap.size, by omega, blk_new W 141 (cells16 x.1), rfl⟩
  case body =>
    rintro lp pre x a' W hlp ⟨rr, hrr⟩ ⟨⟨hu1, hz1⟩, hB1⟩ ⟨Bx, hBx2, hX, rfl⟩ hlt
    have hsz1 := hB1.size
    have hBw : Below w.heap.size w W := hB0.trans hB1
    have x0 : W.cell? ⟨Bx, 0, none⟩ = some (.int .u32 (x.1 0)) := hX.cell 0
    have x1 : W.cell? ⟨Bx, 1, none⟩ = some (.int .u32 (x.1 1)) := hX.cell 1
    have x2 : W.cell? ⟨Bx, 2, none⟩ = some (.int .u32 (x.1 2)) := hX.cell 2
    have x3 : W.cell? ⟨Bx, 3, none⟩ = some (.int .u32 (x.1 3)) := hX.cell 3
    have x4 : W.cell? ⟨Bx, 4, none⟩ = some (.int .u32 (x.1 4)) := hX.cell 4
    have x5 : W.cell? ⟨Bx, 5, none⟩ = some (.int .u32 (x.1 5)) := hX.cell 5
    have x6 : W.cell? ⟨Bx, 6, none⟩ = some (.int .u32 (x.1 6)) := hX.cell 6
    have x7 : W.cell? ⟨Bx, 7, none⟩ = some (.int .u32 (x.1 7)) := hX.cell 7
    have x8 : W.cell? ⟨Bx, 8, none⟩ = some (.int .u32 (x.1 8)) := hX.cell 8
    have x9 : W.cell? ⟨Bx, 9, none⟩ = some (.int .u32 (x.1 9)) := hX.cell 9
    have x10 : W.cell? ⟨Bx, 10, none⟩ = some (.int .u32 (x.1 10)) := hX.cell 10
    have x11 : W.cell? ⟨Bx, 11, none⟩ = some (.int .u32 (x.1 11)) := hX.cell 11
    have x12 : W.cell? ⟨Bx, 12, none⟩ = some (.int .u32 (x.1 12)) := hX.cell 12
    have x13 : W.cell? ⟨Bx, 13, none⟩ = some (.int .u32 (x.1 13)) := hX.cell 13
    have x14 : W.cell? ⟨Bx, 14, none⟩ = some (.int .u32 (x.1 14)) := hX.cell 14
    have x15 : W.cell? ⟨Bx, 15, none⟩ = some (.int .u32 (x.1 15)) := hX.cell 15
    have TA := Lib.hid (turn_any b3 (wordsX mdBegin pre) x.1 W (wordsX_ok begin_ok _) x.2 hu1 (KK.out.kept hBw) (SS.out.kept hBw))
    have HU1 := Lib.hid hu1
    have HZ1 := Lib.hid hz1
    have HB1 := Lib.hid hB1
    clear hu1 hz1 hX hBw hB1
    gi_wp2_with (refine ⟨trivial, ?_⟩; gi_at_call 76; refine (CallsIn.inRound lp (callsIn_wide.2 TA.out)).mono ?_; rintro e w' ⟨rfl, hb', hg'⟩)
    exact ⟨KeepsFrom.of_grownBy hg' (fun j e => by cases e; omega), KeepB.grown hg' (by omega) (by intro e; injection e with e; omega),
      ⟨by rw [wordsX_snoc]; exact hb', (hg'.block w.heap.size (by omega) (by intro e; injection e with e; omega)).trans HZ1.out⟩, HB1.out.grown hg' (by omega) (fun k e => by cases e; omega)⟩
  case done =>
    rintro D ys W hD rfl ⟨⟨hu1, hz1⟩, hB1⟩ hK
    have hsz1 := hB1.size
    rw [wordsX_upto, ← mdOver_from] at hu1
    obtain ⟨V0, hV0⟩ : ∃ V0, V0 = mdOver l (nn / 64) := ⟨_, rfl⟩
    rw [← hV0] at hu1
    have hV0ok : V0.ok := by rw [hV0]; exact mdOver_ok _ _
    have c0 : W.cell? ⟨b3, 0, none⟩ = some (.int .u32 V0.a) := hu1.cell 0
    have c1 : W.cell? ⟨b3, 1, none⟩ = some (.int .u32 V0.b) := hu1.cell 1
    have c2' : W.cell? ⟨b3, 2, none⟩ = some (.int .u32 V0.c) := hu1.cell 2
    have c3 : W.cell? ⟨b3, 3, none⟩ = some (.int .u32 V0.d) := hu1.cell 3
    have hBw : Below w.heap.size w W := hB0.trans hB1
    have hBws := hBw.size
    have hBd : Below w.heap.size w W.drew := below_drewN hBw 1
    have EA := Lib.hid (callsIn_wide.1 (end_any V0 A2 (nn - q) c2 B nn (l.drop q) W.drew hV0ok (HR2.out.later hB hBd) (by show B ≤ W.heap.size; omega) hnl2 (by have := HKn.out; have := HQ.out; omega) (by omega) (KK.out.kept hBd) (SS.out.kept hBd)))
    have hVE : mdEnd V0 (l.drop q) nn = V := by
      have h := mdOver_end l
      rw [HL.out] at h
      rw [HVV.out, h, hV0, HQ.out, HKn.out]
    rw [hVE] at EA
    have iu : IntKind.u64.wrap (nn : Int) = (nn : Int) := by simp [IntKind.wrap, IntKind.bits, IntKind.signed]; omega
    have WA := Lib.hid (fun W => whole_any nn W (by omega))
    rw [show nn - nn % 64 = q by have := HKn.out; have := HQ.out; omega] at WA
    have HZ1 := Lib.hid hz1
    have HBW := Lib.hid hBw
    have HK := Lib.hid hK
    have HSS := HS2.out
    have HV0 := Lib.hid hV0
    clear hu1 hz1 hB1 hK hBw hBd hV0 hV0ok hVE
    gi_wp2
    refine wpIn_nop ?_
    gi_region_with (first
      | (refine ⟨trivial, ?_⟩; gi_at_call 78; refine (callsIn_wide.2 (WA.out _)).mono ?_; rintro e w' ⟨rfl, rfl⟩)
      | (refine ⟨trivial, ?_⟩; gi_at_call 77; refine (callsIn_wide.2 EA.out).mono ?_; rintro e w5 ⟨rfl, hb5⟩; obtain ⟨W6, hst, hbk, hgw⟩ := store_all2 (show Blk w5 w.heap.size 55 (zeros 16) from (hb5.block w.heap.size (Blk.lt HZ1.out)).trans HZ1.out) (show (partB V 16).length = _ by simp [partB, zeros]) (partB_one V 16)))
    all_goals (
      have hKD := HK.out
      have hDlt := (Array.getElem?_eq_some_iff.1 hKD).1
      have hb6 : Below W.heap.size W w5 := ⟨hb5.os, hb5.tape, hb5.output, hb5.size, hb5.block⟩
      have hsw := hb6.size
      have hs6 := hgw.size
      have hK2 : W6.heap[D]? = some (.deferred (some [])) := (hgw.block D (by omega) (by intro e; injection e with e; omega)).trans ((hb6.block D hDlt).trans hKD)
      have BF : Below w.heap.size w W6 := (HBW.out.trans (hb6.mono hBws)).grown hgw (by omega) (fun k e => by cases e; omega)
      have HBK := Lib.hid hbk
      have HK2 := Lib.hid hK2
      have HBF := Lib.hid BF
      clear hbk hK2 BF hgw hb6 hb5 hst hKD
      refine nop_normal ?_
      gi_wp2
      refine ⟨by simp, .inl ⟨_, _, rfl, run_takeDeferred HK2.out, ?_⟩⟩
      have hbk3 : Blk (W6.putObj D (.deferred none)) w.heap.size 55 (partB V 16) := (World.putObj_heap_other (by omega)).trans HBK.out
      exact ⟨_, results_cell_row rfl _ _ w.heap.size 55 _ (0, 0) _ rfl hbk3 Tryd.underlying55 rfl info16, rfl, HBF.out.trans (belowK_b (w := w) (Nat.le_refl _) _ D _ _ (by omega) HK2.out rfl rfl)⟩)
  case stop =>
    rintro D c pre W _ _ h _
    exact h.elim
end Go.Proofs.YtjimoegegigoiaaDoor
