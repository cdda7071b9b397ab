/-
  (*md5.Stream).take: the walk.
-/
import Derived.Test.YtnlhjlmjbmaipaaDoorMdTake
import Derived.Outline
namespace Go.Proofs.YtnlhjlmjbmaipaaDoor
open Go.RowKit Go.Shelf
set_option maxRecDepth 100000
set_option maxHeartbeats 4000000
set_option linter.unusedSimpArgs false
set_option linter.unusedVariables false
attribute [local go_sem] Oper.semAt_some encX agg16

theorem take_in (base g n nn c B : Nat) (vs : List W4) (rest : List UInt8) (v : Value) (A : Option Addr) (l : List UInt8) (w : World) (h : St w base g vs rest n v) (hb : base ≤ w.heap.size)
    (hr : Rd w B A nn l) (hB : B ≤ w.heap.size) (hc : nn ≤ c) (hnil : A = none → c = 0) (hm : 64 * vs.length + nn ≤ 140737488351240)
    (hA : ∀ k o, A = some ⟨k, o, none⟩ → 0 < nn → v.ownBlock ≠ some k ∧ (k = g → 1 ≤ o)) (hK : TabK w) (hS : TabS w) (hbg : base ≤ g) (hk0 : 0 < base) (hs0 : 1 < base) :
    CallsIn Fence.wide 12 Tryd.prog 19 #[.pointer (some ⟨g, 0, none⟩), .slice A nn c] w fun e w' => e = .returned (.tuple #[]) ∧ ∃ v', St w' base g (vs ++ stepsX (lastW vs) (uptoX l (nn / 64))) rest n v' ∧ Frm g v v' w w' := by
  have hgl := Blk.lt h.blk
  have hvb := h.ownB
  obtain ⟨L, hL⟩ : ∃ L, L = lastW vs := ⟨_, rfl⟩
  have hLok : L.ok := by rw [hL]; exact lastW_ok h.ok
  have hB1 : Below w.heap.size w (w.alloc (.cells #[.pointer (some ⟨g, 0, none⟩)] 23)) := (Below.refl _ _).alloc (Nat.le_refl _) _
  have h1 := h.later hB1
  have LA := Lib.hid (last_any base g n vs rest v _ h1 (by omega))
  rw [← hL] at LA
  have hbx1 := blk_new w 23 [.pointer (some ⟨g, 0, none⟩)]
  have HST := Lib.hid h
  have H1 := Lib.hid h1
  have HL := Lib.hid hL
  have HR := Lib.hid hr
  have KK := Lib.hid hK
  have SS := Lib.hid hS
  have HA := Lib.hid hA
  have HX1 := Lib.hid hbx1
  have HB1 := Lib.hid hB1
  have HVB := Lib.hid hvb
  clear h h1 hL hr hK hS hA hbx1 hB1 hvb
  refine callsIn_of_wp_marks Tryd.func19 rfl trivial ?_ rfl
  simp only [Tryd.ntmps19, List.size_toArray, List.length_cons, List.length_nil, Nat.reduceAdd, Nat.reduceSub, Array.replicate_succ, Array.replicate_zero, List.push_toArray, List.append_toArray, List.nil_append, List.cons_append]
  gi_wp2_with (first
    | (refine ⟨trivial, ?_⟩; gi_at_call 22; refine (callsIn_wide.2 LA.out).mono ?_; rintro e w1 ⟨rfl, hb1⟩; obtain ⟨W3, hst, hbk, hgw⟩ := store_all2 (blk_new w1 50 [.int .u32 0, .int .u32 0, .int .u32 0, .int .u32 0]) (show (cells4 L).length = _ by simp [cells4]) (cells4_one2 L))
    | (refine ⟨trivial, ?_⟩; gi_at_call 32; refine (blocks_in Fence.wide _ trivial rfl _ _ _ _).mono ?_; rintro e w' ⟨rfl, rfl⟩))
  have hs1 := hb1.size
  have hs3 := hgw.size
  rw [World.size_alloc] at hs1
  rw [World.size_alloc] at hs3
  have hb1' : Below (w.heap.size + 1) (w.alloc (.cells #[.pointer (some ⟨g, 0, none⟩)] 23)) w1 := by rw [World.size_alloc] at hb1; exact hb1
  have hx1 : Blk w1 w.heap.size 23 [.pointer (some ⟨g, 0, none⟩)] := (hb1'.block _ (by omega)).trans HX1.out
  have hB3 : Below w.heap.size w W3 := ((HB1.out.trans (hb1'.mono (by omega))).alloc (by omega) _).grown hgw (by rw [World.size_alloc]; omega) (fun k e => by cases e; omega)
  have hx3 : Blk W3 w.heap.size 23 [.pointer (some ⟨g, 0, none⟩)] := (hgw.block w.heap.size (by rw [World.size_alloc]; omega) (by intro e; injection e with e; omega)).trans ((Below.heap_alloc _ _ _ (by omega)).trans hx1)
  obtain ⟨b3, hb3⟩ : ∃ b, b = w1.heap.size := ⟨_, rfl⟩
  rw [← hb3] at hbk hs1 hs3
  rw [← hb3]
  obtain ⟨W0, hW0⟩ : ∃ W0, W0 = W3.alloc (.cells #[.slice A nn c] 25) := ⟨_, rfl⟩
  have hW0s : W0.heap.size = W3.heap.size + 1 := by rw [hW0, World.size_alloc]
  have hBx : W0.cell? ⟨W3.heap.size, 0, none⟩ = some (.slice A nn c) := by rw [hW0]; exact (blk_new W3 25 [.slice A nn c]).cell 0
  have hB0 : Below w.heap.size w W0 := by rw [hW0]; exact hB3.alloc (by omega) _
  have hu0 : Blk W0 b3 50 (cells4 L) := by rw [hW0]; exact (Below.heap_alloc _ _ _ (by omega)).trans hbk
  have hx0 : Blk W0 w.heap.size 23 [.pointer (some ⟨g, 0, none⟩)] := by rw [hW0]; exact (Below.heap_alloc _ _ _ (by omega)).trans hx3
  have hrd0 : Rd W0 B A nn l := HR.out.later hB hB0
  have hst0 : St W0 base g vs rest n v := HST.out.later hB0
  have hat := rd_at HR.out hB
  have hI0 : TakeI w W0 base g n b3 w.heap.size vs rest v [] W0 := ⟨v, by simpa [stepsX] using hst0, (Frm.refl g v w).later hB0, .inl rfl, Nat.le_refl _, by rw [← HL.out]; exact hu0, hx0⟩
  rw [← hW0]
  have HI0 := Lib.hid hI0
  have HW0 := Lib.hid hW0
  have HAT := Lib.hid hat
  have HB0 := Lib.hid hB0
  clear hW0 hb3 hst hgw hb1 hb1' hx1 hx3 hB3 hbk hI0 hst0 hat hu0 hx0 hB0
  refine wpIn_rangeFunc_ownH rfl (by omega) (gf := 40) (lb := #[.pointer (some ⟨W3.heap.size, 0, none⟩)]) rfl trivial (enters_of Tryd.func40 (by kernel_rfl) rfl)
    (blocks_stopsK 11 (by omega) W3.heap.size B nn c A l (KeepC A nn) W0 (by omega) (by omega) hBx hrd0 hc (by omega) hnil (fun h64 b o W1 W2 e hk => ⟨hk.1, hk.2 b o e⟩)) KeepC.trans (keepC_b (fun x o e h0 => by have := HAT.out x o e h0; omega)) (Below.refl _ _) (fun _ => rfl)
    (TakeI w W0 base g n b3 w.heap.size vs rest v)
    (fun _ _ _ => False)
    (takeI_own w W0 base g n b3 w.heap.size vs rest v (by omega))
    (fun _ _ _ _ _ hs _ _ => hs)
    HI0.out
    (fun x a' W => ∃ Bx, W0.heap.size ≤ Bx ∧ Blk W Bx 67 (cells16 x.1) ∧ a' = { tmps := #[.pointer (some ⟨g, 0, none⟩), .slice A nn c, .pointer (some ⟨w.heap.size, 0, none⟩), undef, .pointer (some ⟨b3, 0, none⟩), .pointer (some ⟨Bx, 0, none⟩), .pointer (some ⟨g, 0, none⟩), .agg (cells4 L).toArray, .slice A nn c, .func (.func 40) #[] #[.pointer (some ⟨W3.heap.size, 0, none⟩)], agg16 x.1, undef, undef, undef, undef, undef, undef, undef, undef, undef, undef, undef, undef], defers := [] })
    (fun x a' _ X Y row hs hg hr => by obtain ⟨Bx, h1, h2, h3⟩ := hs; exact ⟨Bx, h1, blk_own Bx _ (fun (_ : Unit) => cells16 x.1) () X Y row h2 hg (fun r e => (hr r e).2), h3⟩)
    ?assign ?body ?done ?stop
  case assign =>
    rintro lp pre x W K ⟨v', h1, h2, h5, h6, h3, h4⟩ hK
    gi_wp2
    refine hK _ _ ((KeepsOthers.alloc _ _).from _) (KeepC.of_block (by simp) fun k o e h0 => Below.heap_alloc _ _ _ (by have := HAT.out k o e h0; omega)) ?_ ⟨W.heap.size, by omega, blk_new W 67 (cells16 x.1), rfl⟩
    have hal : W.grownBy (W.alloc (.cells (cells16 x.1).toArray 67)) none := World.grownBy_alloc _ _ _
    exact takeI_own w W0 base g n b3 w.heap.size vs rest v (by omega) pre W _ none ⟨v', h1, h2, h5, h6, h3, h4⟩ hal (fun r e => by cases e)
  case body =>
    rintro lp pre x a' W hlp ⟨rr, hrr⟩ ⟨v1, h1, h2, h5, h6, h3, h4⟩ ⟨Bx, hBx2, hX, rfl⟩ hlt
    have hBb : Below base w W := h2.below hb hbg (fun k e => (HVB.out k e).1)
    obtain ⟨V, hV⟩ : ∃ V, V = mdBlock x.1 (wordsX (lastW vs) pre) := ⟨_, rfl⟩
    have TA := Lib.hid (turn_any b3 (wordsX (lastW vs) pre) x.1 W (wordsX_ok (by rw [← HL.out]; exact hLok) _) x.2 h3 (KK.out.keptB hBb hk0) (SS.out.keptB hBb hs0))
    rw [← hV] at TA
    have x0 : W.cell? ⟨Bx, 0, none⟩ = some (.int .u32 (x.1 0)) := hX.cell 0
    have x1 : W.cell? ⟨Bx, 1, none⟩ = some (.int .u32 (x.1 1)) := hX.cell 1
    have x2 : W.cell? ⟨Bx, 2, none⟩ = some (.int .u32 (x.1 2)) := hX.cell 2
    have x3 : W.cell? ⟨Bx, 3, none⟩ = some (.int .u32 (x.1 3)) := hX.cell 3
    have x4 : W.cell? ⟨Bx, 4, none⟩ = some (.int .u32 (x.1 4)) := hX.cell 4
    have x5 : W.cell? ⟨Bx, 5, none⟩ = some (.int .u32 (x.1 5)) := hX.cell 5
    have x6 : W.cell? ⟨Bx, 6, none⟩ = some (.int .u32 (x.1 6)) := hX.cell 6
    have x7 : W.cell? ⟨Bx, 7, none⟩ = some (.int .u32 (x.1 7)) := hX.cell 7
    have x8 : W.cell? ⟨Bx, 8, none⟩ = some (.int .u32 (x.1 8)) := hX.cell 8
    have x9 : W.cell? ⟨Bx, 9, none⟩ = some (.int .u32 (x.1 9)) := hX.cell 9
    have x10 : W.cell? ⟨Bx, 10, none⟩ = some (.int .u32 (x.1 10)) := hX.cell 10
    have x11 : W.cell? ⟨Bx, 11, none⟩ = some (.int .u32 (x.1 11)) := hX.cell 11
    have x12 : W.cell? ⟨Bx, 12, none⟩ = some (.int .u32 (x.1 12)) := hX.cell 12
    have x13 : W.cell? ⟨Bx, 13, none⟩ = some (.int .u32 (x.1 13)) := hX.cell 13
    have x14 : W.cell? ⟨Bx, 14, none⟩ = some (.int .u32 (x.1 14)) := hX.cell 14
    have x15 : W.cell? ⟨Bx, 15, none⟩ = some (.int .u32 (x.1 15)) := hX.cell 15
    have HI1 := Lib.hid h1
    have HI2 := Lib.hid h2
    have HI3 := Lib.hid h3
    have HI4 := Lib.hid h4
    have HI5 := Lib.hid h5
    have HV := Lib.hid hV
    clear h1 h2 h3 h4 h5 hX hBb hV
    gi_wp2_with (refine ⟨trivial, ?_⟩; gi_at_call 33; refine (CallsIn.inRound lp (callsIn_wide.2 TA.out)).mono ?_; rintro e w' ⟨rfl, hb', hg'⟩)
    clear x0 x1 x2 x3 x4 x5 x6 x7 x8 x9 x10 x11 x12 x13 x14 x15
    have hs' := hg'.size
    have hw0 := HB0.out.size
    have hlen : (vs ++ stepsX (lastW vs) pre).length = vs.length + pre.length := by rw [List.length_append, stepsX_length]
    have hgw : Blk w' g 44 (stCells v1 rest n) := (hg'.block g (by omega) (by intro e; injection e with e; omega)).trans HI1.out.blk
    have hxw : Blk w' w.heap.size 23 [.pointer (some ⟨g, 0, none⟩)] := (hg'.block _ (by omega) (by intro e; injection e with e; omega)).trans HI4.out
    have how : OwnW w' base v1 (vs ++ stepsX (lastW vs) pre) := HI1.out.own.grown hg' (.inr (by
      intro e
      rcases HI5.out with e' | ⟨k, e', hk⟩
      · have := (HVB.out b3 (e'.symm.trans e)).2
        omega
      · rw [e'] at e
        cases e
        omega))
    obtain ⟨v2, W2, hrun, ho2, hg2, hv2, A2, c2, hv2e⟩ := words_run (w := w'.drew) how V (by rw [hlen]; omega) (by show base ≤ w'.heap.size; omega)
    obtain ⟨N1, hN1⟩ : ∃ N1, N1 = (vs ++ stepsX (lastW vs) pre).length + 1 := ⟨_, rfl⟩
    rw [← hN1] at hv2e
    clear hN1
    obtain ⟨A1, n1, c1, hv1e⟩ : ∃ A1 n1 c1, v1 = .slice A1 n1 c1 := by
      rcases how.form with ⟨e, _⟩ | ⟨g', cap, e, _⟩
      · exact ⟨_, _, _, e⟩
      · exact ⟨_, _, _, e⟩
    have LEAF := Lib.hid (take_round (W1 := w') (W2 := W2) (v2 := v2) (A := A) (nn := nn) HI1.out HI2.out HI5.out h6 (by rw [← HV.out]; exact hb') HI4.out hg' (by rw [← HV.out]; exact ho2) (by rw [← HV.out]; exact ⟨hg2.os, hg2.tape, hg2.output, hg2.size, hg2.block⟩) hv2 hgl (by omega) (by omega) (by omega) (by omega) (Nat.le_refl _) (fun k e => (HVB.out k e).2) (fun k o e h0 => ⟨HAT.out k o e h0, HA.out k o e h0⟩))
    subst hv1e hv2e
    have kg : w'.cell? ⟨g, 0, none⟩ = some (.slice A1 n1 c1) := hgw.cell 0
    have kx : w'.cell? ⟨w.heap.size, 0, none⟩ = some (.pointer (some ⟨g, 0, none⟩)) := hxw.cell 0
    have k0 : w'.cell? ⟨b3, 0, none⟩ = some (.int .u32 V.a) := hb'.cell 0
    have k1 : w'.cell? ⟨b3, 1, none⟩ = some (.int .u32 V.b) := hb'.cell 1
    have k2 : w'.cell? ⟨b3, 2, none⟩ = some (.int .u32 V.c) := hb'.cell 2
    have k3 : w'.cell? ⟨b3, 3, none⟩ = some (.int .u32 V.d) := hb'.cell 3
    have hgd := hg2.block g (by simp; omega) (fun e => by have := HI1.out.ne; exact this e.symm)
    have gw2 : Blk W2 g 44 (stCells (.slice A1 n1 c1) rest n) := hgd.trans ((Below.heap_alloc _ _ _ (by show g < w'.heap.size; omega)).trans hgw)
    have kg2 : W2.cell? ⟨g, 0, none⟩ = some (.slice A1 n1 c1) := gw2.cell 0
    have kf2 : W2.frozen? ⟨g, 0, none⟩ = false := gw2.frozen 0
    have hne1 : w.heap.size ≠ g := by omega
    have xw2 : W2.cell? ⟨w.heap.size, 0, none⟩ = some (.pointer (some ⟨g, 0, none⟩)) := by
      have hbv : Value.ownBlock (.slice A1 n1 c1) ≠ some w.heap.size := by
        intro e
        rcases HI5.out with e' | ⟨k, e', hk⟩
        · have := (HVB.out _ (e'.symm.trans e)).2
          omega
        · rw [e'] at e
          cases e
          omega
      have h1 := hg2.block w.heap.size (by simp; omega) (fun e => hbv e.symm)
      have h2 : Blk W2 w.heap.size 23 [.pointer (some ⟨g, 0, none⟩)] := h1.trans ((Below.heap_alloc _ _ _ (by show w.heap.size < w'.heap.size; omega)).trans hxw)
      exact h2.cell 0
    have hsz : w.heap.size < w'.heap.size := by omega
    have hszg : g < w'.heap.size := by omega
    have hszb : b3 < w'.heap.size := by omega
    have HRUN := Lib.hid hrun
    clear hrun ho2 hg2 hgd gw2 how hxw hgw hb' hg' hlen hv2
    refine wpIn_region_flat (by kernel_rfl) (by rintro ⟨a, w, h⟩; exact h) ?flat ?any
    case flat =>
      repeat' (first
        | exact List.forall_mem_nil _
        | refine List.forall_mem_cons.2 ⟨?_, ?_⟩
        | exact flat_load _ _ _ rfl
        | exact flat_nilCheck _ _ rfl
        | exact flat_field _ _ _ _ rfl
        | exact flat_buildSlice _ _ _ _ rfl
        | exact flat_append _ _ _ rfl
        | exact flat_store _ _ _ _ rfl)
    case any =>
      repeat' (first
      | (with_reducible exact AllReady.nil)
      | (refine AllReady.cons (i := 7) rfl (fun K hK => ?_) ?_; refine step_appW rfl (.tmp 17) (.tmp 19) rfl _ _ rfl rfl _ _ HRUN.out ?_; refine hK _ _ ?_; clear hK K)
      | (refine AllReady.cons rfl (fun K hK => ?_) ?_; go_simp; refine hK _ _ ?_; clear hK K)
      | (refine wpAny_take (i := 2) (v := ?_) rfl (by decide +kernel) (by decide +kernel) (by decide +kernel) (fun _ _ _ h => h) (Or.inl ⟨by rfl, ?_⟩) ?_; rotate_left; focus (intro w; go_simp; first | done | with_reducible rfl))
      | (refine wpAny_take (i := 3) (v := ?_) rfl (by decide +kernel) (by decide +kernel) (by decide +kernel) (fun _ _ _ h => h) (Or.inl ⟨by rfl, ?_⟩) ?_; rotate_left; focus (intro w; go_simp; first | done | with_reducible rfl))
      | (refine wpAny_take (i := 8) (v := ?_) rfl (by decide +kernel) (by decide +kernel) (by decide +kernel) (fun _ _ _ h => h) (Or.inl ⟨by rfl, ?_⟩) ?_; rotate_left; focus (intro w; go_simp; first | done | with_reducible rfl))
      | (refine wpAny_take (i := 9) (v := ?_) rfl (by decide +kernel) (by decide +kernel) (by decide +kernel) (fun _ _ _ h => h) (Or.inl ⟨by rfl, ?_⟩) ?_; rotate_left; focus (intro w; go_simp; first | done | with_reducible rfl))
      | refine wpAny_ready (rs := [0,1,5]) (by decide +kernel) (by simp) ?_
      | refine wpAny_ready (rs := [0,1,6]) (by decide +kernel) (by simp) ?_
      | refine wpAny_ready (rs := [0,4,5]) (by decide +kernel) (by simp) ?_
      | refine wpAny_ready (rs := [0,4,6]) (by decide +kernel) (by simp) ?_
      | refine wpAny_ready (rs := [0,1]) (by decide +kernel) (by simp) ?_
      | refine wpAny_ready (rs := [0,4]) (by decide +kernel) (by simp) ?_
      | refine wpAny_ready (rs := [0,5]) (by decide +kernel) (by simp) ?_
      | refine wpAny_ready (rs := [0,6]) (by decide +kernel) (by simp) ?_
      | refine wpAny_ready (rs := [0,7]) (by decide +kernel) (by simp) ?_
      | refine wpAny_ready (rs := [1,5]) (by decide +kernel) (by simp) ?_
      | refine wpAny_ready (rs := [1,6]) (by decide +kernel) (by simp) ?_
      | refine wpAny_ready (rs := [4,5]) (by decide +kernel) (by simp) ?_
      | refine wpAny_ready (rs := [4,6]) (by decide +kernel) (by simp) ?_
      | refine wpAny_ready (rs := [0]) (by decide +kernel) (by simp) ?_
      | refine wpAny_ready (rs := [1]) (by decide +kernel) (by simp) ?_
      | refine wpAny_ready (rs := [4]) (by decide +kernel) (by simp) ?_
      | refine wpAny_ready (rs := [5]) (by decide +kernel) (by simp) ?_
      | refine wpAny_ready (rs := [6]) (by decide +kernel) (by simp) ?_
      | refine wpAny_ready (rs := [7]) (by decide +kernel) (by simp) ?_
      | refine wpAny_ready (rs := [10]) (by decide +kernel) (by simp) ?_
      | (refine wpAny_done (by decide +kernel) ?_ _; exact LEAF.out))
  case done =>
    rintro D ys W hD rfl ⟨v1, h1, h2, h5, h6, h3, h4⟩ hK
    have HK := Lib.hid hK
    have HI1 := Lib.hid h1
    have HI2 := Lib.hid h2
    clear h1 h2 h3 h4 h5 hK
    gi_wp2
    refine ⟨by simp, .inl ⟨_, _, rfl, run_takeDeferred HK.out, ?_⟩⟩
    have hg := grownBy_putObj' W D (.deferred none)
    have hw0 := HB0.out.size
    exact ⟨_, results_none rfl _ _ _, rfl, v1, HI1.out.rowKept hg (fun r e => by cases e; exact ⟨_, HK.out, rfl⟩), HI2.out.rowKept hg (fun r e => by cases e; omega)⟩
  case stop =>
    rintro D c pre W _ _ h _
    exact h.elim
end Go.Proofs.YtnlhjlmjbmaipaaDoor
