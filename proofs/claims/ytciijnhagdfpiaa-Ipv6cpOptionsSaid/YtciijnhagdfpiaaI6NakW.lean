/-
  ipv6cp.Nak: the walk.
-/
import Derived.Test.YtciijnhagdfpiaaI6Nak
namespace Go.Proofs.Ytciijnhagdfpiaa
open Go.RowKit Go.Shelf
set_option maxRecDepth 100000
set_option maxHeartbeats 4000000
set_option linter.unusedSimpArgs false
set_option linter.unusedVariables false
attribute [local go_sem] Oper.semAt_some

theorem nak6_any (id draw : Int) (A : Option Addr) (n c B : Nat) (s : List Opt) (w : World) (hr : OptRd w B A n s) (hB : B ≤ w.heap.size) (hn : n ≤ 4398046511104) (hd : In64 draw) :
    Calls Try.prog 20 #[.int .u64 id, .slice A n c, .int .u64 draw] w fun e w' => e = .returned (.tuple #[.int .u64 (nk6 id draw s).1, .bool (nk6 id draw s).2]) ∧ Below w.heap.size w w' := by
  obtain rfl := hr.1
  obtain ⟨o, hoa, hop⟩ := optf_of hr
  obtain ⟨W1, hW1⟩ : ∃ W1, W1 = (((w.alloc (.cells #[.int .u64 id] 22)).alloc (.cells #[.int .u64 draw] 22)).alloc (.cells #[.int .u64 0] 22)).alloc (.cells #[.bool false] 4) := ⟨_, rfl⟩
  have hs1 : W1.heap.size = w.heap.size + 4 := by rw [hW1]; simp
  have hB1 : Below w.heap.size w W1 := by rw [hW1]; exact ((((Below.refl _ _).alloc (Nat.le_refl _) _).alloc (by simp only [World.size_alloc]; omega) _).alloc (by simp only [World.size_alloc]; omega) _).alloc (by simp only [World.size_alloc]; omega) _
  have hb0 : Blk W1 w.heap.size 22 [.int .u64 id] := by
    rw [hW1]
    exact (Below.heap_alloc _ _ _ (by simp only [World.size_alloc]; omega)).trans ((Below.heap_alloc _ _ _ (by simp only [World.size_alloc]; omega)).trans ((Below.heap_alloc _ _ _ (by simp only [World.size_alloc]; omega)).trans (blk_new w 22 [.int .u64 id])))
  have hb1 : Blk W1 (w.heap.size + 1) 22 [.int .u64 draw] := by
    rw [hW1]
    have h := blk_new (w.alloc (.cells #[.int .u64 id] 22)) 22 [.int .u64 draw]
    rw [World.size_alloc] at h
    exact (Below.heap_alloc _ _ _ (by simp only [World.size_alloc]; omega)).trans ((Below.heap_alloc _ _ _ (by simp only [World.size_alloc]; omega)).trans h)
  have hb2 : Blk W1 (w.heap.size + 2) 22 [.int .u64 0] := by
    rw [hW1]
    have h := blk_new ((w.alloc (.cells #[.int .u64 id] 22)).alloc (.cells #[.int .u64 draw] 22)) 22 [.int .u64 0]
    rw [World.size_alloc, World.size_alloc] at h
    exact (Below.heap_alloc _ _ _ (by simp only [World.size_alloc]; omega)).trans h
  have hb3 : Blk W1 (w.heap.size + 3) 4 [.bool false] := by
    rw [hW1]
    have h := blk_new (((w.alloc (.cells #[.int .u64 id] 22)).alloc (.cells #[.int .u64 draw] 22)).alloc (.cells #[.int .u64 0] 22)) 4 [.bool false]
    rw [World.size_alloc, World.size_alloc, World.size_alloc] at h
    exact h
  have AL := Lib.hid (backward_any A s.length c W1)
  rw [hs1] at AL
  obtain ⟨W0, hW0⟩ : ∃ W0, W0 = W1.alloc (.cells #[.slice A s.length c] 23) := ⟨_, rfl⟩
  rw [← hW0] at AL
  have hBA : Below W1.heap.size W1 W0 := by rw [hW0]; exact (Below.refl _ _).alloc (Nat.le_refl _) _
  have hs0 : W0.heap.size = w.heap.size + 5 := by rw [hW0]; simp [hs1]
  have hbs : Blk W0 (w.heap.size + 4) 23 [.slice A s.length c] := by rw [hW0, ← hs1]; exact blk_new W1 _ _
  have hB0 : Below w.heap.size w W0 := hB1.trans (hBA.mono (by omega))
  have HI0 : Hid (NkI w W0 id draw s s.length [] W0) := ⟨⟨(hBA.block _ (by omega)).trans hb0, (hBA.block _ (by omega)).trans hb1, (hBA.block _ (by omega)).trans hb2, (hBA.block _ (by omega)).trans hb3, hB0, Nat.le_refl _⟩, fun x hx => nomatch hx⟩
  have hc0 : W0.cell? ⟨w.heap.size + 4, 0, none⟩ = some (.slice A s.length c) := Blk.cell hbs 0
  have HOA := Lib.hid (OF.at.below (fun h0 => by obtain ⟨b, off, e, hl, hc⟩ := hoa h0; exact ⟨b, off, e, (by omega : b < w.heap.size), hc⟩) hB0 (Nat.le_refl _) : o.at W0 w.heap.size A s.length)
  have HOP := Lib.hid hop
  have HB := Lib.hid hB
  have HD := Lib.hid hd
  have HW1 := Lib.hid hW1
  have HB0 := Lib.hid hB0
  rw [hW1] at AL
  clear hr hoa hop hB hd hW1 hW0 hB1 hb0 hb1 hb2 hb3 hs1 hBA hbs hB0
  refine (callsIn_wide (n := 10)).1 ?_
  refine callsIn_of_wp_marks Try.func20 rfl trivial ?_ rfl
  simp only [Try.ntmps20, List.size_toArray, List.length_cons, List.length_nil, Nat.reduceAdd, Nat.reduceSub, Array.replicate_succ, Array.replicate_zero, List.push_toArray, List.append_toArray, List.nil_append, List.cons_append]
  gi_wp2_with (refine ⟨trivial, ?_⟩; gi_at_call 43; refine (callsIn_wide.2 AL.out).mono ?_; rintro e w' ⟨rfl, hw'⟩)
  clear hw'
  refine wpIn_rangeFunc_ownH rfl (by omega) (gf := 50) (lb := #[.pointer (some ⟨w.heap.size + 4, 0, none⟩)]) rfl trivial (enters_of Try.func50 (by kernel_rfl) rfl)
    (back_stops 9 (by omega) (w.heap.size + 4) A s.length c o W0 hc0 (by omega) (fun h0 => by obtain ⟨b, off, e, hl, hc⟩ := HOA.out h0; exact ⟨b, off, e, (by omega), hc⟩) (by omega)) (Kp := Below W0.heap.size) belowK_t (belowK_b (Nat.le_refl _)) (Below.refl _ _) (fun x => rfl)
    (NkI w W0 id draw s s.length)
    (NkX w W0 id draw s s.length)
    (fun pre X Y row hs hg hr => ⟨hs.1.row (by omega) hg hr, hs.2⟩)
    (fun c pre X Y row hs hg hr => by obtain ⟨e, p, x, e2, h1, h2, h3⟩ := hs; exact ⟨e, p, x, e2, h1.row (by omega) hg hr, h2, h3⟩)
    HI0.out
    (fun x a' W => ∃ Bx, W0.heap.size ≤ Bx ∧ Blk W Bx 54 [.int .i64 (o.K x.1), .slice (o.E x.1) (o.k x.1) (o.c x.1)] ∧ a' = { tmps := #[.int .u64 id, .slice A s.length c, .int .u64 draw, .pointer (some ⟨w.heap.size, 0, none⟩), undef, .pointer (some ⟨w.heap.size + 1, 0, none⟩), .pointer (some ⟨w.heap.size + 2, 0, none⟩), .pointer (some ⟨w.heap.size + 3, 0, none⟩), undef, .pointer (some ⟨Bx, 0, none⟩), undef, .slice A s.length c, .func (.func 50) #[] #[.pointer (some ⟨w.heap.size + 4, 0, none⟩)], .int .i64 (x.1 : Int), .agg #[.int .i64 (o.K x.1), .slice (o.E x.1) (o.k x.1) (o.c x.1)], undef, undef, undef, undef, undef, undef, undef, undef, undef, undef, undef, undef, undef], defers := [] })
    (fun x a' _ X Y row hs hg hr => by obtain ⟨Bx, h1, h2, h3⟩ := hs; exact ⟨Bx, h1, blk_own6 h2 hg (fun r e => (hr r e).2), h3⟩)
    ?assign ?body ?done ?stop
  case assign =>
    rintro lp pre x W K hi hK
    have hsz := hi.1.sz
    have BA : Below W.heap.size W (W.alloc (.cells #[.int .i64 (o.K x.1), .slice (o.E x.1) (o.k x.1) (o.c x.1)] 54)) := (Below.refl _ _).alloc (Nat.le_refl _) _
    have HK := Lib.hid (hK { tmps := #[.int .u64 id, .slice A s.length c, .int .u64 draw, .pointer (some ⟨w.heap.size, 0, none⟩), undef, .pointer (some ⟨w.heap.size + 1, 0, none⟩), .pointer (some ⟨w.heap.size + 1 + 1, 0, none⟩), .pointer (some ⟨w.heap.size + 1 + 1 + 1, 0, none⟩), undef, .pointer (some ⟨W.heap.size, 0, none⟩), undef, .slice A s.length c, .func (.func 50) #[] #[.pointer (some ⟨w.heap.size + 4, 0, none⟩)], .int .i64 (x.1 : Int), .agg #[.int .i64 (o.K x.1), .slice (o.E x.1) (o.k x.1) (o.c x.1)], undef, undef, undef, undef, undef, undef, undef, undef, undef, undef, undef, undef, undef], defers := [] } (W.alloc (.cells #[.int .i64 (o.K x.1), .slice (o.E x.1) (o.k x.1) (o.c x.1)] 54)) ((KeepsOthers.alloc _ _).from _) (BA.mono hsz) ⟨hi.1.later (by omega) BA, hi.2⟩ ⟨W.heap.size, hsz, blk_new W 54 [.int .i64 (o.K x.1), .slice (o.E x.1) (o.k x.1) (o.c x.1)], rfl⟩)
    clear hK hi BA
    rw [show encB o s.length x = #[.int .i64 (x.1 : Int), .agg #[.int .i64 (o.K x.1), .slice (o.E x.1) (o.k x.1) (o.c x.1)]] from rfl]
    gi_wp2
    exact HK.out
  case body =>
    rintro lp pre x a' W hlp ⟨rr, hrr⟩ ⟨hb, hall⟩ ⟨Bx, hBx, hX, rfl⟩ hlt
    obtain ⟨i, hi⟩ := x
    obtain ⟨hK, hRd, _, hkc, hkb⟩ := HOP.out i hi
    have hsi : sAt s i = s[i] := by unfold sAt; rw [List.getD_eq_getElem?_getD, List.getElem?_eq_getElem hi]; rfl
    obtain ⟨y, hy⟩ : ∃ y, s[i] = y := ⟨_, rfl⟩
    rw [hy] at hK hRd hsi
    obtain ⟨K, l⟩ := y
    have hK' : o.K i = K := hK
    have CH := Lib.hid (nk_calls (w := w) (W0 := W0) (id := id) (draw := draw) (l := l) (by omega) hb hX (hRd.below (hb.bw.mono HB.out)) (by have := HB.out; have := hb.bw.size; omega) hkc HD.out)
    unfold NkC at CH
    show Code.wpIn _ _ _ _ _ { tmps := _, defers := _ } _
    simp only [hK'] at CH hX ⊢
    obtain ⟨E, hE⟩ : ∃ E, o.E i = E := ⟨_, rfl⟩
    obtain ⟨kk, hkk⟩ : ∃ kk, o.k i = kk := ⟨_, rfl⟩
    obtain ⟨cc, hcc⟩ : ∃ cc, o.c i = cc := ⟨_, rfl⟩
    simp only [hE, hkk, hcc] at CH hX ⊢
    have x0 := hX.cell 0
    have x1 := hX.cell 1
    have HSI := Lib.hid hsi
    have HALL := Lib.hid hall
    have hszW := hb.sz
    clear hK hRd hkc hkb hsi hy hb hX hK' hE hkk hcc hall
    rcases hrg : rgt (K, l) with _ | _
    · rw [hrg] at CH
      have HRG := Lib.hid hrg
      clear hrg
      gi_wp2_with (refine ⟨trivial, ?_⟩; gi_at_call 44; refine (CallsIn.inRound lp (callsIn_wide.2 CH.out)).mono ?_; rintro e W2 ⟨rfl, HN, y0, ⟨y1, y2, y3⟩, -⟩)
      refine ⟨HN.out.1, HN.out.2.1.mono (by omega), HN.out.2.2, fun z hz => ?_⟩
      rcases List.mem_append.1 hz with h | h
      · exact HALL.out z h
      · rw [List.mem_singleton.1 h]
        show rgt (sAt s i) = false
        rw [HSI.out]
        exact HRG.out
    · rw [hrg] at CH
      have HRG := Lib.hid hrg
      clear hrg
      have HX : ∀ V, Hid (KeepsFrom W0.heap.size W V ∧ NkB w W0 id draw (nkV id draw (K, l)) true V) → KeepsFrom W0.heap.size W V ∧ NkX w W0 id draw s s.length .ret (pre ++ [⟨i, hi⟩]) V := fun V hV => ⟨hV.out.1, rfl, pre, ⟨i, hi⟩, rfl, by show NkB w W0 id draw (nkV id draw (sAt s i)) true V; rw [HSI.out]; exact hV.out.2, HALL.out, by show rgt (sAt s i) = true; rw [HSI.out]; exact HRG.out⟩
      have HX := Lib.hid HX
      rcases htk : tkB id (K, l) with _ | _
      · have HV : Hid (nkV id draw (K, l) = num l 8) := by show _ = _; unfold nkV; rw [htk]; rfl
        rw [htk] at CH
        clear htk
        gi_wp2_with (first
          | (refine ⟨trivial, ?_⟩; gi_at_call 44; refine (CallsIn.inRound lp (callsIn_wide.2 CH.out)).mono ?_; rintro e W2 ⟨rfl, HN, y0, ⟨y1, y2, y3⟩, C2⟩)
          | (refine ⟨trivial, ?_⟩; gi_at_call 39; refine (CallsIn.inRound lp (callsIn_wide.2 (C2 trivial).out)).mono ?_; rintro e W4 ⟨rfl, ⟨v0, v1, v2, v3, f2, f3⟩, ⟨u0, u1⟩, CG, CR, CA⟩)
          | (refine ⟨trivial, ?_⟩; gi_at_call 34; refine (CallsIn.inRound lp (callsIn_wide.2 CA.out)).mono ?_; rintro e W5 ⟨rfl, ⟨t2, t3, g2, g3⟩, HF⟩))
        have h := HX.out _ (by rw [HV.out]; exact HF)
        exact ⟨h.1, h.2⟩
      · have HV : Hid (nkV id draw (K, l) = giv draw id) := by show _ = _; unfold nkV; rw [htk]; rfl
        rw [htk] at CH
        clear htk
        gi_wp2_with (first
          | (refine ⟨trivial, ?_⟩; gi_at_call 44; refine (CallsIn.inRound lp (callsIn_wide.2 CH.out)).mono ?_; rintro e W2 ⟨rfl, HN, y0, ⟨y1, y2, y3⟩, C2⟩)
          | (refine ⟨trivial, ?_⟩; gi_at_call 39; refine (CallsIn.inRound lp (callsIn_wide.2 (C2 trivial).out)).mono ?_; rintro e W4 ⟨rfl, ⟨v0, v1, v2, v3, f2, f3⟩, ⟨u0, u1⟩, CG, CR, CA⟩)
          | (refine ⟨trivial, ?_⟩; gi_at_call 24; refine (CallsIn.inRound lp (callsIn_wide.2 CG.out)).mono ?_; rintro e W5 ⟨rfl, rfl⟩))
        have h := HX.out _ (by rw [HV.out]; exact Lib.hid (CR.out _))
        exact ⟨h.1, h.2⟩
  case done =>
    rintro D ys W hD rfl ⟨hb, hall⟩ hK
    have HC := Lib.hid (nk_none (id := id) (draw := draw) hall)
    have hDl := (Array.getElem?_eq_some_iff.1 hK).1
    have hsz := hb.sz
    obtain ⟨W2, hW2⟩ : ∃ W2, W2 = (W.setCell ⟨w.heap.size + 1 + 1, 0, none⟩ (.int .u64 id)).setCell ⟨w.heap.size + 1 + 1 + 1, 0, none⟩ (.bool false) := ⟨_, rfl⟩
    obtain ⟨V1, hV1⟩ : ∃ V1, W.setCell ⟨w.heap.size + 1 + 1, 0, none⟩ (.int .u64 id) = V1 := ⟨_, rfl⟩
    have g1 : W.grownBy V1 (some (w.heap.size + 2)) := by rw [← hV1]; exact only_set (p := ⟨w.heap.size + 1 + 1, 0, none⟩) _
    have k2 : Blk V1 (w.heap.size + 2) 22 [.int .u64 id] := by rw [← hV1]; exact Blk.set_ hb.b2 0 _
    have k3' : Blk V1 (w.heap.size + 3) 4 [.bool false] := (g1.block _ (Blk.lt hb.b3) (fun e => by injection e; omega)).trans hb.b3
    have hW2' : W2 = V1.setCell ⟨w.heap.size + 1 + 1 + 1, 0, none⟩ (.bool false) := by rw [hW2, hV1]
    have g2 : V1.grownBy W2 (some (w.heap.size + 3)) := by rw [hW2']; exact only_set (p := ⟨w.heap.size + 1 + 1 + 1, 0, none⟩) _
    have k3 : Blk W2 (w.heap.size + 3) 4 [.bool false] := by rw [hW2']; exact Blk.set_ k3' 0 _
    have k22 := (g2.block _ (Blk.lt k2) (fun e => by injection e; omega)).trans k2
    have z1 := g1.size
    have z2 := g2.size
    have HK : Hid (W2.heap[D]? = some (.deferred (some []))) := by
      show _ = _
      rw [g2.block D (by omega) (by intro e; injection e; omega), g1.block D hDl (by intro e; injection e; omega)]
      exact hK
    have HBW := Lib.hid ((hb.bw.grown g1 hb.bw.size (fun q e => by injection e; omega)).grown g2 (by have := hb.bw.size; omega) (fun q e => by injection e; omega))
    have H2 := Lib.hid k22
    have H3 := Lib.hid k3
    have x0 : W.cell? ⟨w.heap.size, 0, none⟩ = some (.int .u64 id) := Blk.cell hb.b0 0
    have x2 : W.cell? ⟨w.heap.size + 1 + 1, 0, none⟩ = some (.int .u64 0) := Blk.cell hb.b2 0
    have x3 : W.cell? ⟨w.heap.size + 1 + 1 + 1, 0, none⟩ = some (.bool false) := Blk.cell hb.b3 0
    have f2 : W.frozen? ⟨w.heap.size + 1 + 1, 0, none⟩ = false := Blk.frozen hb.b2 0
    have f3 : W.frozen? ⟨w.heap.size + 1 + 1 + 1, 0, none⟩ = false := Blk.frozen hb.b3 0
    rw [hW2] at HK HBW H2 H3
    clear hb hall hK hW2 hV1 hW2' g1 g2 k2 k3' k3 k22 z1 z2
    gi_wp2
    refine ⟨by simp, .inl ⟨_, _, rfl, run_takeDeferred HK.out, ?_⟩⟩
    obtain ⟨W3, hW3⟩ : ∃ W3, W3 = (W.setCell ⟨w.heap.size + 1 + 1, 0, none⟩ (.int .u64 id)).setCell ⟨w.heap.size + 1 + 1 + 1, 0, none⟩ (.bool false) := ⟨_, rfl⟩
    rw [← hW3] at HK HBW H2 H3
    rw [← hW3]
    have q2 : Blk (W3.putObj D (.deferred none)) (w.heap.size + 2) 22 [.int .u64 id] := (World.putObj_heap_other (by omega)).trans H2.out
    have q3 : Blk (W3.putObj D (.deferred none)) (w.heap.size + 3) 4 [.bool false] := (World.putObj_heap_other (by omega)).trans H3.out
    have c2 : (W3.putObj D (.deferred none)).cell? ⟨w.heap.size + 1 + 1, 0, none⟩ = some (.int .u64 id) := q2.cell 0
    have c3 : (W3.putObj D (.deferred none)).cell? ⟨w.heap.size + 1 + 1 + 1, 0, none⟩ = some (.bool false) := q3.cell 0
    clear hW3
    refine ⟨.tuple #[.int .u64 id, .bool false], by simp [results, Try.results20, go_sem, c2, c3], ?_, HBW.out.trans (belowK_b (w := w) (Nat.le_refl _) W3 D _ _ (by omega) HK.out rfl rfl)⟩
    rw [HC.out]
  case stop =>
    rintro D c pre W hD ⟨j, hj, hpre⟩ ⟨rfl, p, x, hpx, hb, hall, hx⟩ hK
    have HC : Hid (nk6 id draw s = (nkV id draw (sAt s x.1), true)) := by
      show _ = _
      have e : revs s.length = p ++ [x] ++ (revs s.length).drop j := by rw [← hpx, hpre, List.take_append_drop]
      exact nk_some e hall hx
    have HB := Lib.hid hb
    have HK := Lib.hid hK
    clear hb hK hall hpx hpre hx
    gi_wp2
    refine ⟨by simp, .inl ⟨_, _, rfl, run_takeDeferred HK.out, ?_⟩⟩
    have q2 : Blk (W.putObj D (.deferred none)) (w.heap.size + 2) 22 [.int .u64 (nkV id draw (sAt s x.1))] := (World.putObj_heap_other (by omega)).trans HB.out.b2
    have q3 : Blk (W.putObj D (.deferred none)) (w.heap.size + 3) 4 [.bool true] := (World.putObj_heap_other (by omega)).trans HB.out.b3
    have c2 : (W.putObj D (.deferred none)).cell? ⟨w.heap.size + 1 + 1, 0, none⟩ = some (.int .u64 (nkV id draw (sAt s x.1))) := q2.cell 0
    have c3 : (W.putObj D (.deferred none)).cell? ⟨w.heap.size + 1 + 1 + 1, 0, none⟩ = some (.bool true) := q3.cell 0
    refine ⟨.tuple #[.int .u64 (nkV id draw (sAt s x.1)), .bool true], by simp [results, Try.results20, go_sem, c2, c3], ?_, HB.out.bw.trans (belowK_b (w := w) (Nat.le_refl _) W D _ _ (by omega) HK.out rfl rfl)⟩
    rw [HC.out]
end Go.Proofs.Ytciijnhagdfpiaa
