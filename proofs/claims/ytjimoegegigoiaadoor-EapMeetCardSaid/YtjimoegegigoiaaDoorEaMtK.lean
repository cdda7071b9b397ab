/-
  EapMeet: Prove; what comes of a meeting, without running it.
  EapMeet: from a challenge on (written by gen_eamid.py).
  EapMeet: two rounds (written by gen_eameet.py).
  EapMeet: what a round does (written by gen_eameet2.py).
  EapMeet: at the head of a round (written by gen_eameet3.py).
-/
import Derived.Test.YtjimoegegigoiaaDoorEaProvB
import Derived.LoopTactic
namespace Go.Proofs.YtjimoegegigoiaaDoor
open Go.RowKit Go.Shelf
set_option maxRecDepth 100000
set_option maxHeartbeats 1000000
set_option linter.unusedSimpArgs false
set_option linter.unusedVariables false

theorem sprove_ok (lo g tb : Nat) (name : ByteArray) (tries : Int) (ss : List Sec) (s : SvS) (A : Option Addr) (n c B : Nat) (l : List UInt8) (w : World) (h : SvAt w lo g tb name tries ss s) (ok : SvOk s) (h3 : s.st = 3)
    (hr : Rd w B A n l) (hB : B ≤ w.heap.size) (hnil : A = none → c = 0) (hch : chB n = true) (hm : name.size ≤ 64) :
    Calls Tryd.prog 29 #[.pointer (some ⟨g, 0, none⟩), .slice A n c] w fun e w' => ∃ v, e = .returned (.tuple #[v, .int .i64 0]) ∧ AskR w lo g tb name tries ss (askS s 2 (dtL 1 4 l name)) (.returned v) w' := by
  obtain ⟨D0, k0, d0, hb, ho⟩ := h.blk
  obtain ⟨V, hV⟩ : ∃ V, w.alloc (.cells #[.int .i64 0, .int .i64 0, .slice none 0 0] 24) = V := ⟨_, rfl⟩
  have bV : Below w.heap.size w V := by rw [← hV]; exact (Below.refl _ _).alloc (Nat.le_refl _) _
  have h0 : Blk V w.heap.size 24 [.int .i64 0, .int .i64 0, .slice none 0 0] := by rw [← hV]; exact heap_alloc_new w _
  have hg := past_same hb bV
  have c3 : V.cell? ⟨g, 3, none⟩ = some (.int .i64 s.st) := hg.cell 3
  have e3 : (s.st != 3) = false := by simpa using h3
  have lg := h.lt
  have lV := Blk.lt h0
  have CR := Lib.hid (fun W => challengeRight_any A n c W)
  rw [hch] at CR
  obtain ⟨s', hs'⟩ : ∃ s', askS s 2 (dtL 1 4 l name) = s' := ⟨_, rfl⟩
  have C1 : Hid (Calls Tryd.prog 56 #[.pointer (some ⟨g, 0, none⟩), .slice A n c] V fun e w3 => ∃ x y D k d, e = .returned (.agg #[.int .i64 x, .int .i64 y, .slice D k d]) ∧ Blk w3 w.heap.size 24 [.int .i64 0, .int .i64 0, .slice none 0 0] ∧
      ∀ W', w3.grownBy W' (some w.heap.size) → AskR w lo g tb name tries ss s' (.returned (.agg #[.int .i64 x, .int .i64 y, .slice D k d])) W') := by
    have M := challenge_any lo g tb name tries ss s A n c B l V (h.later bV) ok (hr.below (bV.mono hB)) (Nat.le_trans hB bV.size) hnil hch hm
    rw [hs'] at M
    refine M.mono ?_
    rintro e w3 ⟨D, k, d, rfl, o3, g3, h3, D9, k9, d9, b9, o9⟩
    have p3 := blk_off h0 g3 (by omega)
    refine ⟨_, _, D, k, d, rfl, p3, fun W' hW => ?_⟩
    have G3 : w.grownBy w3 (some g) := gtrans' (below_some bV) g3
    have GW := grown_new G3 hW
    have kW := blk_off b9 hW (by omega)
    have oW := o9.grown hW (own_apart o9 p3 (by decide))
    exact ⟨D, k, d, rfl, eown_wide (o3.grown hW (own_apart o3 p3 (by decide))) (by omega), GW, h.row GW ⟨D9, k9, d9, kW, eown_wide oW (by omega)⟩, D9, k9, d9, kW, eown_wide oW (by omega)⟩
  have HV := Lib.hid hV
  rw [hs']
  clear hV bV h0 hg hb ho h hr hB hnil hch hm ok hs' h3
  go_enter Tryd.func29, Tryd.ntmps29
  go_wp2_with (first
    | (rw [HV.out])
    | (go_at_call 55; ((with_reducible refine (CR.out _).mono ?_); rintro e w' ⟨rfl, rfl⟩))
    | (go_at_call 56; ((with_reducible refine C1.out.mono ?_); rintro e w3 ⟨x, y, D, k, d, rfl, k3, f1⟩; have r0 := k3.cell 0; have r1 := k3.cell 1; have r2 := k3.cell 2; have e0 := k3.frozen 0; have e1 := k3.frozen 1; have e2 := k3.frozen 2; have l3 := Blk.lt k3; have K3 := Lib.hid k3; have F1 := Lib.hid f1; clear k3 f1)))
  have hb4 := blk3 (x := .int .i64 x) (y := .int .i64 y) (z := .slice D k d) K3.out
  have p0 := hb4.cell 0
  have p1 := hb4.cell 1
  have p2 := hb4.cell 2
  exact bodyPost_ret (v := .tuple #[.agg #[.int .i64 x, .int .i64 y, .slice D k d], .int .i64 0]) (by simp [results, Tryd.results29, go_sem, p0, p1, p2]) rfl ⟨_, rfl, F1.out _ (gset3 _ _ _ _ _)⟩
/-- an authenticator that waits for a proof -/
def sG (i : Int) (name server : ByteArray) (ch : List UInt8) (who : ByteArray) : SvS := ⟨2, 1, i, dtL 1 4 ch server, 1, name, who⟩
theorem sG_ch (i : Int) (name server who : ByteArray) (ch : List UInt8) (hi : idB i = true) (h1 : 1 ≤ ch.length) (h2 : ch.length ≤ 255) : rdE (sG i name server ch who).lc (sG i name server ch who).li (sG i name server ch who).L = 0 ∧ chOf (sG i name server ch who) = ch := by
  obtain ⟨a1, a2, a3, a4⟩ := pf_read 1 i (by decide) (by decide) hi ch server h1 h2
  refine ⟨a2, ?_⟩
  unfold chOf
  show krV 1 (rdT 1 (dtL 1 4 ch server)) (rdR 1 (dtL 1 4 ch server)) = ch
  rw [a1, a3]
theorem tkE_of {s : SvS} {i : Int} {l : List UInt8} (h : rdE 2 i l = 0) (hw : wtB s = true) (hi : s.li = i) : tkE s 2 i l = 0 := by
  unfold tkE
  rw [h, hw, hi, if_neg (by decide), if_neg (by decide), if_neg (by decide), if_neg (fun h => h rfl)]
theorem tkE_done {s : SvS} {i : Int} {l : List UInt8} (h : rdE 2 i l = 0) (hw : wtB s = false) : tkE s 2 i l = 9 := by
  unfold tkE
  rw [h, hw, if_neg (by decide), if_neg (by decide), if_pos rfl]
theorem sG_pf (ss : List Sec) (i : Int) (name server who t : ByteArray) (ch P : List UInt8) (hi : idB i = true) (c1 : 1 ≤ ch.length) (c2 : ch.length ≤ 255) (h1 : 1 ≤ P.length) (h2 : P.length ≤ 255) (hw : wdB ss (bst ss name server) = true) : rdE 2 i (dtL 2 4 P t) = 0 ∧ tkI ss server (sG i name server ch who) (dtL 2 4 P t) 0 = i ∧
    (P = digL i (wdS ss (bst ss name server)) ch → tkS ss server (sG i name server ch who) (dtL 2 4 P t) 0 [] = fnS (sG i name server ch who) 3 name ∧ tkC ss server (sG i name server ch who) (dtL 2 4 P t) 0 = 3) ∧
    (P ≠ digL i (wdS ss (bst ss name server)) ch → tkS ss server (sG i name server ch who) (dtL 2 4 P t) 0 [] = fnS (sG i name server ch who) 4 ⟨#[]⟩ ∧ tkC ss server (sG i name server ch who) (dtL 2 4 P t) 0 = 4) := by
  obtain ⟨a1, a2, a3, a4⟩ := pf_read 2 i (by decide) (by decide) hi P t h1 h2
  have hA : tkA ss server (sG i name server ch who) (dtL 2 4 P t) 0 = false := by
    unfold tkA
    rw [a1]
    exact decide_eq_false fun hc => absurd hc.1 (by decide)
  have hV : tkV (dtL 2 4 P t) = P := by unfold tkV; rw [a1, a3]
  have hB : pvB ss server (sG i name server ch who) (chOf (sG i name server ch who)) (tkV (dtL 2 4 P t)) = decide (P = digL i (wdS ss (bst ss name server)) ch) := by
    rw [hV, (sG_ch i name server who ch hi c1 c2).2]
    unfold pvB
    show (wdB ss (bst ss name server) && decide (P = digL i (wdS ss (bst ss name server)) ch)) = _
    rw [hw]
    rfl
  refine ⟨a2, ?_, fun h => ?_, fun h => ?_⟩
  · unfold tkI
    rw [hA]
    rfl
  · have hP : tkP ss server (sG i name server ch who) (dtL 2 4 P t) = true := by
      unfold tkP
      rw [hB]
      exact decide_eq_true ⟨a1, rfl, decide_eq_true h⟩
    unfold tkS tkC
    rw [hA, hP]
    exact ⟨rfl, rfl⟩
  · have hP : tkP ss server (sG i name server ch who) (dtL 2 4 P t) = false := by
      unfold tkP
      rw [hB]
      exact decide_eq_false fun hc => h (of_decide_eq_true hc.2.2)
    unfold tkS tkC
    rw [hA, hP]
    exact ⟨rfl, rfl⟩
/-- a wish is refused -/
theorem sG_nak (ss : List Sec) (i : Int) (name server who : ByteArray) (ch : List UInt8) (hi : idB i = true) : rdE 2 i (dtL 2 3 [0] ⟨#[]⟩) = 0 ∧ tkI ss server (sG i name server ch who) (dtL 2 3 [0] ⟨#[]⟩) 0 = i ∧ tkS ss server (sG i name server ch who) (dtL 2 3 [0] ⟨#[]⟩) 0 [] = fnS (sG i name server ch who) 4 ⟨#[]⟩ ∧ tkC ss server (sG i name server ch who) (dtL 2 3 [0] ⟨#[]⟩) 0 = 4 := by
  have hl : dtL 2 3 [0] ⟨#[]⟩ = [3, 0] := rfl
  rw [hl]
  have a1 : rdT 2 [3, 0] = 3 := by decide
  have hA : tkA ss server (sG i name server ch who) [3, 0] 0 = false := by
    unfold tkA
    rw [a1]
    exact decide_eq_false fun hc => absurd hc.1 (by decide)
  have hP : tkP ss server (sG i name server ch who) [3, 0] = false := by
    unfold tkP
    rw [a1]
    exact decide_eq_false fun hc => absurd hc.1 (by decide)
  refine ⟨?_, ?_, ?_, ?_⟩
  · unfold rdE
    rw [if_neg (by rw [hi]; decide), if_neg (by decide), if_pos (by decide), if_neg (by decide)]
    decide
  · unfold tkI
    rw [hA]
    rfl
  · unfold tkS
    rw [hA, hP]
    rfl
  · unfold tkC
    rw [hA, hP]
    rfl
/-- what a peer answers to a challenge -/
theorem peer_ch (mm : List Sec) (i st : Int) (no name server : ByteArray) (ch : List UInt8) (hi : idB i = true) (h1 : 1 ≤ ch.length) (h2 : ch.length ≤ 255) : ptE 1 i (dtL 1 4 ch server) = 0 ∧ paN no 1 (dtL 1 4 ch server) = no ∧
    (wdB mm (bst mm name server) = false → paS mm name st 1 (dtL 1 4 ch server) = st ∧ paL mm name 1 i (dtL 1 4 ch server) = dtL 2 3 [0] ⟨#[]⟩) ∧
    (wdB mm (bst mm name server) = true → paS mm name st 1 (dtL 1 4 ch server) = 2 ∧ paL mm name 1 i (dtL 1 4 ch server) = dtL 2 4 (digL i (wdS mm (bst mm name server)) ch) name) := by
  obtain ⟨a1, a2, a3, a4⟩ := pf_read 1 i (by decide) (by decide) hi ch server h1 h2
  have hT : paT 1 (dtL 1 4 ch server) = server := by unfold paT; rw [a1, a4]
  have hV : paV 1 (dtL 1 4 ch server) = ch := by unfold paV; rw [a1, a3]
  refine ⟨?_, ?_, fun h => ⟨?_, ?_⟩, fun h => ⟨?_, ?_⟩⟩
  · unfold ptE
    rw [a2, if_neg (by decide), if_neg (by decide)]
  · unfold paN
    rw [if_neg (by rw [a1]; decide)]
  · unfold paS
    rw [if_pos rfl, if_neg (by rw [a1]; decide), if_neg (by rw [hT, h]; simp)]
  · unfold paL
    rw [if_pos rfl, if_neg (by rw [a1]; decide), if_neg (by rw [a1]; decide), if_pos a1, if_neg (by rw [hT, h]; simp)]
  · unfold paS
    rw [if_pos rfl, if_neg (by rw [a1]; decide), if_pos ⟨a1, by rw [hT]; exact h⟩]
  · unfold paL
    rw [if_pos rfl, if_neg (by rw [a1]; decide), if_neg (by rw [a1]; decide), if_pos a1, if_pos (by rw [hT]; exact h), hT, hV]
theorem peer_end (i C : Int) (hi : idB i = true) (hC : C = 3 ∨ C = 4) : ptE C i [] = 0 := by
  have hz : rdE C i [] = 0 := by
    unfold rdE
    rcases hC with rfl | rfl
    · rw [if_neg (by rw [hi]; decide), if_neg (by decide), if_neg (by decide)]
      decide
    · rw [if_neg (by rw [hi]; decide), if_neg (by decide), if_neg (by decide)]
      decide
  unfold ptE
  rw [hz, if_neg (by decide), if_neg (by omega)]
end Go.Proofs.YtjimoegegigoiaaDoor
namespace Go.Proofs.YtjimoegegigoiaaDoor
open Go.RowKit Go.Shelf
set_option maxRecDepth 100000
set_option maxHeartbeats 1000000
set_option linter.unusedSimpArgs false
set_option linter.unusedVariables false

theorem blk_apart {W : World} {a b t u : Nat} {cs ds : List Value} (h : Blk W a t cs) (k : Blk W b u ds) (hne : t ≠ u) : a ≠ b := by
  rintro rfl
  unfold Blk at h k
  rw [h] at k
  simp at k
  exact hne k.2
/-- what both ends are behind a proof -/
structure MidE (w W : World) (lo1 g1 tb1 lo2 g2 tb2 : Nat) (name server : ByteArray) (ss mm : List Sec) (i : Int) (ch : List UInt8) (who no : ByteArray) (D2 : Option Addr) (k2 d2 : Nat) (z st2 : Int) (L2 : List UInt8) : Prop where
  way : (z = 3 ∧ st2 = 3) ∨ z = 4
  same : wdB ss (bst ss name server) = true → wdS mm (bst mm name server) = wdS ss (bst ss name server) → z = 3
  none_ : wdB mm (bst mm name server) = false → z = 4
  sv : SvAt W lo1 g1 tb1 server 5 ss (fnS (sG i name server ch who) z (if z = 3 then name else ⟨#[]⟩))
  pv : PvAt W lo2 g2 tb2 name mm st2 no
  own : Own W 0 (.slice D2 k2 d2) L2
  rd : rdE 2 i L2 = 0
  len : L2.length ≤ 400
  bel : Below w.heap.size w W
theorem mid_c (w V : World) (lo1 g1 tb1 lo2 g2 tb2 : Nat) (name server : ByteArray) (ss mm : List Sec) (i st : Int) (ch : List UInt8) (who no : ByteArray) (D1 : Option Addr) (k1 d1 : Nat) (hb : Below w.heap.size w V) (hg1 : w.heap.size ≤ g1) (hlo : g1 < lo2) (hs : SvAt V lo1 g1 tb1 server 5 ss (sG i name server ch who)) (hp : PvAt V lo2 g2 tb2 name mm st no) (o1 : Own V 0 (.slice D1 k1 d1) (dtL 1 4 ch server)) (hi : idB i = true) (c1 : 1 ≤ ch.length) (c2 : ch.length ≤ 255) (hnm : name.size ≤ 64) (hsv : server.size ≤ 64) (hw : wdB ss (bst ss name server) = true) :
    Calls Tryd.prog 28 #[.pointer (some ⟨g2, 0, none⟩), .agg #[.int .i64 1, .int .i64 i, .slice D1 k1 d1]] V fun e w2 => ∃ D2 k2 d2, e = .returned (.tuple #[.agg #[.int .i64 2, .int .i64 i, .slice D2 k2 d2], .bool true, .int .i64 0]) ∧ ∃ V2, w2.alloc (.cells #[.int .i64 2, .int .i64 i, .slice D2 k2 d2] 24) = V2 ∧ Blk V2 w2.heap.size 24 [.int .i64 2, .int .i64 i, .slice D2 k2 d2] ∧
      Calls Tryd.prog 21 #[.pointer (some ⟨g1, 0, none⟩), .agg #[.int .i64 2, .int .i64 i, .slice D2 k2 d2], .slice none 0 0] V2 fun e w3 => ∃ C3 D3 k3 d3, e = .returned (.tuple #[.agg #[.int .i64 C3, .int .i64 i, .slice D3 k3 d3], .bool true, .int .i64 0]) ∧ ∃ V3, w3.alloc (.cells #[.int .i64 C3, .int .i64 i, .slice D3 k3 d3] 24) = V3 ∧ Blk V3 w3.heap.size 24 [.int .i64 C3, .int .i64 i, .slice D3 k3 d3] ∧
      Calls Tryd.prog 28 #[.pointer (some ⟨g2, 0, none⟩), .agg #[.int .i64 C3, .int .i64 i, .slice D3 k3 d3]] V3 fun e w4 => ∃ v okk, e = .returned (.tuple #[v, .bool okk, .int .i64 0]) ∧ Blk w4 w2.heap.size 24 [.int .i64 2, .int .i64 i, .slice D2 k2 d2] ∧ (∀ q t cs, Blk V q t cs → t ≠ 95 → t ≠ 102 → Blk w4 q t cs) ∧ ∃ z st2 L2, MidE w w4 lo1 g1 tb1 lo2 g2 tb2 name server ss mm i ch who no D2 k2 d2 z st2 L2 := by
  have lg1 := hs.lt
  have lg2 := hp.lt
  have hlo2 : lo2 ≤ g2 := by
    obtain ⟨A, n, c, mb, h1, h2, _⟩ := hp.tab
    omega
  obtain ⟨p1, p2, p3, p4⟩ := peer_ch mm i st no name server ch hi c1 c2
  have r1 := own_rd o1
  have hl1 : (dtL 1 4 ch server).length ≤ 400 := by rw [dtL_chal]; omega
  have PT := ptake_any lo2 g2 tb2 name mm st no 1 i D1 k1 d1 V.heap.size (dtL 1 4 ch server) V hp hnm r1.1 (Nat.le_refl _) (by rw [← r1.1.1]; omega) p1
  rw [p2] at PT
  obtain ⟨P, st1, t1, L2, hst, hL, hcase⟩ : ∃ (P : Prop) (st1 : Int) (t1 : Int) (L2 : List UInt8), paS mm name st 1 (dtL 1 4 ch server) = st1 ∧ paL mm name 1 i (dtL 1 4 ch server) = L2 ∧
      (rdE 2 i L2 = 0 ∧ L2.length ≤ 400 ∧ tkI ss server (sG i name server ch who) L2 0 = i ∧ ((tkS ss server (sG i name server ch who) L2 0 [] = fnS (sG i name server ch who) 3 name ∧ tkC ss server (sG i name server ch who) L2 0 = 3 ∧ st1 = 2 ∧ wdB mm (bst mm name server) = true) ∨ (tkS ss server (sG i name server ch who) L2 0 [] = fnS (sG i name server ch who) 4 ⟨#[]⟩ ∧ tkC ss server (sG i name server ch who) L2 0 = 4 ∧ ¬ (wdS mm (bst mm name server) = wdS ss (bst ss name server))))) := by
    cases hm : wdB mm (bst mm name server)
    · obtain ⟨a1, a2⟩ := p3 hm
      obtain ⟨n1, n2, n3, n4⟩ := sG_nak ss i name server who ch hi
      refine ⟨True, _, 0, _, rfl, rfl, ?_⟩
      rw [a2]
      refine ⟨n1, by decide, n2, .inr ⟨n3, n4, fun h => ?_⟩⟩
      unfold wdB at hm hw
      rw [h] at hm
      rw [hm] at hw
      cases hw
    · obtain ⟨a1, a2⟩ := p4 hm
      have hD := digL_length i (wdS mm (bst mm name server)) ch
      obtain ⟨b1, b2, b3, b4⟩ := sG_pf ss i name server who name ch (digL i (wdS mm (bst mm name server)) ch) hi c1 c2 (by omega) (by omega) hw
      have hlen : (dtL 2 4 (digL i (wdS mm (bst mm name server)) ch) name).length ≤ 400 := by
        rw [pf_list 2 (by decide)]
        have : name.data.toList.length = name.size := Array.length_toList
        simp only [List.length_cons, List.length_append, this, hD]
        omega
      refine ⟨True, _, 0, _, rfl, rfl, ?_⟩
      rw [a2, a1]
      refine ⟨b1, hlen, b2, ?_⟩
      by_cases he : digL i (wdS mm (bst mm name server)) ch = digL i (wdS ss (bst ss name server)) ch
      · exact .inl ⟨(b3 he).1, (b3 he).2, rfl, rfl⟩
      · exact .inr ⟨(b4 he).1, (b4 he).2, fun h => he (by rw [h])⟩
  obtain ⟨hrd, hlen, hI, hway⟩ := hcase
  rw [hst, hL] at PT
  refine PT.mono ?_
  rintro e w2 ⟨D2, k2, d2, rfl, o2, G2, hp2⟩
  have hs2 := hs.beside hp.blk (by omega) G2
  have B2 := below_row hb G2 (by omega)
  obtain ⟨V2, hV2⟩ : ∃ V2, w2.alloc (.cells #[.int .i64 2, .int .i64 i, .slice D2 k2 d2] 24) = V2 := ⟨_, rfl⟩
  have bV2 : Below w2.heap.size w2 V2 := by rw [← hV2]; exact (Below.refl _ _).alloc (Nat.le_refl _) _
  have nV2 : Blk V2 w2.heap.size 24 [.int .i64 2, .int .i64 i, .slice D2 k2 d2] := by rw [← hV2]; exact heap_alloc_new w2 _
  have BV2 := step_to B2 bV2
  have hsV2 := hs2.later bV2
  have hpV2 := hp2.later bV2
  have oV2 := o2.later bV2
  have r2 := own_rd oV2
  have z2 := G2.size
  have z2' := bV2.size
  have c0 := sG_ch i name server who ch hi c1 c2
  have hi' : 0 ≤ i ∧ i ≤ 255 := by unfold idB at hi; simpa using hi
  refine ⟨D2, k2, d2, rfl, V2, hV2, nV2, ?_⟩
  have hLs : (sG i name server ch who).L.length ≤ 140737488351232 := by
    show (dtL 1 4 ch server).length ≤ _
    omega
  have ST := stake_any lo1 g1 tb1 server 5 ss (sG i name server ch who) i D2 k2 d2 V2.heap.size L2 none 0 0 0 [] V2 hsV2 ⟨hi'.1, hi'.2, show name.size ≤ maxLen by unfold maxLen; omega⟩ hsv r2.1 (Nat.le_refl _) (by rw [← r2.1.1]; omega) Rd.nil (Nat.zero_le _) (fun _ => rfl) (fun _ => ⟨hLs, c0.1, by rw [c0.2]; omega⟩) (tkE_of hrd rfl rfl)
  rw [hI] at ST
  refine ST.mono ?_
  rintro e w3 ⟨D3, k3, d3, rfl, o3, G3, hs3⟩
  obtain ⟨E3, m3, f3, kb3, _⟩ := hsV2.blk
  have hp3 := hpV2.beside kb3 hlo G3
  have B3 := below_row BV2 G3 hg1
  obtain ⟨C3, hC3⟩ : ∃ C3, tkC ss server (sG i name server ch who) L2 0 = C3 := ⟨_, rfl⟩
  rw [hC3]
  obtain ⟨V3, hV3⟩ : ∃ V3, w3.alloc (.cells #[.int .i64 C3, .int .i64 i, .slice D3 k3 d3] 24) = V3 := ⟨_, rfl⟩
  have bV3 : Below w3.heap.size w3 V3 := by rw [← hV3]; exact (Below.refl _ _).alloc (Nat.le_refl _) _
  have nV3 : Blk V3 w3.heap.size 24 [.int .i64 C3, .int .i64 i, .slice D3 k3 d3] := by rw [← hV3]; exact heap_alloc_new w3 _
  have BV3 := step_to B3 bV3
  have hsV3 := hs3.later bV3
  have hpV3 := hp3.later bV3
  have kb2 := past_same (blk_off nV2 G3 (blk_apart nV2 kb3 (by decide))) bV3
  have oB3 := (oV2.grown G3 (own_apart oV2 kb3 (by decide))).later bV3
  have r3 := own_rd (o3.later bV3)
  have z3 := G3.size
  have z3' := bV3.size
  refine ⟨C3, D3, k3, d3, rfl, V3, hV3, nV3, ?_⟩
  have hL3 : tkL ss server (sG i name server ch who) L2 0 [] = [] := by
    unfold tkL
    rw [if_neg]
    intro h
    have : tkC ss server (sG i name server ch who) L2 0 = 1 := by unfold tkC; rw [if_pos h]
    rcases hway with ⟨_, h4, _⟩ | ⟨_, h4, _⟩ <;> omega
  rw [hL3] at r3
  have hCC : C3 = 3 ∨ C3 = 4 := by
    rcases hway with ⟨_, h4, _⟩ | ⟨_, h4, _⟩ <;> omega
  have PT2 := ptake_any lo2 g2 tb2 name mm st1 no C3 i D3 k3 d3 V3.heap.size [] V3 hpV3 hnm r3.1 (Nat.le_refl _) (by rw [← r3.1.1]; decide) (peer_end i C3 hi hCC)
  have hN : paN no C3 [] = no := by unfold paN; rw [if_neg (by omega)]
  have hE : paE st1 C3 = 0 := by
    unfold paE
    rw [if_neg (by omega)]
    unfold enE
    rcases hway with ⟨_, h4, h5, _⟩ | ⟨_, h4, _⟩
    · rw [if_neg (by omega), if_pos h5]
    · rw [if_pos (by omega)]
  rw [hN, hE] at PT2
  refine PT2.mono ?_
  rintro e w4 ⟨D4, k4, d4, rfl, o4, G4, hp4⟩
  have B4 := below_row BV3 G4 (by omega)
  have hs4 := hsV3.beside hpV3.blk (by omega) G4
  have kb4 := blk_off kb2 G4 (blk_apart kb2 hpV3.blk (by decide))
  have oB4 := oB3.grown G4 (own_apart oB3 hpV3.blk (by decide))
  refine ⟨_, _, rfl, kb4, fun q t cs hq ht1 ht2 => ?_, ?_⟩
  · have q2 := past_same (blk_off hq G2 (blk_apart hq hp.blk ht2)) bV2
    have q3 := past_same (blk_off q2 G3 (blk_apart q2 kb3 ht1)) bV3
    exact blk_off q3 G4 (blk_apart q3 hpV3.blk ht2)
  · have oW := eown_wide oB4 (Nat.zero_le _)
    rcases hway with ⟨h3, h4, h5, h6⟩ | ⟨h3, h4, h5⟩
    · rw [h3] at hs4
      have hC : C3 = 3 := by omega
      have hst2 : paS mm name st1 C3 [] = 3 := by
        unfold paS enS
        rw [if_neg (by omega), if_neg (by omega), if_pos h5]
      rw [hst2] at hp4
      refine ⟨3, 3, L2, .inl ⟨rfl, rfl⟩, fun _ _ => rfl, fun h => ?_, ?_, hp4, oW, hrd, hlen, B4⟩
      · rw [h6] at h; cases h
      · rw [if_pos rfl]; exact hs4
    · rw [h3] at hs4
      refine ⟨4, _, L2, .inr rfl, fun _ h => absurd h h5, fun _ => rfl, ?_, hp4, oW, hrd, hlen, B4⟩
      rw [if_neg (by decide)]
      exact hs4
end Go.Proofs.YtjimoegegigoiaaDoor
namespace Go.Proofs.YtjimoegegigoiaaDoor
open Go.RowKit Go.Shelf
set_option maxRecDepth 100000
set_option maxHeartbeats 2000000
set_option linter.unusedSimpArgs false
set_option linter.unusedVariables false

structure MeetI (w W : World) (lo1 g1 tb1 lo2 g2 tb2 bb xb yb : Nat) (name server wx wy : ByteArray) (ss mm : List Sec) (s : SvS) (st i : Int) (L : List UInt8) : Prop where
  sv : SvAt W lo1 g1 tb1 server 5 ss s
  pv : ∃ no, PvAt W lo2 g2 tb2 name mm st no
  bk : ∃ D k d, Blk W bb 24 [.int .i64 2, .int .i64 i, .slice D k d] ∧ Own W 0 (.slice D k d) L
  xk : ∃ x1 x2 E m k, Blk W xb 50 [.string x1, .string x2, .string wx, .slice E m k]
  yk : ∃ x1 x2 E m k, Blk W yb 50 [.string x1, .string x2, .string wy, .slice E m k]
  bel : Below w.heap.size w W
  glo : w.heap.size ≤ g1
  lt : g1 < lo2
  bg : g2 < bb
/-- at the head of a round -/
def MeetJ (w : World) (lo1 g1 tb1 lo2 g2 tb2 bb xb yb : Nat) (name server wx wy : ByteArray) (ss mm : List Sec) (A4 : Option Addr) (n4 c4 : Nat) (A5 : Option Addr) (n5 c5 : Nat) (one : List UInt8) (k : Nat) (v : Value) (W : World) : Prop :=
  (k = 0 → v = .slice A4 n4 c4 ∧ MeetI w W lo1 g1 tb1 lo2 g2 tb2 bb xb yb name server wx wy ss mm s1 1 1 (dtL 2 1 [] name)) ∧
  (k = 1 → v = .slice A5 n5 c5 ∧ ∃ L, rdE 2 2 L = 0 ∧ L.length ≤ 400 ∧ MeetI w W lo1 g1 tb1 lo2 g2 tb2 bb xb yb name server wx wy ss mm (fnS (sG 2 name server one ⟨#[]⟩) 3 name) 3 2 L) ∧
  (k = 2 → Below w.heap.size w W)
theorem eapmeet_len (name server : ByteArray) (A2 : Option Addr) (n2 c2 : Nat) (A3 : Option Addr) (n3 c3 : Nat) (A4 : Option Addr) (n4 c4 : Nat) (A5 : Option Addr) (n5 c5 : Nat) (ss mm : List Sec) (one two : List UInt8) (w : World) (hn0 : name.size ≤ 140737488351232) (hn1 : server.size ≤ 140737488351232) (hs : SecRd w w.heap.size A2 n2 ss) (hm : SecRd w w.heap.size A3 n3 mm) (hr4 : Rd w w.heap.size A4 n4 one) (z4 : A4 = none → c4 = 0) (hr5 : Rd w w.heap.size A5 n5 two) (z5 : A5 = none → c5 = 0) (hK : TabK w) (hS : TabS w) (hsv : nameB server = true) (hck : (chk ss).1 = 0) (hnm : nameB name = true) (hmk : (chk mm).1 = 0) (hbad : n4 < 1 ∨ 255 < n4 ∨ n5 < 1 ∨ 255 < n5) : Calls Tryd.prog 5 #[.string name, .string server, .slice A2 n2 c2, .slice A3 n3 c3, .slice A4 n4 c4, .slice A5 n5 c5] w fun e w' => e = .returned (.bool true) ∧ Below w.heap.size w w' := by
  have C0 : Hid (Calls Tryd.prog 19 #[.string server, .slice A2 n2 c2, .int .i64 5] w fun e w1 => ∃ g1, e = .returned (.tuple #[.pointer (some ⟨g1, 0, none⟩), .int .i64 0, .int .i64 0]) ∧
      Calls Tryd.prog 27 #[.string name, .slice A3 n3 c3] w1 fun e w2 => ∃ g2, e = .returned (.tuple #[.pointer (some ⟨g2, 0, none⟩), .int .i64 0, .int .i64 0]) ∧
      Calls Tryd.prog 20 #[.pointer (some ⟨g1, 0, none⟩)] w2 fun e w3 => ∃ D1 k1 d1, e = .returned (.tuple #[.agg #[.int .i64 1, .int .i64 1, .slice D1 k1 d1], .int .i64 0]) ∧ ∃ V3, w3.alloc (.cells #[.int .i64 1, .int .i64 1, .slice D1 k1 d1] 24) = V3 ∧ Blk V3 w3.heap.size 24 [.int .i64 1, .int .i64 1, .slice D1 k1 d1] ∧
      Calls Tryd.prog 28 #[.pointer (some ⟨g2, 0, none⟩), .agg #[.int .i64 1, .int .i64 1, .slice D1 k1 d1]] V3 fun e w4 => ∃ Db kb db, e = .returned (.tuple #[.agg #[.int .i64 2, .int .i64 1, .slice Db kb db], .bool true, .int .i64 0]) ∧ ∃ V4, w4.alloc (.cells #[.int .i64 2, .int .i64 1, .slice Db kb db] 24) = V4 ∧ Calls Tryd.prog 18 #[] V4 fun e w' => e = .returned (.bool true) ∧ Below w.heap.size w w') := by
    refine (newServer_any server 5 A2 n2 c2 w.heap.size ss w (by unfold maxLen; omega) hs (Nat.le_refl _) hK hS).mono ?_
    rintro e w1 ⟨b1, ⟨h, -⟩ | ⟨-, h, -⟩ | ⟨-, -, h, -⟩ | ⟨-, -, -, g1, tb1, l1, l1', rfl, hs1⟩⟩
    · rw [hsv] at h; cases h
    · cases h
    · exact absurd hck h
    refine ⟨g1, rfl, ?_⟩
    refine (newPeer_any name A3 n3 c3 w.heap.size mm w1 (by unfold maxLen; omega) (hm.below b1 (Nat.le_refl _)) b1.size (hK.kept b1) (hS.kept b1)).mono ?_
    rintro e w2 ⟨b2, ⟨h, -⟩ | ⟨-, h, -⟩ | ⟨-, -, g2, tb2, l2, l2', rfl, hp2⟩⟩
    · rw [hnm] at h; cases h
    · exact absurd hmk h
    have B2 := step_to b1 b2
    have hs2 := hs1.later b2
    have lg1 := hs1.lt
    have lg2 := hp2.lt
    have z1 := b1.size
    have z2 := b2.size
    refine ⟨g2, rfl, ?_⟩
    refine (start_any w.heap.size g1 tb1 server 5 ss sv0 w2 hs2 (by decide) (by decide)).mono ?_
    rintro e w3 ⟨v, rfl, D1, k1, d1, hv, o1, G3, hs3, _⟩
    rw [ex_s1] at o1 hs3 hv
    injection hv with hv
    subst hv
    obtain ⟨E, m, f, kb2, _⟩ := hs2.blk
    have hp3 := hp2.beside kb2 (by omega) G3
    have B3 := below_row B2 G3 (by omega)
    obtain ⟨V3, hV3⟩ : ∃ V3, w3.alloc (.cells #[.int .i64 1, .int .i64 1, .slice D1 k1 d1] 24) = V3 := ⟨_, rfl⟩
    have bV3 : Below w3.heap.size w3 V3 := by rw [← hV3]; exact (Below.refl _ _).alloc (Nat.le_refl _) _
    have nV3 : Blk V3 w3.heap.size 24 [.int .i64 1, .int .i64 1, .slice D1 k1 d1] := by rw [← hV3]; exact heap_alloc_new w3 _
    have BV3 := step_to B3 bV3
    have rV1 := own_rd (o1.later bV3)
    have hsV3 := hs3.later bV3
    have hpV3 := hp3.later bV3
    have z3 := G3.size
    have zV3 := bV3.size
    refine ⟨D1, k1, d1, rfl, V3, hV3, nV3, ?_⟩
    have ea : ptE 1 1 [1] = 0 ∧ paS mm name 0 1 [1] = 1 ∧ paL mm name 1 1 [1] = dtL 2 1 [] name := by
      refine ⟨by decide, ?_, ?_⟩
      · unfold paS
        rw [if_pos rfl, if_pos (by decide)]
      · unfold paL
        rw [if_pos rfl, if_pos (by decide)]
    have PT := ptake_any w1.heap.size g2 tb2 name mm 0 ⟨#[]⟩ 1 1 D1 k1 d1 V3.heap.size [1] V3 hpV3 (name_le hnm) rV1.1 (Nat.le_refl _) (by rw [← rV1.1.1]; decide) ea.1
    rw [ea.2.1, ea.2.2] at PT
    refine PT.mono ?_
    rintro e w4 ⟨Db, kb, db, rfl, o2, G4, hp4⟩
    have hs4 := hsV3.beside hpV3.blk (by omega) G4
    have B4 := below_row BV3 G4 (by omega)
    obtain ⟨V4, hV4⟩ : ∃ V4, w4.alloc (.cells #[.int .i64 2, .int .i64 1, .slice Db kb db] 24) = V4 := ⟨_, rfl⟩
    have bV4 : Below w4.heap.size w4 V4 := by rw [← hV4]; exact (Below.refl _ _).alloc (Nat.le_refl _) _
    have nV4 : Blk V4 w4.heap.size 24 [.int .i64 2, .int .i64 1, .slice Db kb db] := by rw [← hV4]; exact heap_alloc_new w4 _
    have BV4 := step_to B4 bV4
    have hsV4 := hs4.later bV4
    have hpV4 := hp4.later bV4
    have z4' := G4.size
    have z4'' := bV4.size
    exact ⟨Db, kb, db, rfl, V4, hV4, (awake_any V4 hsV4.tk hsV4.ts).mono fun e w' hh => ⟨hh.1, step_to BV4 hh.2⟩⟩
  have way : ((n4 : Int) < 1) ∨ (¬ (n4 : Int) < 1 ∧ (255 : Int) < (n4 : Int)) ∨ (¬ (n4 : Int) < 1 ∧ ¬ (255 : Int) < (n4 : Int) ∧ (n5 : Int) < 1) ∨ (¬ (n4 : Int) < 1 ∧ ¬ (255 : Int) < (n4 : Int) ∧ ¬ (n5 : Int) < 1 ∧ (255 : Int) < (n5 : Int)) := by omega
  clear hs hm hr4 z4 hr5 z5 hK hS hn0 hn1 hsv hck hnm hmk hbad
  rcases way with f1 | ⟨f1, f2⟩ | ⟨f1, f2, f3⟩ | ⟨f1, f2, f3, f4⟩
  all_goals
    go_enter Tryd.func5, Tryd.ntmps5
    go_wp2_with (first
      | (go_at_call 19; ((with_reducible refine C0.out.mono ?_); rintro e w1 ⟨g1, rfl, n1⟩; have C1 := Lib.hid n1; clear n1))
      | (go_at_call 27; ((with_reducible refine C1.out.mono ?_); rintro e w2 ⟨g2, rfl, n1⟩; have C2 := Lib.hid n1; clear n1))
      | (go_at_call 20; ((with_reducible refine C2.out.mono ?_); rintro e w3 ⟨D1, k1, d1, rfl, V3, hV3, p3, n1⟩; have HV3 := Lib.hid hV3; have a0 := p3.cell 0; have a1 := p3.cell 1; have a2 := p3.cell 2; have C3 := Lib.hid n1; clear hV3 p3 n1))
      | (rw [HV3.out])
      | (go_at_call 28; ((with_reducible refine C3.out.mono ?_); rintro e w4 ⟨Db, kb, db, rfl, V4, hV4, n1⟩; have HV4 := Lib.hid hV4; have C4 := Lib.hid n1; clear hV4 n1))
      | (rw [HV4.out])
      | (go_at_call 18; ((with_reducible refine C4.out.mono ?_); rintro e w9 ⟨rfl, b4⟩; have F := Lib.hid b4; clear b4)))
    go_ret
    exact ⟨rfl, F.out⟩
end Go.Proofs.YtjimoegegigoiaaDoor
namespace Go.Proofs.YtjimoegegigoiaaDoor
open Go.RowKit Go.Shelf
set_option maxRecDepth 100000
set_option maxHeartbeats 2000000
set_option linter.unusedSimpArgs false
set_option linter.unusedVariables false

def MidC (w V : World) (lo1 g1 tb1 lo2 g2 tb2 : Nat) (name server : ByteArray) (ss mm : List Sec) (i : Int) (ch : List UInt8) (who no : ByteArray) (D1 : Option Addr) (k1 d1 : Nat) : Prop :=
  Calls Tryd.prog 28 #[.pointer (some ⟨g2, 0, none⟩), .agg #[.int .i64 1, .int .i64 i, .slice D1 k1 d1]] V fun e w2 => ∃ D2 k2 d2, e = .returned (.tuple #[.agg #[.int .i64 2, .int .i64 i, .slice D2 k2 d2], .bool true, .int .i64 0]) ∧ ∃ V2, w2.alloc (.cells #[.int .i64 2, .int .i64 i, .slice D2 k2 d2] 24) = V2 ∧ Blk V2 w2.heap.size 24 [.int .i64 2, .int .i64 i, .slice D2 k2 d2] ∧
      Calls Tryd.prog 21 #[.pointer (some ⟨g1, 0, none⟩), .agg #[.int .i64 2, .int .i64 i, .slice D2 k2 d2], .slice none 0 0] V2 fun e w3 => ∃ C3 D3 k3 d3, e = .returned (.tuple #[.agg #[.int .i64 C3, .int .i64 i, .slice D3 k3 d3], .bool true, .int .i64 0]) ∧ ∃ V3, w3.alloc (.cells #[.int .i64 C3, .int .i64 i, .slice D3 k3 d3] 24) = V3 ∧ Blk V3 w3.heap.size 24 [.int .i64 C3, .int .i64 i, .slice D3 k3 d3] ∧
      Calls Tryd.prog 28 #[.pointer (some ⟨g2, 0, none⟩), .agg #[.int .i64 C3, .int .i64 i, .slice D3 k3 d3]] V3 fun e w4 => ∃ v okk, e = .returned (.tuple #[v, .bool okk, .int .i64 0]) ∧ Blk w4 w2.heap.size 24 [.int .i64 2, .int .i64 i, .slice D2 k2 d2] ∧ (∀ q t cs, Blk V q t cs → t ≠ 95 → t ≠ 102 → Blk w4 q t cs) ∧ ∃ z st2 L2, MidE w w4 lo1 g1 tb1 lo2 g2 tb2 name server ss mm i ch who no D2 k2 d2 z st2 L2
theorem MeetI.names {w W : World} {lo1 g1 tb1 lo2 g2 tb2 bb xb yb : Nat} {name server wx wy : ByteArray} {ss mm : List Sec} {s : SvS} {st i : Int} {L : List UInt8} (h : MeetI w W lo1 g1 tb1 lo2 g2 tb2 bb xb yb name server wx wy ss mm s st i L) : w.heap.size ≤ g1 ∧ w.heap.size ≤ g2 := by
  obtain ⟨no, hp⟩ := h.pv
  obtain ⟨A, n, c, mb, h1, h2, _⟩ := hp.tab
  have := h.glo
  have := h.lt
  omega
theorem round0_none (w W : World) (lo1 g1 tb1 lo2 g2 tb2 bb xb yb : Nat) (name server wx wy : ByteArray) (ss mm : List Sec) (A4 : Option Addr) (n4 c4 : Nat) (one : List UInt8) (hnm : nameB name = true) (hsv : nameB server = true) (hr4 : Rd w w.heap.size A4 n4 one) (z4 : A4 = none → c4 = 0) (h41 : 1 ≤ n4) (h42 : n4 ≤ 255) (h : MeetI w W lo1 g1 tb1 lo2 g2 tb2 bb xb yb name server wx wy ss mm s1 1 1 (dtL 2 1 [] name)) (hx : wdB ss (bst ss name server) = false) : ∃ Db kb db x1 x2 Ex mx kx y, Blk W bb 24 [.int .i64 2, .int .i64 1, .slice Db kb db] ∧ Blk W xb 50 [.string x1, .string x2, .string wx, .slice Ex mx kx] ∧
    Calls Tryd.prog 21 #[.pointer (some ⟨g1, 0, none⟩), .agg #[.int .i64 2, .int .i64 1, .slice Db kb db], .slice A4 n4 c4] W fun e w1 => ∃ D1 k1 d1, e = .returned (.tuple #[.agg #[.int .i64 4, .int .i64 y, .slice D1 k1 d1], .bool true, .int .i64 0]) ∧ ∃ V1, w1.alloc (.cells #[.int .i64 4, .int .i64 y, .slice D1 k1 d1] 24) = V1 ∧ Blk V1 w1.heap.size 24 [.int .i64 4, .int .i64 y, .slice D1 k1 d1] ∧ Blk V1 xb 50 [.string x1, .string x2, .string wx, .slice Ex mx kx] ∧
      (Calls Tryd.prog 24 #[.pointer (some ⟨g1, 0, none⟩)] V1 fun e w' => e = .returned (.int .i64 4) ∧ V1 = w') ∧ Calls Tryd.prog 18 #[] V1 fun e w' => e = .returned (.bool true) ∧ Below w.heap.size w w' := by
  obtain ⟨Db, kb, db, nb, ob⟩ := h.bk
  obtain ⟨x1, x2, Ex, mx, kx, nx⟩ := h.xk
  obtain ⟨y1, y2, Ey, my, ky, ny⟩ := h.yk
  obtain ⟨no, hp⟩ := h.pv
  have hnn := h.names
  have rb := own_rd ob
  have hcl := hr4.1
  have hlp : (dtL 2 1 [] name).length = 1 + name.size := by
    unfold dtL
    rw [if_neg (by decide), if_pos rfl, List.length_append]
    have : name.data.toList.length = name.size := Array.length_toList
    rw [this]
    rfl
  have hn64 := name_le hnm
  have ST := stake_any lo1 g1 tb1 server 5 ss s1 1 Db kb db W.heap.size (dtL 2 1 [] name) A4 n4 c4 w.heap.size one W h.sv ⟨by decide, by decide, by decide⟩ (name_le hsv) rb.1 (Nat.le_refl _) (by rw [← rb.1.1, hlp]; omega) (hr4.below h.bel) h.bel.size z4 (fun e => absurd e (by decide)) (pr_one name).1
  obtain ⟨t1, t2⟩ := pr_no ss name server n4 one (by
    intro hc
    have := hc.1
    unfold knB at this
    rw [hx] at this
    cases this)
  rw [t1, t2] at ST
  refine ⟨Db, kb, db, x1, x2, Ex, mx, kx, tkI ss server s1 (dtL 2 1 [] name) n4, nb, nx, ST.mono ?_⟩
  rintro e w1 ⟨D1, k1, d1, rfl, o1, G1, hs1⟩
  obtain ⟨E9, m9, f9, kb9, _⟩ := h.sv.blk
  have B1 := below_row h.bel G1 hnn.1
  have bA : Below w1.heap.size w1 (w1.alloc (.cells #[.int .i64 4, .int .i64 (tkI ss server s1 (dtL 2 1 [] name) n4), .slice D1 k1 d1] 24)) := (Below.refl _ _).alloc (Nat.le_refl _) _
  have hsA := hs1.later bA
  have BA := step_to B1 bA
  exact ⟨D1, k1, d1, rfl, _, rfl, heap_alloc_new w1 _, past_same (blk_off nx G1 (blk_apart nx kb9 (by decide))) bA, sstate_any _ _ _ _ _ _ _ _ hsA, (awake_any _ hsA.tk hsA.ts).mono fun e w' hh => ⟨hh.1, step_to BA hh.2⟩⟩
theorem round0_some (w W : World) (lo1 g1 tb1 lo2 g2 tb2 bb xb yb : Nat) (name server wx wy : ByteArray) (ss mm : List Sec) (A4 : Option Addr) (n4 c4 : Nat) (one : List UInt8) (hnm : nameB name = true) (hsv : nameB server = true) (hr4 : Rd w w.heap.size A4 n4 one) (z4 : A4 = none → c4 = 0) (h41 : 1 ≤ n4) (h42 : n4 ≤ 255) (h : MeetI w W lo1 g1 tb1 lo2 g2 tb2 bb xb yb name server wx wy ss mm s1 1 1 (dtL 2 1 [] name)) (hx : wdB ss (bst ss name server) = true) : ∃ Db kb db x1 x2 Ex mx kx y1 y2 Ey my ky, Blk W bb 24 [.int .i64 2, .int .i64 1, .slice Db kb db] ∧
    Calls Tryd.prog 21 #[.pointer (some ⟨g1, 0, none⟩), .agg #[.int .i64 2, .int .i64 1, .slice Db kb db], .slice A4 n4 c4] W fun e w1 => ∃ D1 k1 d1, e = .returned (.tuple #[.agg #[.int .i64 1, .int .i64 2, .slice D1 k1 d1], .bool true, .int .i64 0]) ∧ ∃ V1, w1.alloc (.cells #[.int .i64 1, .int .i64 2, .slice D1 k1 d1] 24) = V1 ∧ Blk V1 w1.heap.size 24 [.int .i64 1, .int .i64 2, .slice D1 k1 d1] ∧ Blk V1 xb 50 [.string x1, .string x2, .string wx, .slice Ex mx kx] ∧ Blk V1 yb 50 [.string y1, .string y2, .string wy, .slice Ey my ky] ∧ Blk V1 bb 24 [.int .i64 2, .int .i64 1, .slice Db kb db] ∧
      ∃ no, MidC w V1 lo1 g1 tb1 lo2 g2 tb2 name server ss mm 2 one ⟨#[]⟩ no D1 k1 d1 := by
  obtain ⟨Db, kb, db, nb, ob⟩ := h.bk
  obtain ⟨x1, x2, Ex, mx, kx, nx⟩ := h.xk
  obtain ⟨y1, y2, Ey, my, ky, ny⟩ := h.yk
  obtain ⟨no, hp⟩ := h.pv
  have hnn := h.names
  have rb := own_rd ob
  have hcl := hr4.1
  have hlp : (dtL 2 1 [] name).length = 1 + name.size := by
    unfold dtL
    rw [if_neg (by decide), if_pos rfl, List.length_append]
    have : name.data.toList.length = name.size := Array.length_toList
    rw [this]
    rfl
  have hn64 := name_le hnm
  have ST := stake_any lo1 g1 tb1 server 5 ss s1 1 Db kb db W.heap.size (dtL 2 1 [] name) A4 n4 c4 w.heap.size one W h.sv ⟨by decide, by decide, by decide⟩ (name_le hsv) rb.1 (Nat.le_refl _) (by rw [← rb.1.1, hlp]; omega) (hr4.below h.bel) h.bel.size z4 (fun e => absurd e (by decide)) (pr_one name).1
  have hk : knB ss server name = true := by
    unfold knB
    rw [hx, hnm]
    rfl
  have hc : chB n4 = true := by
    unfold chB
    rw [decide_eq_true (by omega), decide_eq_true (by omega)]
    rfl
  obtain ⟨t1, t2, t3⟩ := pr_yes ss name server n4 one hk hc
  have hA : tkA ss server s1 (dtL 2 1 [] name) n4 = true := by
    obtain ⟨_, q2, q3⟩ := pr_one name
    unfold tkA
    rw [q2]
    exact decide_eq_true ⟨q3, rfl, hk, hc⟩
  have t4 : tkL ss server s1 (dtL 2 1 [] name) n4 one = dtL 1 4 one server := by unfold tkL; rw [if_pos hA]
  rw [t1, t2, t3, t4] at ST
  refine ⟨Db, kb, db, x1, x2, Ex, mx, kx, y1, y2, Ey, my, ky, nb, ST.mono ?_⟩
  rintro e w1 ⟨D1, k1, d1, rfl, o1, G1, hs1⟩
  obtain ⟨E9, m9, f9, kb9, _⟩ := h.sv.blk
  have B1 := below_row h.bel G1 hnn.1
  have hp1 := hp.beside kb9 h.lt G1
  obtain ⟨V1, hV1⟩ : ∃ V1, w1.alloc (.cells #[.int .i64 1, .int .i64 2, .slice D1 k1 d1] 24) = V1 := ⟨_, rfl⟩
  have bA : Below w1.heap.size w1 V1 := by rw [← hV1]; exact (Below.refl _ _).alloc (Nat.le_refl _) _
  have nV1 : Blk V1 w1.heap.size 24 [.int .i64 1, .int .i64 2, .slice D1 k1 d1] := by rw [← hV1]; exact heap_alloc_new w1 _
  have keep : ∀ q t cs, Blk W q t cs → t ≠ 95 → Blk V1 q t cs := fun q t cs hq ht => past_same (blk_off hq G1 (blk_apart hq kb9 ht)) bA
  refine ⟨D1, k1, d1, rfl, V1, hV1, nV1, keep _ _ _ nx (by decide), keep _ _ _ ny (by decide), keep _ _ _ nb (by decide), no, ?_⟩
  exact mid_c w V1 lo1 g1 tb1 lo2 g2 tb2 name server ss mm 2 1 one ⟨#[]⟩ no D1 k1 d1 (step_to B1 bA) hnn.1 h.lt (hs1.later bA) (hp1.later bA) (eown_wide (o1.later bA) (Nat.zero_le _)) (by decide) (by omega) (by omega) hn64 (name_le hsv) hx
/-- the proof comes once more, which nobody asked for; the next round's beginning -/
theorem meet_next {w W4 : World} {lo1 g1 tb1 lo2 g2 tb2 bb xb yb dq : Nat} {name server wx wy : ByteArray} {ss mm : List Sec} {one : List UInt8} {no : ByteArray} {D2 Db : Option Addr} {k2 d2 kb db : Nat} {st2 : Int} {L2 : List UInt8} {x1 x2 y1 y2 : ByteArray} {Ex Ey : Option Addr} {mx kx my ky : Nat} (h : MidE w W4 lo1 g1 tb1 lo2 g2 tb2 name server ss mm 2 one ⟨#[]⟩ no D2 k2 d2 3 st2 L2) (h3 : st2 = 3)
    (nd : Blk W4 dq 24 [.int .i64 2, .int .i64 2, .slice D2 k2 d2]) (nb : Blk W4 bb 24 [.int .i64 2, .int .i64 1, .slice Db kb db]) (nx : Blk W4 xb 50 [.string x1, .string x2, .string wx, .slice Ex mx kx]) (ny : Blk W4 yb 50 [.string y1, .string y2, .string wy, .slice Ey my ky]) (hg1 : w.heap.size ≤ g1) (hlt : g1 < lo2) (hbg : g2 < bb) (hK : TabK w) (hS : TabS w) :
    Calls Tryd.prog 21 #[.pointer (some ⟨g1, 0, none⟩), .agg #[.int .i64 2, .int .i64 2, .slice D2 k2 d2], .slice none 0 0] W4 fun e w5 => e = .returned (.tuple #[.agg #[.int .i64 0, .int .i64 0, .slice none 0 0], .bool false, .int .i64 9]) ∧ Blk w5 dq 24 [.int .i64 2, .int .i64 2, .slice D2 k2 d2] ∧ Blk w5 bb 24 [.int .i64 2, .int .i64 1, .slice Db kb db] ∧
      MeetI w (((w5.setCell ⟨bb, 0, none⟩ (.int .i64 2)).setCell ⟨bb, 1, none⟩ (.int .i64 2)).setCell ⟨bb, 2, none⟩ (.slice D2 k2 d2)) lo1 g1 tb1 lo2 g2 tb2 bb xb yb name server wx wy ss mm (fnS (sG 2 name server one ⟨#[]⟩) 3 name) 3 2 L2 := by
  subst h3
  have rd := own_rd h.own
  have hsv := h.sv
  rw [if_pos rfl] at hsv
  have TE : tkE (fnS (sG 2 name server one ⟨#[]⟩) 3 name) 2 2 L2 = 9 := tkE_done h.rd rfl
  have ST := stake_no lo1 g1 tb1 server 5 ss (fnS (sG 2 name server one ⟨#[]⟩) 3 name) 2 2 D2 k2 d2 W4.heap.size L2 none 0 0 W4 hsv rd.1 (Nat.le_refl _) (by have := rd.1.1; have := h.len; omega) (by rw [TE]; decide)
  rw [TE] at ST
  refine ST.mono ?_
  rintro e w5 ⟨rfl, b5⟩
  have nb5 := past_same nb b5
  have gg := gset3 w5 bb (.int .i64 2) (.int .i64 2) (.slice D2 k2 d2)
  have hs5 := hsv.later b5
  have hp5 := h.pv.later b5
  obtain ⟨E9, m9, f9, kb9, ob9⟩ := hs5.blk
  have hne1 : bb ≠ g1 := blk_apart nb5 kb9 (by decide)
  have hne2 : bb ≠ g2 := blk_apart nb5 hp5.blk (by decide)
  have hlb : bb < w5.heap.size := Blk.lt nb5
  refine ⟨rfl, past_same nd b5, nb5, ?_⟩
  have hlo2 : lo2 ≤ g2 := by
    obtain ⟨A, n, c, mb, h1, h2, _⟩ := hp5.tab
    omega
  have BX : Below w.heap.size w (((w5.setCell ⟨bb, 0, none⟩ (.int .i64 2)).setCell ⟨bb, 1, none⟩ (.int .i64 2)).setCell ⟨bb, 2, none⟩ (.slice D2 k2 d2)) := below_row (step_to h.bel b5) gg (by omega)
  have oX := (h.own.later b5).grown gg (own_apart (h.own.later b5) nb5 (by decide))
  refine ⟨⟨⟨E9, m9, f9, blk_off kb9 gg (Ne.symm hne1), ob9.grown gg (own_apart ob9 nb5 (by decide))⟩, hs5.tab.same fun i _ hi => gg.block i (Nat.lt_trans hi hs5.lt) (by intro e; injection e with e; omega), hK.kept BX, hS.kept BX⟩, ⟨no, ⟨blk_off hp5.blk gg (Ne.symm hne2), hp5.tab.same fun i _ hi => gg.block i (Nat.lt_trans hi hp5.lt) (by intro e; injection e with e; omega), hK.kept BX, hS.kept BX⟩⟩, ⟨D2, k2, d2, blk3 nb5, oX⟩, ⟨x1, x2, Ex, mx, kx, ?_⟩, ⟨y1, y2, Ey, my, ky, ?_⟩, BX, hg1, hlt, hbg⟩
  · have n5 := past_same nx b5
    exact blk_off n5 gg (blk_apart n5 nb5 (by decide))
  · have n5 := past_same ny b5
    exact blk_off n5 gg (blk_apart n5 nb5 (by decide))
/-- the second round's beginning: the old proof is nobody's; another challenge -/
theorem round1 (w W : World) (lo1 g1 tb1 lo2 g2 tb2 bb xb yb : Nat) (name server wx wy : ByteArray) (ss mm : List Sec) (A5 : Option Addr) (n5 c5 : Nat) (one two L : List UInt8) (hnm : nameB name = true) (hsv : nameB server = true) (hr5 : Rd w w.heap.size A5 n5 two) (z5 : A5 = none → c5 = 0) (h51 : 1 ≤ n5) (h52 : n5 ≤ 255) (A4 : Option Addr) (n4 c4 : Nat) (hK : TabK w) (hS : TabS w) (hrd : rdE 2 2 L = 0) (hlen : L.length ≤ 400)
    (h : MeetI w W lo1 g1 tb1 lo2 g2 tb2 bb xb yb name server wx wy ss mm (fnS (sG 2 name server one ⟨#[]⟩) 3 name) 3 2 L) (hx : wdB ss (bst ss name server) = true) : ∃ Db kb db x1 x2 Ex mx kx y1 y2 Ey my ky, Blk W bb 24 [.int .i64 2, .int .i64 2, .slice Db kb db] ∧
    Calls Tryd.prog 21 #[.pointer (some ⟨g1, 0, none⟩), .agg #[.int .i64 2, .int .i64 2, .slice Db kb db], .slice A4 n4 c4] W fun e w1 => e = .returned (.tuple #[.agg #[.int .i64 0, .int .i64 0, .slice none 0 0], .bool false, .int .i64 9]) ∧ ∃ V1, w1.alloc (.cells #[.int .i64 0, .int .i64 0, .slice none 0 0] 24) = V1 ∧
      Calls Tryd.prog 29 #[.pointer (some ⟨g1, 0, none⟩), .slice A5 n5 c5] V1 fun e w2 => ∃ D1 k1 d1, e = .returned (.tuple #[.agg #[.int .i64 1, .int .i64 3, .slice D1 k1 d1], .int .i64 0]) ∧ Blk w2 w1.heap.size 24 [.int .i64 0, .int .i64 0, .slice none 0 0] ∧ ∃ X, ((w2.setCell ⟨w1.heap.size, 0, none⟩ (.int .i64 1)).setCell ⟨w1.heap.size, 1, none⟩ (.int .i64 3)).setCell ⟨w1.heap.size, 2, none⟩ (.slice D1 k1 d1) = X ∧ Blk X w1.heap.size 24 [.int .i64 1, .int .i64 3, .slice D1 k1 d1] ∧ Blk X xb 50 [.string x1, .string x2, .string wx, .slice Ex mx kx] ∧ Blk X yb 50 [.string y1, .string y2, .string wy, .slice Ey my ky] ∧ ∃ no, MidC w X lo1 g1 tb1 lo2 g2 tb2 name server ss mm 3 two name no D1 k1 d1 := by
  obtain ⟨Db, kb, db, nb, ob⟩ := h.bk
  obtain ⟨x1, x2, Ex, mx, kx, nx⟩ := h.xk
  obtain ⟨y1, y2, Ey, my, ky, ny⟩ := h.yk
  obtain ⟨no, hp⟩ := h.pv
  have hnn := h.names
  have rb := own_rd ob
  have hcl := hr5.1
  have hn64 := name_le hnm
  have hlo2 : lo2 ≤ g2 := by
    obtain ⟨A, n, c, mb, h1, h2, _⟩ := hp.tab
    omega
  have hltg := h.lt
  have TE : tkE (fnS (sG 2 name server one ⟨#[]⟩) 3 name) 2 2 L = 9 := tkE_done hrd rfl
  have ST := stake_no lo1 g1 tb1 server 5 ss (fnS (sG 2 name server one ⟨#[]⟩) 3 name) 2 2 Db kb db W.heap.size L A4 n4 c4 W h.sv rb.1 (Nat.le_refl _) (by have := rb.1.1; omega) (by rw [TE]; decide)
  rw [TE] at ST
  refine ⟨Db, kb, db, x1, x2, Ex, mx, kx, y1, y2, Ey, my, ky, nb, ST.mono ?_⟩
  rintro e w1 ⟨rfl, b1⟩
  obtain ⟨V1, hV1⟩ : ∃ V1, w1.alloc (.cells #[.int .i64 0, .int .i64 0, .slice none 0 0] 24) = V1 := ⟨_, rfl⟩
  have bA : Below w1.heap.size w1 V1 := by rw [← hV1]; exact (Below.refl _ _).alloc (Nat.le_refl _) _
  have nV1 : Blk V1 w1.heap.size 24 [.int .i64 0, .int .i64 0, .slice none 0 0] := by rw [← hV1]; exact heap_alloc_new w1 _
  have b01 := step_to b1 bA
  have BV1 := step_to h.bel b01
  have hs1 := h.sv.later b01
  have hp1 := hp.later b01
  have zb := b1.size
  refine ⟨rfl, V1, hV1, ?_⟩
  have hc : chB n5 = true := by
    unfold chB
    rw [decide_eq_true (by omega), decide_eq_true (by omega)]
    rfl
  have PR := sprove_ok lo1 g1 tb1 server 5 ss (fnS (sG 2 name server one ⟨#[]⟩) 3 name) A5 n5 c5 w.heap.size two V1 hs1 ⟨show (0 : Int) ≤ 2 by decide, show (2 : Int) ≤ 255 by decide, show name.size ≤ maxLen by unfold maxLen; omega⟩ rfl (hr5.below BV1) BV1.size z5 hc (name_le hsv)
  have hS' : askS (fnS (sG 2 name server one ⟨#[]⟩) 3 name) 2 (dtL 1 4 two server) = sG 3 name server two name := rfl
  rw [hS'] at PR
  refine PR.mono ?_
  rintro e w2 ⟨v, rfl, D1, k1, d1, hv, o1, G2, hs2, _⟩
  injection hv with hv
  subst hv
  obtain ⟨E9, m9, f9, kb9, _⟩ := hs1.blk
  have hp2 := hp1.beside kb9 h.lt G2
  have hg1w : g1 < w1.heap.size := Nat.lt_of_lt_of_le h.sv.lt zb
  have hg2w : g2 < w1.heap.size := Nat.lt_of_lt_of_le hp.lt zb
  have n2 := blk_off nV1 G2 (by omega)
  have gg := gset3 w2 w1.heap.size (.int .i64 1) (.int .i64 3) (.slice D1 k1 d1)
  have B2 := below_row BV1 G2 hnn.1
  have hW1 : w.heap.size ≤ w1.heap.size := Nat.le_trans h.bel.size zb
  refine ⟨D1, k1, d1, rfl, n2, _, rfl, blk3 n2, ?_, ?_, no, ?_⟩
  · have q1 := past_same nx b01
    have q2 := blk_off q1 G2 (blk_apart q1 kb9 (by decide))
    exact blk_off q2 gg (blk_apart q2 n2 (by decide))
  · have q1 := past_same ny b01
    have q2 := blk_off q1 G2 (blk_apart q1 kb9 (by decide))
    exact blk_off q2 gg (blk_apart q2 n2 (by decide))
  · have BX := below_row B2 gg hW1
    obtain ⟨E8, m8, f8, kb8, ob8⟩ := hs2.blk
    have hsX : SvAt (((w2.setCell ⟨w1.heap.size, 0, none⟩ (.int .i64 1)).setCell ⟨w1.heap.size, 1, none⟩ (.int .i64 3)).setCell ⟨w1.heap.size, 2, none⟩ (.slice D1 k1 d1)) lo1 g1 tb1 server 5 ss (sG 3 name server two name) :=
      ⟨⟨E8, m8, f8, blk_off kb8 gg (by omega), ob8.grown gg (own_apart ob8 n2 (by decide))⟩, hs2.tab.same fun i _ hi => gg.block i (Nat.lt_trans hi hs2.lt) (by intro e; injection e with e; omega), hK.kept BX, hS.kept BX⟩
    have hpX : PvAt (((w2.setCell ⟨w1.heap.size, 0, none⟩ (.int .i64 1)).setCell ⟨w1.heap.size, 1, none⟩ (.int .i64 3)).setCell ⟨w1.heap.size, 2, none⟩ (.slice D1 k1 d1)) lo2 g2 tb2 name mm 3 no :=
      ⟨blk_off hp2.blk gg (by omega), hp2.tab.same fun i _ hi => gg.block i (Nat.lt_trans hi hp2.lt) (by intro e; injection e with e; omega), hK.kept BX, hS.kept BX⟩
    have oX := o1.grown gg (own_apart o1 n2 (by decide))
    exact mid_c w _ lo1 g1 tb1 lo2 g2 tb2 name server ss mm 3 3 two name no D1 k1 d1 BX hnn.1 h.lt hsX hpX (eown_wide oX (Nat.zero_le _)) (by decide) (by omega) (by omega) hn64 (name_le hsv) hx
end Go.Proofs.YtjimoegegigoiaaDoor
namespace Go.Proofs.YtjimoegegigoiaaDoor
open Go.RowKit Go.Shelf
set_option maxRecDepth 100000
set_option maxHeartbeats 4000000
set_option linter.unusedSimpArgs false
set_option linter.unusedVariables false

def MeetK (w : World) (lo1 g1 tb1 lo2 g2 tb2 bb xb yb : Nat) (name server wx wy : ByteArray) (ss mm : List Sec) (A4 : Option Addr) (n4 c4 : Nat) (A5 : Option Addr) (n5 c5 : Nat) (one : List UInt8) (k : Int) (v : Value) (W : World) : Prop :=
  (k = 0 → v = .slice A4 n4 c4 ∧ MeetI w W lo1 g1 tb1 lo2 g2 tb2 bb xb yb name server wx wy ss mm s1 1 1 (dtL 2 1 [] name)) ∧
  (k = 1 → v = .slice A5 n5 c5 ∧ (wdB ss (bst ss name server) = true ∧ wy = wx) ∧ ∃ L, rdE 2 2 L = 0 ∧ L.length ≤ 400 ∧ MeetI w W lo1 g1 tb1 lo2 g2 tb2 bb xb yb name server wx wy ss mm (fnS (sG 2 name server one ⟨#[]⟩) 3 name) 3 2 L) ∧
  (k = 2 → Below w.heap.size w W)
theorem wd_none {ss : List Sec} {o : Option Nat} (h : wdB ss o = false) : (wdS ss o).toList.isEmpty = true := by
  unfold wdB at h
  exact str_nil (by simpa using h)
theorem wd_some {ss : List Sec} {o : Option Nat} (h : wdB ss o = true) : (wdS ss o).toList.isEmpty = false := by
  unfold wdB at h
  exact str_ne (by simpa using h)
theorem find_pre (name server : ByteArray) (A2 : Option Addr) (n2 c2 : Nat) (ss : List Sec) (w V : World) (hs : SecRd w w.heap.size A2 n2 ss) (hb : Below w.heap.size w V) : Calls Tryd.prog 22 #[.slice A2 n2 c2, .string name, .string server] V fun e w5 => ∃ a1 a2 E m k b, e = .returned (.tuple #[.agg #[.string a1, .string a2, .string (wdS ss (bst ss name server)), .slice E m k], .bool b]) ∧ Below V.heap.size V w5 := by
  refine (rfind_any A2 n2 c2 w.heap.size ss name server V (hs.below hb (Nat.le_refl _)) hb.size).mono ?_
  intro e w5 hf
  exact rfindR_box hf
end Go.Proofs.YtjimoegegigoiaaDoor
