/-
  pap.ReadRequest.
-/
import Derived.Test.YtglboagjmbjehaaPaRead
import Derived.RegionTactic
import Derived.ChangeAlike
namespace Go.Proofs.Ytglboagjmbjehaa
open Go.RowKit Go.Shelf
set_option maxRecDepth 100000
set_option maxHeartbeats 4000000
set_option linter.unusedSimpArgs false
set_option linter.unusedVariables false

/-- what is wrong of a request -/
def rqE (code id : Int) (l : List UInt8) : Int := if mustE id code [1] = 0 then parE 2 l else mustE id code [1]
/-- the words of a request -/
def rqS (code id : Int) (l : List UInt8) (i : Nat) : ByteArray := if rqE code id l = 0 then (prs 2 l).1.getD i ⟨#[]⟩ else ⟨#[]⟩
/-- two cells have been written, and new blocks -/
structure Wr2 (W w' : World) (p1 p2 : Nat) (a b : ByteArray) : Prop where
  os : w'.os = W.os
  tape : w'.tape = W.tape
  output : w'.output = W.output
  size : W.heap.size ≤ w'.heap.size
  block : ∀ i, i < W.heap.size → i ≠ p1 → i ≠ p2 → w'.heap[i]? = W.heap[i]?
  b1 : Blk w' p1 9 [.string a]
  b2 : Blk w' p2 9 [.string b]
theorem Wr2.below {W w' : World} {p1 p2 : Nat} {a b : ByteArray} (h : Wr2 W w' p1 p2 a b) {B : Nat} (h1 : B ≤ p1) (h2 : B ≤ p2) (hB : B ≤ W.heap.size) : Below B W w' := ⟨h.os, h.tape, h.output, h.size, fun i hi => h.block i (by omega) (by omega) (by omega)⟩
theorem Wr2.drew {W w' : World} {p1 p2 : Nat} {a b : ByteArray} (h : Wr2 W w' p1 p2 a b) (n : Nat) : Wr2 W (w'.drewN n) p1 p2 a b := ⟨h.os, h.tape, h.output, h.size, h.block, h.b1, h.b2⟩
def RqR (W : World) (p1 p2 : Nat) (code id : Int) (l : List UInt8) (e : Ending) (w' : World) : Prop :=
  Wr2 W w' p1 p2 (rqS code id l 0) (rqS code id l 1) ∧ ((rqE code id l = 0 ∧ e = .returned (.tuple #[])) ∨ (rqE code id l ≠ 0 ∧ e = .panicked (thr (rqE code id l))))
theorem wr2_below {W w' : World} {p1 p2 : Nat} (h1 : Blk W p1 9 [.string ⟨#[]⟩]) (h2 : Blk W p2 9 [.string ⟨#[]⟩]) (hB : Below W.heap.size W w') : Wr2 W w' p1 p2 ⟨#[]⟩ ⟨#[]⟩ :=
  ⟨hB.os, hB.tape, hB.output, hB.size, fun i hi _ _ => hB.block i hi, (hB.block _ (Blk.lt h1)).trans h1, (hB.block _ (Blk.lt h2)).trans h2⟩
theorem rq1_any (p0 p1 p2 : Nat) (code id : Int) (D : Option Addr) (k d B : Nat) (l : List UInt8) (W : World) (h0 : Blk W p0 38 [.int .i64 code, .int .i64 id, .slice D k d]) (h1 : Blk W p1 9 [.string ⟨#[]⟩]) (h2 : Blk W p2 9 [.string ⟨#[]⟩]) (h12 : p1 ≠ p2)
    (hr : Rd W B D k l) (hB : B ≤ W.heap.size) (hkd : k ≤ d) (hnil : D = none → d = 0) :
    Calls Try.prog 51 #[.pointer (some ⟨p0, 0, none⟩), .pointer (some ⟨p1, 0, none⟩), .pointer (some ⟨p2, 0, none⟩)] W (RqR W p1 p2 code id l) := by
  have z0 := Blk.lt h0
  have z1 := Blk.lt h1
  have z2 := Blk.lt h2
  obtain ⟨V, hV⟩ : ∃ V, W.alloc (.cells #[.int .i64 1] 3) = V := ⟨_, rfl⟩
  have hBV : Below W.heap.size W V := by rw [← hV]; exact (Below.refl _ _).alloc (Nat.le_refl _) _
  have hnew : Blk V W.heap.size 3 [.int .i64 1] := by rw [← hV]; exact heap_alloc_new W _
  have zV := hBV.size
  have had : AdRd V V.heap.size (some ⟨W.heap.size, 0, none⟩) 1 1 [1] := by
    refine ⟨rfl, Nat.le_refl _, fun e => (by cases e), by omega, fun _ => ⟨W.heap.size, 0, rfl, Blk.lt hnew, fun i z hz => ?_⟩⟩
    match i, hz with
    | 0, hz => rw [show z = 1 from by simpa using hz.symm]; exact hnew.cell 0
    | i + 1, hz => simp at hz
  have MB := mustBe_any code id D k d (some ⟨W.heap.size, 0, none⟩) 1 1 V.heap.size [1] V had (Nat.le_refl _)
  have c0 : W.cell? ⟨p0, 0, none⟩ = some (.int .i64 code) := h0.cell 0
  have c1 : W.cell? ⟨p0, 1, none⟩ = some (.int .i64 id) := h0.cell 1
  have c2 : W.cell? ⟨p0, 2, none⟩ = some (.slice D k d) := h0.cell 2
  have HV := Lib.hid hV
  by_cases hm : mustE id code [1] = 0
  · have hrq : rqE code id l = parE 2 l := by unfold rqE; rw [if_pos hm]
    have C : Hid (Calls Try.prog 52 #[.agg #[.int .i64 code, .int .i64 id, .slice D k d], .slice (some ⟨W.heap.size, 0, none⟩) 1 1] V fun e w1 => e = .returned (.tuple #[]) ∧ w1.cell? ⟨p0, 2, none⟩ = some (.slice D k d) ∧
        Calls Try.prog 53 #[.slice D k d, .int .i64 2] w1 fun e w2 => Below W.heap.size W w2 ∧ ((parE 2 l = 0 ∧ ∃ g d' a b, e = .returned (.slice (some ⟨g, 0, none⟩) 2 d') ∧ W.heap.size ≤ g ∧ g < w2.heap.size ∧ w2.cell? ⟨g, 0, none⟩ = some (.string a) ∧ w2.cell? ⟨g, 1, none⟩ = some (.string b) ∧ a = rqS code id l 0 ∧ b = rqS code id l 1) ∨ (parE 2 l ≠ 0 ∧ e = .panicked (thr (parE 2 l))))) := by
      refine MB.mono ?_
      rintro e w1 ⟨b1, ⟨-, rfl⟩ | ⟨h, -⟩⟩
      · have hb1 : Below W.heap.size W w1 := hBV.trans (b1.mono zV)
        have zw := hb1.size
        refine ⟨rfl, Blk.cell (show Blk w1 p0 38 _ from (hb1.block _ z0).trans h0) 2, (parts_any D 2 k d B l w1 (hr.below (hb1.mono hB)) (by omega) hkd hnil (by omega)).mono ?_⟩
        rintro e w2 ⟨b2, ⟨hp, D', d', rfl, ho, hl⟩ | ⟨hp, rfl⟩⟩
        · refine ⟨hb1.trans (b2.mono zw), .inl ⟨hp, ?_⟩⟩
          rcases ho.2 with ⟨e, h0'⟩ | ⟨g, cap, cur, e, hg, hgg, _⟩
          · rw [hl] at h0'; cases h0'
          · injection e with e1 e2 e3
            subst e1
            have hrs : rqE code id l = 0 := by rw [hrq, hp]
            have ge : ∀ i, i < 2 → (prs 2 l).1[i]? = some (rqS code id l i) := fun i hi => by
              unfold rqS
              rw [if_pos hrs, List.getD_eq_getElem?_getD, List.getElem?_eq_getElem (by omega)]
              rfl
            exact ⟨g, d', _, _, rfl, by omega, (Array.getElem?_eq_some_iff.1 hgg).1, ho.cell 0 _ (ge 0 (by omega)), ho.cell 1 _ (ge 1 (by omega)), rfl, rfl⟩
        · exact ⟨hb1.trans (b2.mono zw), .inr ⟨hp, rfl⟩⟩
      · exact absurd hm h
    have H1 := Lib.hid h1
    have H2 := Lib.hid h2
    have HRQ := Lib.hid hrq
    clear MB had hnew hBV hV h0 h1 h2 hr hm hrq
    go_enter Try.func51, Try.ntmps51
    go_upto_region 1 with (first
      | (rw [HV.out])
      | (go_at_call 52; ((with_reducible refine C.out.mono ?_); rintro e w1 ⟨rfl, q2, n1⟩; have C1 := Lib.hid n1; clear n1)))
    go_wp2_with fail
    refine C1.out.mono ?_
    rintro e w2 ⟨hb2, ⟨hp, g, d', a, b, rfl, hg1, hg2, x0, x1, ha, hb⟩ | ⟨hp, rfl⟩⟩
    · have hk1 : Blk w2 p1 9 [.string ⟨#[]⟩] := (hb2.block _ z1).trans H1.out
      have hk2 : Blk w2 p2 9 [.string ⟨#[]⟩] := (hb2.block _ z2).trans H2.out
      have y1 := hk1.cell 0
      have y2 := hk2.cell 0
      have f1 := hk1.frozen 0
      have f2 := hk2.frozen 0
      have n1 : g ≠ p1 := by omega
      have n2 : g ≠ p2 := by omega
      have s1 : p1 < w2.heap.size := Blk.lt hk1
      have s2 : p2 < w2.heap.size := Blk.lt hk2
      have RES : Hid (∀ n, RqR W p1 p2 code id l (.returned (.tuple #[])) (((w2.setCell ⟨p1, 0, none⟩ (.string a)).setCell ⟨p2, 0, none⟩ (.string b)).drewN n)) := by
        intro n
        have hs1 : w2.grownBy (w2.setCell ⟨p1, 0, none⟩ (.string a)) (some p1) := gset' _ _ _ _
        have hs2 : (w2.setCell ⟨p1, 0, none⟩ (.string a)).grownBy ((w2.setCell ⟨p1, 0, none⟩ (.string a)).setCell ⟨p2, 0, none⟩ (.string b)) (some p2) := gset' _ _ _ _
        have t1 := hs1.size
        have t2 := hs2.size
        have tb := hb2.size
        refine ⟨Wr2.drew ⟨hs2.os.trans (hs1.os.trans hb2.os), hs2.tape.trans (hs1.tape.trans hb2.tape), hs2.output.trans (hs1.output.trans hb2.output), by omega, fun i hi e1 e2 => ?_, ?_, ?_⟩ n, .inl ⟨by rw [HRQ.out]; exact hp, rfl⟩⟩
        · rw [hs2.block i (by omega) (by intro e; injection e with e; exact e2 e), hs1.block i (by omega) (by intro e; injection e with e; exact e1 e), hb2.block i hi]
        · rw [← ha]
          exact (hs2.block p1 (by omega) (by intro e; injection e with e; exact h12 e)).trans (hk1.set_ 0 _)
        · rw [← hb]
          exact Blk.set_ (show Blk (w2.setCell ⟨p1, 0, none⟩ (.string a)) p2 9 _ from (hs1.block p2 (by omega) (by intro e; injection e with e; exact h12 e.symm)).trans hk2) 0 _
      clear C C1 hk1 hk2 hb2 ha hb
      go_wp2
      go_region
      all_goals
        go_wp2
        go_end0
        first | exact RES.out 1 | exact RES.out 0
    · have RES : Hid (RqR W p1 p2 code id l (.panicked (thr (parE 2 l))) w2) := by
        have hne : rqE code id l ≠ 0 := by rw [HRQ.out]; exact hp
        refine ⟨?_, .inr ⟨hne, by rw [HRQ.out]⟩⟩
        unfold rqS
        rw [if_neg hne, if_neg hne]
        exact wr2_below H1.out H2.out hb2
      unfold thr at RES
      unfold thr
      clear C C1 hb2
      go_wp2
      exact ⟨rfl, RES.out⟩
  · have hrq : rqE code id l = mustE id code [1] := by unfold rqE; rw [if_neg hm]
    have C : Hid (Calls Try.prog 52 #[.agg #[.int .i64 code, .int .i64 id, .slice D k d], .slice (some ⟨W.heap.size, 0, none⟩) 1 1] V fun e w1 => e = .panicked (thr (mustE id code [1])) ∧ RqR W p1 p2 code id l (.panicked (thr (mustE id code [1]))) w1) := by
      refine MB.mono ?_
      rintro e w1 ⟨b1, ⟨h, -⟩ | ⟨-, rfl⟩⟩
      · exact absurd h hm
      · have hne : rqE code id l ≠ 0 := by rw [hrq]; exact hm
        refine ⟨rfl, ?_, .inr ⟨hne, by rw [hrq]⟩⟩
        unfold rqS
        rw [if_neg hne, if_neg hne]
        exact wr2_below h1 h2 (hBV.trans (b1.mono zV))
    unfold thr at C
    clear MB had hnew hBV hV h0 h1 h2 hr hm hrq
    go_enter Try.func51, Try.ntmps51
    go_wp2_with (first
      | (rw [HV.out])
      | (go_at_call 52; ((with_reducible refine C.out.mono ?_); rintro e w1 ⟨rfl, n1⟩; have C1 := Lib.hid n1; clear n1)))
    exact ⟨rfl, C1.out⟩
theorem readRequest_any (code id : Int) (D : Option Addr) (k d B : Nat) (l : List UInt8) (w : World) (hr : Rd w B D k l) (hB : B ≤ w.heap.size) (hkd : k ≤ d) (hnil : D = none → d = 0) :
    Calls Try.prog 36 #[.agg #[.int .i64 code, .int .i64 id, .slice D k d]] w fun e w' => e = .returned (.tuple #[.string (rqS code id l 0), .string (rqS code id l 1), .int .i64 (rqE code id l)]) ∧ Below w.heap.size w w' := by
  have hmf : ∀ (fn : Fn) (first cap : Array Value) (w : World), (Instr.makeFunc fn first cap).run Try.prog w = .ok (.func fn first cap) w := fun _ _ _ _ => rfl
  obtain ⟨V, hV⟩ : ∃ V, ((w.alloc (.cells #[.int .i64 code, .int .i64 id, .slice D k d] 38)).alloc (.cells #[.string ⟨#[]⟩] 9)).alloc (.cells #[.string ⟨#[]⟩] 9) = V := ⟨_, rfl⟩
  have hBV : Below w.heap.size w V := by rw [← hV]; exact (((Below.refl _ _).alloc (Nat.le_refl _) _).alloc (by simp) _).alloc (by simp; omega) _
  have zV : V.heap.size = w.heap.size + 3 := by rw [← hV]; simp
  have h0 : Blk V w.heap.size 38 [.int .i64 code, .int .i64 id, .slice D k d] := by
    rw [← hV]
    exact (Below.heap_alloc _ _ _ (by simp; omega)).trans ((Below.heap_alloc _ _ _ (by simp)).trans (heap_alloc_new w _))
  have h1 : Blk V (w.heap.size + 1) 9 [.string ⟨#[]⟩] := by
    rw [← hV]
    refine (Below.heap_alloc _ _ _ (by simp)).trans ?_
    have h := heap_alloc_new (w.alloc (.cells #[.int .i64 code, .int .i64 id, .slice D k d] 38)) (.cells #[.string ⟨#[]⟩] 9)
    rw [World.size_alloc] at h
    exact h
  have h2 : Blk V (w.heap.size + 1 + 1) 9 [.string ⟨#[]⟩] := by
    rw [← hV]
    have h := heap_alloc_new ((w.alloc (.cells #[.int .i64 code, .int .i64 id, .slice D k d] 38)).alloc (.cells #[.string ⟨#[]⟩] 9)) (.cells #[.string ⟨#[]⟩] 9)
    rw [World.size_alloc, World.size_alloc] at h
    exact h
  obtain ⟨V4, hV4⟩ : ∃ V4, V.alloc (.cells #[.int .i64 0] 28) = V4 := ⟨_, rfl⟩
  have hB4 : Below V.heap.size V V4 := by rw [← hV4]; exact (Below.refl _ _).alloc (Nat.le_refl _) _
  have h4 : Blk V4 V.heap.size 28 [.int .i64 0] := by rw [← hV4]; exact heap_alloc_new V _
  have z4 := hB4.size
  have RQ := rq1_any w.heap.size (w.heap.size + 1) (w.heap.size + 1 + 1) code id D k d B l V4 ((hB4.block _ (Blk.lt h0)).trans h0) ((hB4.block _ (Blk.lt h1)).trans h1) ((hB4.block _ (Blk.lt h2)).trans h2) (by omega) ((hr.below (hBV.mono hB)).below (hB4.mono (by omega))) (by omega) hkd hnil
  have CA := caught_any 51 #[.pointer (some ⟨w.heap.size, 0, none⟩), .pointer (some ⟨w.heap.size + 1, 0, none⟩), .pointer (some ⟨w.heap.size + 1 + 1, 0, none⟩)] V (fun q w1 => q = rqE code id l ∧ Wr2 V4 w1 (w.heap.size + 1) (w.heap.size + 1 + 1) (rqS code id l 0) (rqS code id l 1)) (fun _ => by kernel_rfl) (by
    rw [hV4]
    refine RQ.mono ?_
    rintro e w1 ⟨hw, h⟩
    refine ⟨(hw.block _ (Blk.lt h4) (by omega) (by omega)).trans h4, ?_⟩
    rcases h with ⟨hz, rfl⟩ | ⟨hz, rfl⟩
    · exact .inl ⟨rfl, hz.symm, hw⟩
    · exact .inr ⟨_, rfl, rfl, hw⟩)
  obtain ⟨er, her⟩ : ∃ er, rqE code id l = er := ⟨_, rfl⟩
  obtain ⟨sa, hsa⟩ : ∃ sa, rqS code id l 0 = sa := ⟨_, rfl⟩
  obtain ⟨sb, hsb⟩ : ∃ sb, rqS code id l 1 = sb := ⟨_, rfl⟩
  rw [her, hsa, hsb] at CA ⊢
  have C : Hid (Calls Try.prog 50 #[.func (.func 51) #[] #[.pointer (some ⟨w.heap.size, 0, none⟩), .pointer (some ⟨w.heap.size + 1, 0, none⟩), .pointer (some ⟨w.heap.size + 1 + 1, 0, none⟩)]] V fun e w2 => e = .returned (.int .i64 er) ∧ w.heap.size + 1 + 1 < w2.heap.size ∧ Blk w2 (w.heap.size + 1) 9 [.string sa] ∧ Blk w2 (w.heap.size + 1 + 1) 9 [.string sb] ∧ Below w.heap.size w w2) := by
    refine CA.mono ?_
    rintro e w2 ⟨q, w1, rfl, ⟨rfl, hw⟩, rfl⟩
    have hs : w1.grownBy (w1.setCell ⟨V.heap.size, 0, none⟩ (.int .i64 q)) (some V.heap.size) := gset' _ _ _ _
    have zs := hs.size
    have zw := hw.size
    have zb := Blk.lt h4
    refine ⟨rfl, by omega, (hs.block _ (by omega) (by intro e; injection e with e; omega)).trans hw.b1, (hs.block _ (by omega) (by intro e; injection e with e; omega)).trans hw.b2, ?_⟩
    exact ((hBV.trans (hB4.mono (by omega))).trans (hw.below (by omega) (by omega) (by omega))).grown hs (by omega) (fun q e => by cases e; omega)
  have HV := Lib.hid hV
  clear CA RQ h0 h1 h2 h4 hB4 hBV hV hV4 hr her hsa hsb
  go_enter Try.func36, Try.ntmps36
  go_upto_region 1 with (fail)
  rw [HV.out]
  go_upto_region 2 with (go_at_call 50; ((with_reducible refine C.out.mono ?_); rintro e w2 ⟨rfl, z2, b1, b2, hb⟩; have x1 := b1.cell 0; have x2 := b2.cell 0; have f1 := b1.frozen 0; have f2 := b2.frozen 0; have B1 := Lib.hid b1; have B2 := Lib.hid b2; have HB := Lib.hid hb; clear b1 b2 hb))
  have hs1 : w2.grownBy (w2.setCell ⟨w.heap.size + 1, 0, none⟩ (.string sa)) (some (w.heap.size + 1)) := gset' _ _ _ _
  have hs2 : (w2.setCell ⟨w.heap.size + 1, 0, none⟩ (.string sa)).grownBy ((w2.setCell ⟨w.heap.size + 1, 0, none⟩ (.string sa)).setCell ⟨w.heap.size + 1 + 1, 0, none⟩ (.string sb)) (some (w.heap.size + 1 + 1)) := gset' _ _ _ _
  have k1 : Blk ((w2.setCell ⟨w.heap.size + 1, 0, none⟩ (.string sa)).setCell ⟨w.heap.size + 1 + 1, 0, none⟩ (.string sb)) (w.heap.size + 1) 9 [.string sa] := (hs2.block _ (by have := hs1.size; omega) (by intro e; injection e with e; omega)).trans (B1.out.set_ 0 _)
  have k2 : Blk ((w2.setCell ⟨w.heap.size + 1, 0, none⟩ (.string sa)).setCell ⟨w.heap.size + 1 + 1, 0, none⟩ (.string sb)) (w.heap.size + 1 + 1) 9 [.string sb] := Blk.set_ (show Blk (w2.setCell ⟨w.heap.size + 1, 0, none⟩ (.string sa)) (w.heap.size + 1 + 1) 9 _ from (hs1.block _ (by omega) (by intro e; injection e with e; omega)).trans B2.out) 0 _
  have y1 := k1.cell 0
  have y2 := k2.cell 0
  have FIN : Hid (∀ n, Below w.heap.size w (((w2.setCell ⟨w.heap.size + 1, 0, none⟩ (.string sa)).setCell ⟨w.heap.size + 1 + 1, 0, none⟩ (.string sb)).drewN n)) := fun n => by
    have h := (HB.out.setCell (p := ⟨w.heap.size + 1, 0, none⟩) (by show _ ≤ w.heap.size + 1; omega) (.string sa)).setCell (p := ⟨w.heap.size + 1 + 1, 0, none⟩) (by show _ ≤ w.heap.size + 1 + 1; omega) (.string sb)
    exact ⟨h.os, h.tape, h.output, h.size, h.block⟩
  clear hs1 hs2 k1 k2
  go_region
  all_goals
    go_wp2
    refine bodyPost_ret (v := .tuple #[.string sa, .string sb, .int .i64 er]) (by simp [results, Try.results36, go_sem, y1, y2]) rfl ⟨rfl, ?_⟩
    first | exact FIN.out 1 | exact FIN.out 0
end Go.Proofs.Ytglboagjmbjehaa
