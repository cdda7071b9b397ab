/-
  pap.ReadAnswer.
-/
import Derived.Test.YtglboagjmbjehaaPaRAns
import Derived.RegionTactic
import Derived.ChangeAlike
namespace Go.Proofs.Ytglboagjmbjehaa
open Go.RowKit Go.Shelf
set_option maxRecDepth 100000
set_option maxHeartbeats 4000000
set_option linter.unusedSimpArgs false
set_option linter.unusedVariables false

/-- two cells have been written, and new blocks -/
structure Wb2 (W w' : World) (p1 p2 : Nat) (a : Bool) (b : ByteArray) : Prop where
  os : w'.os = W.os
  tape : w'.tape = W.tape
  output : w'.output = W.output
  size : W.heap.size ≤ w'.heap.size
  block : ∀ i, i < W.heap.size → i ≠ p1 → i ≠ p2 → w'.heap[i]? = W.heap[i]?
  b1 : Blk w' p1 4 [.bool a]
  b2 : Blk w' p2 9 [.string b]
theorem Wb2.below {W w' : World} {p1 p2 : Nat} {a : Bool} {b : ByteArray} (h : Wb2 W w' p1 p2 a b) {B : Nat} (h1 : B ≤ p1) (h2 : B ≤ p2) (hB : B ≤ W.heap.size) : Below B W w' := ⟨h.os, h.tape, h.output, h.size, fun i hi => h.block i (by omega) (by omega) (by omega)⟩
def RaR (W : World) (p1 p2 : Nat) (code id : Int) (l : List UInt8) (e : Ending) (w' : World) : Prop :=
  Wb2 W w' p1 p2 (raO code id l) (raS code id l) ∧ ((raE code id l = 0 ∧ e = .returned (.tuple #[])) ∨ (raE code id l ≠ 0 ∧ e = .panicked (thr (raE code id l))))
theorem raR_no {W w' : World} {p1 p2 : Nat} {code id er : Int} {l : List UInt8} (h1 : Blk W p1 4 [.bool false]) (h2 : Blk W p2 9 [.string ⟨#[]⟩]) (hB : Below W.heap.size W w') (he : raE code id l = er) (h0 : er ≠ 0) : RaR W p1 p2 code id l (.panicked (thr er)) w' := by
  refine ⟨?_, .inr ⟨by rw [he]; exact h0, by rw [he]⟩⟩
  unfold raO raS
  rw [he, if_neg h0, decide_eq_false h0]
  exact ⟨hB.os, hB.tape, hB.output, hB.size, fun i hi _ _ => hB.block i hi, (hB.block _ (Blk.lt h1)).trans h1, (hB.block _ (Blk.lt h2)).trans h2⟩
theorem raR_yes {W w' : World} {p1 p2 : Nat} {code id : Int} {l : List UInt8} {s : ByteArray} {b : Bool} (h12 : p1 ≠ p2) (h1 : Blk W p1 4 [.bool false]) (h2 : Blk W p2 9 [.string ⟨#[]⟩]) (hB : Below W.heap.size W w') (he : raE code id l = 0) (hs : sd l = s) (hb : b = decide (code = 2)) :
    RaR W p1 p2 code id l (.returned (.tuple #[])) ((w'.setCell ⟨p1, 0, none⟩ (.bool b)).setCell ⟨p2, 0, none⟩ (.string s)) := by
  refine ⟨?_, .inl ⟨he, rfl⟩⟩
  unfold raO raS
  rw [he, if_pos rfl, hs, ← hb]
  have hs1 : w'.grownBy (w'.setCell ⟨p1, 0, none⟩ (.bool b)) (some p1) := gset' _ _ _ _
  have hs2 : (w'.setCell ⟨p1, 0, none⟩ (.bool b)).grownBy ((w'.setCell ⟨p1, 0, none⟩ (.bool b)).setCell ⟨p2, 0, none⟩ (.string s)) (some p2) := gset' _ _ _ _
  have t1 := hs1.size
  have t2 := hs2.size
  have tb := hB.size
  have z1 := Blk.lt h1
  have z2 := Blk.lt h2
  refine ⟨hs2.os.trans (hs1.os.trans hB.os), hs2.tape.trans (hs1.tape.trans hB.tape), hs2.output.trans (hs1.output.trans hB.output), by omega, fun i hi e1 e2 => ?_, ?_, ?_⟩
  · rw [hs2.block i (by omega) (by intro e; injection e with e; exact e2 e), hs1.block i (by omega) (by intro e; injection e with e; exact e1 e), hB.block i hi]
  · exact (hs2.block p1 (by omega) (by intro e; injection e with e; exact h12 e)).trans (Blk.set_ ((hB.block _ z1).trans h1) 0 _)
  · exact Blk.set_ (show Blk (w'.setCell ⟨p1, 0, none⟩ (.bool b)) p2 9 _ from (hs1.block p2 (by omega) (by intro e; injection e with e; exact h12 e.symm)).trans ((hB.block _ z2).trans h2)) 0 _
theorem must_two {code id : Int} (h : mustE id code [2, 3] = 0) : idB id = true ∧ (code = 2 ∨ code = 3) := by
  unfold mustE at h
  cases hi : idB id
  · rw [hi] at h; simp at h
  · refine ⟨rfl, ?_⟩
    rw [hi, hasI_two] at h
    by_cases h2 : code = 2
    · exact .inl h2
    · by_cases h3 : code = 3
      · exact .inr h3
      · simp [h2, h3] at h
theorem ra1_any (p0 p1 p2 : Nat) (code id : Int) (D : Option Addr) (k d B : Nat) (l : List UInt8) (W : World) (h0 : Blk W p0 38 [.int .i64 code, .int .i64 id, .slice D k d]) (h1 : Blk W p1 4 [.bool false]) (h2 : Blk W p2 9 [.string ⟨#[]⟩]) (h12 : p1 ≠ p2)
    (hr : Rd W B D k l) (hB : B ≤ W.heap.size) (hkd : k ≤ d) (hnil : D = none → d = 0) :
    Calls Try.prog 60 #[.pointer (some ⟨p0, 0, none⟩), .pointer (some ⟨p1, 0, none⟩), .pointer (some ⟨p2, 0, none⟩)] W (RaR W p1 p2 code id l) := by
  have z0 := Blk.lt h0
  have z1 := Blk.lt h1
  have z2 := Blk.lt h2
  have hl := hr.1
  obtain ⟨V, hV⟩ : ∃ V, W.alloc (.cells #[.int .i64 2, .int .i64 3] 3) = V := ⟨_, rfl⟩
  have hBV : Below W.heap.size W V := by rw [← hV]; exact (Below.refl _ _).alloc (Nat.le_refl _) _
  have hnew : Blk V W.heap.size 3 [.int .i64 2, .int .i64 3] := by rw [← hV]; exact heap_alloc_new W _
  have zV := hBV.size
  have had : AdRd V V.heap.size (some ⟨W.heap.size, 0, none⟩) 2 2 [2, 3] := by
    refine ⟨rfl, Nat.le_refl _, fun e => (by cases e), by omega, fun _ => ⟨W.heap.size, 0, rfl, Blk.lt hnew, fun i z hz => ?_⟩⟩
    match i, hz with
    | 0, hz => rw [show z = 2 from by simpa using hz.symm]; exact hnew.cell 0
    | 1, hz => rw [show z = 3 from by simpa using hz.symm]; exact hnew.cell 1
    | i + 2, hz => simp at hz
  have MB := mustBe_any code id D k d (some ⟨W.heap.size, 0, none⟩) 2 2 V.heap.size [2, 3] V had (Nat.le_refl _)
  have c0 : W.cell? ⟨p0, 0, none⟩ = some (.int .i64 code) := h0.cell 0
  have c1 : W.cell? ⟨p0, 1, none⟩ = some (.int .i64 id) := h0.cell 1
  have c2 : W.cell? ⟨p0, 2, none⟩ = some (.slice D k d) := h0.cell 2
  have HV := Lib.hid hV
  by_cases hm : mustE id code [2, 3] = 0
  · obtain ⟨hi, hc⟩ := must_two hm
    have hE := raE_good (l := l) hi hc
    have ST : ∀ w1, Below W.heap.size W w1 → Blk w1 p0 38 [.int .i64 code, .int .i64 id, .slice D k d] ∧ Blk w1 p1 4 [.bool false] ∧ Blk w1 p2 9 [.string ⟨#[]⟩] := fun w1 b1 => ⟨(b1.block _ z0).trans h0, (b1.block _ z1).trans h1, (b1.block _ z2).trans h2⟩
    by_cases hk0 : k = 0
    · have hl0 : l = [] := List.eq_nil_of_length_eq_zero (by omega)
      have SH := Lib.hid (fun W => shown_any ⟨#[]⟩ W (by decide))
      have hse : shB ⟨#[]⟩ = true := rfl
      rw [hse] at SH
      have C : Hid (Calls Try.prog 52 #[.agg #[.int .i64 code, .int .i64 id, .slice D k d], .slice (some ⟨W.heap.size, 0, none⟩) 2 2] V fun e w1 => e = .returned (.tuple #[]) ∧ Blk w1 p0 38 [.int .i64 code, .int .i64 id, .slice D k d] ∧ Blk w1 p1 4 [.bool false] ∧ Blk w1 p2 9 [.string ⟨#[]⟩] ∧
          ∀ b, b = decide (code = 2) → RaR W p1 p2 code id l (.returned (.tuple #[])) ((w1.setCell ⟨p1, 0, none⟩ (.bool b)).setCell ⟨p2, 0, none⟩ (.string ⟨#[]⟩))) := by
        refine MB.mono ?_
        rintro e w1 ⟨b1, ⟨-, rfl⟩ | ⟨h, -⟩⟩
        · have hb1 : Below W.heap.size W w1 := hBV.trans (b1.mono zV)
          obtain ⟨s0, s1, s2⟩ := ST w1 hb1
          exact ⟨rfl, s0, s1, s2, fun b hb => raR_yes h12 h1 h2 hb1 (by rw [hE, hl0]; rfl) (by rw [hl0]; rfl) hb⟩
        · exact absurd hm h
      subst hk0
      clear MB had hnew hBV hV h0 h1 h2 hr hm hE hi ST hl
      rcases hc with rfl | rfl
      · go_enter Try.func60, Try.ntmps60
        go_wp2_with (first
          | (rw [HV.out])
          | (go_at_call 61; ((with_reducible refine (SH.out _).mono ?_); rintro e w' ⟨rfl, rfl⟩))
          | (go_at_call 52; ((with_reducible refine C.out.mono ?_); rintro e w1 ⟨rfl, b0, b1, b2, n1⟩; have y0 := b0.cell 0; have y2 := b0.cell 2; have f1 := b1.frozen 0; have f2 := b2.frozen 0; have u1 := b1.cell 0; have u2 := b2.cell 0; have s1 := Blk.lt b1; have s2 := Blk.lt b2; have F := Lib.hid n1; clear n1 b0 b1 b2)))
        go_end0
        exact F.out true rfl
      · go_enter Try.func60, Try.ntmps60
        go_wp2_with (first
          | (rw [HV.out])
          | (go_at_call 61; ((with_reducible refine (SH.out _).mono ?_); rintro e w' ⟨rfl, rfl⟩))
          | (go_at_call 52; ((with_reducible refine C.out.mono ?_); rintro e w1 ⟨rfl, b0, b1, b2, n1⟩; have y0 := b0.cell 0; have y2 := b0.cell 2; have f1 := b1.frozen 0; have f2 := b2.frozen 0; have u1 := b1.cell 0; have u2 := b2.cell 0; have s1 := Blk.lt b1; have s2 := Blk.lt b2; have F := Lib.hid n1; clear n1 b0 b1 b2)))
        go_end0
        exact F.out false rfl
    · have hne : l ≠ [] := fun e => hk0 (by rw [← hl, e]; rfl)
      have hk2 : (0 : Int) < (k : Int) := by omega
      by_cases hp : parE 1 l = 0
      · obtain ⟨s, hs⟩ : ∃ s, sd l = s := ⟨_, rfl⟩
        have hsz : s.size ≤ 255 := by
          rw [← hs]
          unfold sd
          rw [List.getD_eq_getElem?_getD]
          cases e : (prs 1 l).1[0]? with
          | none => exact Nat.zero_le _
          | some x => exact prs_size 1 l x (List.mem_of_getElem? e)
        have SH := Lib.hid (fun W => shown_any s W (by unfold maxLen; omega))
        have C : Hid (Calls Try.prog 52 #[.agg #[.int .i64 code, .int .i64 id, .slice D k d], .slice (some ⟨W.heap.size, 0, none⟩) 2 2] V fun e w1 => e = .returned (.tuple #[]) ∧ w1.cell? ⟨p0, 2, none⟩ = some (.slice D k d) ∧
            Calls Try.prog 53 #[.slice D k d, .int .i64 1] w1 fun e w2 => ∃ g d', e = .returned (.slice (some ⟨g, 0, none⟩) 1 d') ∧ g < w2.heap.size ∧ w2.cell? ⟨g, 0, none⟩ = some (.string s) ∧ Blk w2 p0 38 [.int .i64 code, .int .i64 id, .slice D k d] ∧ Blk w2 p1 4 [.bool false] ∧ Blk w2 p2 9 [.string ⟨#[]⟩] ∧ Below W.heap.size W w2) := by
          refine MB.mono ?_
          rintro e w1 ⟨b1, ⟨-, rfl⟩ | ⟨h, -⟩⟩
          · have hb1 : Below W.heap.size W w1 := hBV.trans (b1.mono zV)
            have zw := hb1.size
            obtain ⟨s0, s1, s2⟩ := ST w1 hb1
            refine ⟨rfl, s0.cell 2, (parts_any D 1 k d B l w1 (hr.below (hb1.mono hB)) (by omega) hkd hnil (by omega)).mono ?_⟩
            rintro e w2 ⟨b2, ⟨hp', D', d', rfl, ho, hl'⟩ | ⟨hp', -⟩⟩
            · have hb2 : Below W.heap.size W w2 := hb1.trans (b2.mono zw)
              obtain ⟨t0, t1, t2⟩ := ST w2 hb2
              rcases ho.2 with ⟨e, h0'⟩ | ⟨g, cap, cur, e, hg, hgg, _⟩
              · rw [hl'] at h0'; cases h0'
              · injection e with e1 e2 e3
                subst e1
                refine ⟨g, d', rfl, (Array.getElem?_eq_some_iff.1 hgg).1, ho.cell 0 _ ?_, t0, t1, t2, hb2⟩
                rw [← hs]
                unfold sd
                rw [List.getD_eq_getElem?_getD, List.getElem?_eq_getElem (by omega)]
                rfl
            · exact absurd hp hp'
          · exact absurd hm h
        have hz : sdE l = if shB s = false then 3 else 0 := by unfold sdE; rw [if_neg hne, hp, hs]; simp
        have H1 := Lib.hid h1
        have H2 := Lib.hid h2
        cases hsh : shB s
        · rw [hsh, if_pos rfl] at hz
          rw [hsh] at SH
          have F : Hid (∀ w2, Below W.heap.size W w2 → RaR W p1 p2 code id l (.panicked (thr 3)) w2) := fun w2 hb => raR_no H1.out H2.out hb (by rw [hE, hz]) (by omega)
          unfold thr at F
          clear MB had hnew hBV hV h0 h1 h2 hr hm hE hi ST hl hs hsz hp hz hsh hne
          rcases hc with rfl | rfl
          all_goals
            go_enter Try.func60, Try.ntmps60
            go_wp2_with (first
              | (rw [HV.out])
              | (go_at_call 61; ((with_reducible refine (SH.out _).mono ?_); rintro e w' ⟨rfl, rfl⟩))
              | (go_at_call 53; ((with_reducible refine C1.out.mono ?_); rintro e w2 ⟨g, d', rfl, gl, y, b0, b1, b2, hb⟩; have HB := Lib.hid hb; clear b0 b1 b2 hb))
              | (go_at_call 52; ((with_reducible refine C.out.mono ?_); rintro e w1 ⟨rfl, q2, n1⟩; have C1 := Lib.hid n1; clear n1)))
            exact ⟨rfl, F.out _ HB.out⟩
        · rw [hsh, if_neg (by simp)] at hz
          rw [hsh] at SH
          have F : Hid (∀ w2, Below W.heap.size W w2 → ∀ b, b = decide (code = 2) → RaR W p1 p2 code id l (.returned (.tuple #[])) ((w2.setCell ⟨p1, 0, none⟩ (.bool b)).setCell ⟨p2, 0, none⟩ (.string s))) := fun w2 hb b hb' => raR_yes h12 H1.out H2.out hb (by rw [hE, hz]) hs hb'
          clear MB had hnew hBV hV h0 h1 h2 hr hm hE hi ST hl hs hsz hp hz hsh hne
          rcases hc with rfl | rfl
          · go_enter Try.func60, Try.ntmps60
            go_wp2_with (first
              | (rw [HV.out])
              | (go_at_call 61; ((with_reducible refine (SH.out _).mono ?_); rintro e w' ⟨rfl, rfl⟩))
              | (go_at_call 53; ((with_reducible refine C1.out.mono ?_); rintro e w2 ⟨g, d', rfl, gl, y, b0, b1, b2, hb⟩; have y0 := b0.cell 0; have f1 := b1.frozen 0; have f2 := b2.frozen 0; have u1 := b1.cell 0; have u2 := b2.cell 0; have s1 := Blk.lt b1; have s2 := Blk.lt b2; have HB := Lib.hid hb; clear b0 b1 b2 hb))
              | (go_at_call 52; ((with_reducible refine C.out.mono ?_); rintro e w1 ⟨rfl, q2, n1⟩; have C1 := Lib.hid n1; clear n1)))
            go_end0
            exact F.out _ HB.out true rfl
          · go_enter Try.func60, Try.ntmps60
            go_wp2_with (first
              | (rw [HV.out])
              | (go_at_call 61; ((with_reducible refine (SH.out _).mono ?_); rintro e w' ⟨rfl, rfl⟩))
              | (go_at_call 53; ((with_reducible refine C1.out.mono ?_); rintro e w2 ⟨g, d', rfl, gl, y, b0, b1, b2, hb⟩; have y0 := b0.cell 0; have f1 := b1.frozen 0; have f2 := b2.frozen 0; have u1 := b1.cell 0; have u2 := b2.cell 0; have s1 := Blk.lt b1; have s2 := Blk.lt b2; have HB := Lib.hid hb; clear b0 b1 b2 hb))
              | (go_at_call 52; ((with_reducible refine C.out.mono ?_); rintro e w1 ⟨rfl, q2, n1⟩; have C1 := Lib.hid n1; clear n1)))
            go_end0
            exact F.out _ HB.out false rfl
      · have hz : sdE l = parE 1 l := by unfold sdE; rw [if_neg hne, if_pos hp]
        obtain ⟨er, her⟩ : ∃ er, parE 1 l = er := ⟨_, rfl⟩
        have C : Hid (Calls Try.prog 52 #[.agg #[.int .i64 code, .int .i64 id, .slice D k d], .slice (some ⟨W.heap.size, 0, none⟩) 2 2] V fun e w1 => e = .returned (.tuple #[]) ∧ w1.cell? ⟨p0, 2, none⟩ = some (.slice D k d) ∧
            Calls Try.prog 53 #[.slice D k d, .int .i64 1] w1 fun e w2 => e = .panicked (thr er) ∧ RaR W p1 p2 code id l (.panicked (thr er)) w2) := by
          refine MB.mono ?_
          rintro e w1 ⟨b1, ⟨-, rfl⟩ | ⟨h, -⟩⟩
          · have hb1 : Below W.heap.size W w1 := hBV.trans (b1.mono zV)
            have zw := hb1.size
            obtain ⟨s0, s1, s2⟩ := ST w1 hb1
            refine ⟨rfl, s0.cell 2, (parts_any D 1 k d B l w1 (hr.below (hb1.mono hB)) (by omega) hkd hnil (by omega)).mono ?_⟩
            rintro e w2 ⟨b2, ⟨hp', -⟩ | ⟨hp', rfl⟩⟩
            · exact absurd hp' hp
            · rw [her]
              exact ⟨rfl, raR_no h1 h2 (hb1.trans (b2.mono zw)) (by rw [hE, hz, her]) (by rw [← her]; exact hp)⟩
          · exact absurd hm h
        unfold thr at C
        clear MB had hnew hBV hV h0 h1 h2 hr hm hE hi ST hl hp hz her hne
        rcases hc with rfl | rfl
        all_goals
          go_enter Try.func60, Try.ntmps60
          go_wp2_with (first
            | (rw [HV.out])
            | (go_at_call 53; ((with_reducible refine C1.out.mono ?_); rintro e w2 ⟨rfl, hf⟩; have F := Lib.hid hf; clear hf))
            | (go_at_call 52; ((with_reducible refine C.out.mono ?_); rintro e w1 ⟨rfl, q2, n1⟩; have C1 := Lib.hid n1; clear n1)))
          exact ⟨rfl, F.out⟩
  · have hE : raE code id l = mustE id code [2, 3] := by unfold raE; rw [if_neg hm]
    have C : Hid (Calls Try.prog 52 #[.agg #[.int .i64 code, .int .i64 id, .slice D k d], .slice (some ⟨W.heap.size, 0, none⟩) 2 2] V fun e w1 => e = .panicked (thr (mustE id code [2, 3])) ∧ RaR W p1 p2 code id l (.panicked (thr (mustE id code [2, 3]))) w1) := by
      refine MB.mono ?_
      rintro e w1 ⟨b1, ⟨h, -⟩ | ⟨-, rfl⟩⟩
      · exact absurd h hm
      · exact ⟨rfl, raR_no h1 h2 (hBV.trans (b1.mono zV)) hE hm⟩
    unfold thr at C
    clear MB had hnew hBV hV h0 h1 h2 hr hm hE
    go_enter Try.func60, Try.ntmps60
    go_wp2_with (first
      | (rw [HV.out])
      | (go_at_call 52; ((with_reducible refine C.out.mono ?_); rintro e w1 ⟨rfl, n1⟩; have C1 := Lib.hid n1; clear n1)))
    exact ⟨rfl, C1.out⟩
end Go.Proofs.Ytglboagjmbjehaa
