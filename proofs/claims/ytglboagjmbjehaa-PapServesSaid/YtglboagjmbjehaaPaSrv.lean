/-
  pap's authenticator: NewServer, judge, Who.
-/
import Derived.Test.YtglboagjmbjehaaPaAns
import Derived.Test.YtglboagjmbjehaaSeTable
namespace Go.Proofs.Ytglboagjmbjehaa
open Go.RowKit Go.Shelf
set_option maxRecDepth 100000
set_option maxHeartbeats 4000000
set_option linter.unusedSimpArgs false
set_option linter.unusedVariables false

theorem cell_same {w w' : World} {b o : Nat} (h : w'.heap[b]? = w.heap[b]?) : w'.cell? ⟨b, o, none⟩ = w.cell? ⟨b, o, none⟩ := by
  unfold World.cell?
  rw [h]
/-- a table that lies below a block -/
def TabB (W : World) (B tb : Nat) (ss : List Sec) : Prop :=
  ∃ A n c mb, tb < B ∧ Blk W tb 89 [.slice A n c, .map (some mb)] ∧ SecRd W B A n ss ∧ mb < B ∧ MapP W mb n (fst ss)
theorem TabB.same {W W' : World} {B tb : Nat} {ss : List Sec} (h : TabB W B tb ss) (hb : ∀ i, i < B → W'.heap[i]? = W.heap[i]?) : TabB W' B tb ss := by
  obtain ⟨A, n, c, mb, h1, h2, ⟨h3, h4, h5⟩, h6, D, h7, h8⟩ := h
  refine ⟨A, n, c, mb, h1, (hb _ h1).trans h2, ⟨h3, h4, fun h0 => ?_⟩, h6, D, ?_, h8⟩
  · obtain ⟨b, off, e, hl, hc⟩ := h5 h0
    refine ⟨b, off, e, hl, fun i x hx => ?_⟩
    obtain ⟨ho, E, m, k, ha, hcs⟩ := hc i x hx
    refine ⟨ho, E, m, k, ?_, fun j u hu => (cell_same (hb _ hl)).trans (hcs j u hu)⟩
    obtain ⟨a1, a2, a3, a4, a5⟩ := ha
    refine ⟨a1, a2, a3, a4, fun h0 => ?_⟩
    obtain ⟨b', off', e', hl', hc'⟩ := a5 h0
    exact ⟨b', off', e', hl', fun i z hz => (cell_same (hb _ hl')).trans (hc' i z hz)⟩
  · obtain ⟨es, clock, q1, q2⟩ := h7
    exact ⟨es, clock, (hb _ h6).trans q1, q2⟩
theorem TabB.of {W : World} {tb : Nat} {ss : List Sec} (h : TableAt W tb ss) : TabB W W.heap.size tb ss := by
  obtain ⟨A, n, c, mb, h1, h2, h3⟩ := h
  exact ⟨A, n, c, mb, Blk.lt h1, h1, h2, h3.lt, h3⟩
theorem TabB.at_ {W : World} {B tb : Nat} {ss : List Sec} (h : TabB W B tb ss) (hB : B ≤ W.heap.size) : TableAt W tb ss := by
  obtain ⟨A, n, c, mb, h1, h2, h3, h4, h5⟩ := h
  exact ⟨A, n, c, mb, h2, h3.wide hB, h5⟩
/-- what an authenticator holds -/
structure SvAt (W : World) (g tb : Nat) (name : ByteArray) (ss : List Sec) (st : Int) (who : ByteArray) (ans : Value) : Prop where
  blk : Blk W g 70 [.string name, .pointer (some ⟨tb, 0, none⟩), .int .i64 st, .string who, ans]
  tab : TabB W g tb ss
theorem SvAt.later {W W' : World} {g tb : Nat} {name : ByteArray} {ss : List Sec} {st : Int} {who : ByteArray} {ans : Value} (h : SvAt W g tb name ss st who ans) (hB : Below W.heap.size W W') : SvAt W' g tb name ss st who ans :=
  ⟨(hB.block _ (Blk.lt h.blk)).trans h.blk, h.tab.same fun i hi => hB.block i (Nat.lt_trans hi (Blk.lt h.blk))⟩
/-- what NewServer answers -/
def NsR (w : World) (name : ByteArray) (ss : List Sec) (e : Ending) (w' : World) : Prop :=
  Below w.heap.size w w' ∧ ((nameB name = false ∧ e = .returned (.tuple #[.pointer none, .int .i64 60, .int .i64 0])) ∨ (nameB name = true ∧ (chk ss).1 ≠ 0 ∧ e = .returned (.tuple #[.pointer none, .int .i64 (chk ss).1, .int .i64 (chk ss).2])) ∨
    (nameB name = true ∧ (chk ss).1 = 0 ∧ ∃ g tb, w.heap.size ≤ tb ∧ tb < g ∧ e = .returned (.tuple #[.pointer (some ⟨g, 0, none⟩), .int .i64 0, .int .i64 0]) ∧ SvAt w' g tb name ss 0 ⟨#[]⟩ .nilFunc ∧ TabL w' w.heap.size g tb ss))
theorem newServer_any (name : ByteArray) (A : Option Addr) (n c B : Nat) (ss : List Sec) (w : World) (hn : name.size ≤ maxLen) (h : SecRd w B A n ss) (hB : B ≤ w.heap.size) :
    Calls Try.prog 6 #[.string name, .slice A n c] w (NsR w name ss) := by
  have NM := Lib.hid (fun W => name_any name W hn)
  have NW := new_any A n c B ss w h hB
  cases hb : nameB name
  · have RES : Hid (NsR w name ss (.returned (.tuple #[.pointer none, .int .i64 60, .int .i64 0])) w) := ⟨Below.refl _ _, .inl ⟨hb, rfl⟩⟩
    rw [hb] at NM
    clear h NW hb
    go_enter Try.func6, Try.ntmps6
    go_wp2_with (go_at_call 30; ((with_reducible refine (NM.out _).mono ?_); rintro e w' ⟨rfl, rfl⟩))
    exact bodyPost_ret (v := .tuple #[.pointer none, .int .i64 60, .int .i64 0]) (by simp [results, Try.results6, go_sem]) rfl RES.out
  · obtain ⟨q1, hq1⟩ : ∃ q1, (chk ss).1 = q1 := ⟨_, rfl⟩
    obtain ⟨q2, hq2⟩ : ∃ q2, (chk ss).2 = q2 := ⟨_, rfl⟩
    rw [hb] at NM
    by_cases h0 : q1 = 0
    · subst h0
      have C : Hid (Calls Try.prog 31 #[.slice A n c] w fun e w1 => ∃ tb, e = .returned (.tuple #[.pointer (some ⟨tb, 0, none⟩), .int .i64 0, .int .i64 0]) ∧ NsR w name ss (.returned (.tuple #[.pointer (some ⟨w1.heap.size, 0, none⟩), .int .i64 0, .int .i64 0])) (w1.alloc (.cells #[.string name, .pointer (some ⟨tb, 0, none⟩), .int .i64 0, .string ⟨#[]⟩, .nilFunc] 70))) := by
        refine NW.mono ?_
        rintro e w1 ⟨b1, ⟨h, -⟩ | ⟨-, tb, hg, rfl, ht, htl2⟩⟩
        · exact absurd hq1 h
        · refine ⟨tb, rfl, ?_⟩
          have hBa : Below w1.heap.size w1 (w1.alloc (.cells #[.string name, .pointer (some ⟨tb, 0, none⟩), .int .i64 0, .string ⟨#[]⟩, .nilFunc] 70)) := (Below.refl _ _).alloc (Nat.le_refl _) _
          have htl : tb < w1.heap.size := by obtain ⟨A', n', c', mb, hbk, _⟩ := ht; exact Blk.lt hbk
          exact ⟨b1.trans (hBa.mono b1.size), .inr (.inr ⟨hb, hq1, w1.heap.size, tb, hg, htl, rfl, ⟨heap_alloc_new w1 _, (TabB.of ht).same fun i hi => hBa.block i hi⟩, htl2.same fun i _ hi => hBa.block i hi⟩)⟩
      clear h NW hb hq1 hq2
      go_enter Try.func6, Try.ntmps6
      go_wp2_with (first
        | (go_at_call 30; ((with_reducible refine (NM.out _).mono ?_); rintro e w' ⟨rfl, rfl⟩))
        | (go_at_call 31; ((with_reducible refine C.out.mono ?_); rintro e w1 ⟨tb, rfl, h1⟩; have H1 := Lib.hid h1; clear h1)))
      exact bodyPost_ret (v := .tuple #[.pointer (some ⟨w1.heap.size, 0, none⟩), .int .i64 0, .int .i64 0]) (by simp [results, Try.results6, go_sem]) rfl H1.out
    · have C : Hid (Calls Try.prog 31 #[.slice A n c] w fun e w1 => e = .returned (.tuple #[.pointer none, .int .i64 q1, .int .i64 q2]) ∧ NsR w name ss (.returned (.tuple #[.pointer none, .int .i64 q1, .int .i64 q2])) w1) := by
        refine NW.mono ?_
        rintro e w1 ⟨b1, ⟨h, rfl⟩ | ⟨h, -⟩⟩
        · rw [hq1, hq2]
          exact ⟨rfl, b1, .inr (.inl ⟨hb, h, by rw [hq1, hq2]⟩)⟩
        · exact absurd (hq1.symm.trans h) h0
      clear h NW hb hq1 hq2
      go_enter Try.func6, Try.ntmps6
      go_wp2_with (first
        | (go_at_call 30; ((with_reducible refine (NM.out _).mono ?_); rintro e w' ⟨rfl, rfl⟩))
        | (go_at_call 31; ((with_reducible refine C.out.mono ?_); rintro e w1 ⟨rfl, h1⟩; have H1 := Lib.hid h1; clear h1)))
      exact bodyPost_ret (v := .tuple #[.pointer none, .int .i64 q1, .int .i64 q2]) (by simp [results, Try.results6, go_sem]) rfl H1.out
theorem who_any (g tb : Nat) (name : ByteArray) (ss : List Sec) (st : Int) (who : ByteArray) (ans : Value) (w : World) (h : SvAt w g tb name ss st who ans) : Calls Try.prog 18 #[.pointer (some ⟨g, 0, none⟩)] w fun e w' => e = .returned (.string who) ∧ w = w' := by
  have c3 := h.blk.cell 3
  clear h
  go_enter Try.func18, Try.ntmps18
  go_wp2
  go_ret
  exact ⟨rfl, rfl⟩
def welcome : ByteArray := ⟨#[119, 101, 108, 99, 111, 109, 101]⟩
def refused : ByteArray := ⟨#[114, 101, 102, 117, 115, 101, 100]⟩
/-- is the word right? -/
noncomputable def judgeB (name : ByteArray) (ss : List Sec) (client word : ByteArray) : Bool := nameB client && decide (chkW ss (bst ss client name) word = 0)
/-- what judge leaves -/
def JudR (W : World) (g tb : Nat) (name : ByteArray) (ss : List Sec) (client : ByteArray) (ok : Bool) (e : Ending) (W' : World) : Prop :=
  e = .returned (.tuple #[]) ∧ W.grownBy W' (some g) ∧ ∃ x y, SvAt W' g tb name ss (if ok then 1 else 2) (if ok then client else ⟨#[]⟩) (ansF x y) ∧ Blk W' x 4 [.bool ok] ∧ Blk W' y 9 [.string (if ok then welcome else refused)] ∧ W.heap.size ≤ x ∧ W.heap.size ≤ y
theorem set5 {W : World} {g t : Nat} {a b c d e x y z : Value} (h : Blk W g t [a, b, c, d, e]) : Blk (((W.setCell ⟨g, 2, none⟩ x).setCell ⟨g, 3, none⟩ y).setCell ⟨g, 4, none⟩ z) g t [a, b, x, y, z] := ((h.set_ 2 x).set_ 3 y).set_ 4 z
theorem judge_any (g tb : Nat) (name : ByteArray) (ss : List Sec) (st : Int) (who : ByteArray) (ans : Value) (client word : ByteArray) (w : World) (h : SvAt w g tb name ss st who ans) (hg : tb < g) (hcl : client.size ≤ maxLen) (hnm : name.size ≤ maxLen) :
    Calls Try.prog 37 #[.pointer (some ⟨g, 0, none⟩), .string client, .string word] w (JudR w g tb name ss client (judgeB name ss client word)) := by
  have hgl := Blk.lt h.blk
  have c0 := h.blk.cell 0
  have c1 := h.blk.cell 1
  obtain ⟨ok, hok⟩ : ∃ ok, judgeB name ss client word = ok := ⟨_, rfl⟩
  rw [hok]
  -- behind the test: what is set
  have AN : Hid (∀ W, Below w.heap.size w W → Calls Try.prog 55 #[.bool ok, .string (if ok then welcome else refused)] W fun e w3 => ∃ x y, e = .returned (.func (.func 68) #[] #[.pointer (some ⟨x, 0, none⟩), .pointer (some ⟨y, 0, none⟩)]) ∧ g < w3.heap.size ∧ Blk w3 g 70 [.string name, .pointer (some ⟨tb, 0, none⟩), .int .i64 st, .string who, ans] ∧
      JudR w g tb name ss client ok (.returned (.tuple #[])) (((w3.setCell ⟨g, 2, none⟩ (.int .i64 (if ok then 1 else 2))).setCell ⟨g, 3, none⟩ (.string (if ok then client else ⟨#[]⟩))).setCell ⟨g, 4, none⟩ (.func (.func 68) #[] #[.pointer (some ⟨x, 0, none⟩), .pointer (some ⟨y, 0, none⟩)]))) := fun W hW => by
    refine (answering_any ok _ W).mono ?_
    rintro e w3 ⟨rfl, hx, hy, hb3⟩
    have zW := hW.size
    have z3 := hb3.size
    have B3 : Below w.heap.size w w3 := hW.trans (hb3.mono zW)
    have h3 := h.later B3
    have gs : w3.grownBy _ (some g) := gtrans' (gtrans' (gset' w3 g 2 (.int .i64 (if ok then 1 else 2))) (gset' _ g 3 (.string (if ok then client else ⟨#[]⟩)))) (gset' _ g 4 (.func (.func 68) #[] #[.pointer (some ⟨W.heap.size, 0, none⟩), .pointer (some ⟨W.heap.size + 1, 0, none⟩)]))
    have zs := gs.size
    refine ⟨W.heap.size, W.heap.size + 1, rfl, by omega, h3.blk, rfl, ?_, W.heap.size, W.heap.size + 1, ⟨set5 h3.blk, ?_⟩, (gs.block _ (Blk.lt hx) (by intro e; injection e with e; omega)).trans hx, (gs.block _ (Blk.lt hy) (by intro e; injection e with e; omega)).trans hy, by omega, by omega⟩
    · exact ⟨gs.os.trans B3.os, gs.tape.trans B3.tape, gs.output.trans B3.output, by omega, fun i hi hne => (gs.block i (by omega) hne).trans (B3.block i hi)⟩
    · exact h3.tab.same fun i hi => gs.block i (by omega) (by intro e; injection e with e; omega)
  have hBD : Below w.heap.size w w.drew := below_drewS (Below.refl _ _) 1
  have NM := Lib.hid (fun W => name_any client W hcl)
  have hsf : ∀ (W : World), W = W := fun _ => rfl
  cases hb : nameB client
  · have hf : ok = false := by rw [← hok]; unfold judgeB; rw [hb]; rfl
    subst hf
    rw [hb] at NM
    simp only [Bool.false_eq_true, if_false] at AN
    unfold refused at AN
    clear h hok hb hsf
    go_enter Try.func37, Try.ntmps37
    go_wp2
    go_quiet ((go_at_call 30; refine (NM.out _).mono ?_; rintro e w1 ⟨rfl, rfl⟩; exact ⟨rfl, _, rfl⟩))
    all_goals
      go_wp2_with (go_at_call 55; ((with_reducible refine (AN.out _ (below_drewN (Below.refl _ _) _)).mono ?_); rintro e w3 ⟨x, y, rfl, z3, b3, hj⟩; have r0 := b3.cell 0; have r1 := b3.cell 1; have r2 := b3.cell 2; have r3 := b3.cell 3; have r4 := b3.cell 4; have g2 := b3.frozen 2; have g3 := b3.frozen 3; have g4 := b3.frozen 4; have HJ := Lib.hid hj; clear hj b3))
      go_end0
      exact HJ.out
  · obtain ⟨cd, hcd⟩ : ∃ cd, chkW ss (bst ss client name) word = cd := ⟨_, rfl⟩
    have CK : Hid (Calls Try.prog 54 #[.pointer (some ⟨tb, 0, none⟩), .string client, .string name, .string word] w.drew fun e w2 => e = .returned (.int .i64 cd) ∧ w2.cell? ⟨g, 0, none⟩ = some (.string name) ∧ w2.cell? ⟨g, 1, none⟩ = some (.pointer (some ⟨tb, 0, none⟩)) ∧ Below w.heap.size w w2) := by
      have h' := h.later hBD
      refine (tabCheck_any tb ss client name word w.drew (h'.tab.at_ (Nat.le_of_lt (Blk.lt h'.blk))) hcl hnm).mono ?_
      rintro e w2 ⟨rfl, b2⟩
      have h2 := h'.later b2
      exact ⟨by rw [hcd], h2.blk.cell 0, h2.blk.cell 1, hBD.trans b2⟩
    rw [hb] at NM
    have hj : judgeB name ss client word = decide (cd = 0) := by unfold judgeB; rw [hb, hcd]; rfl
    rw [hj] at hok
    by_cases h0 : cd = 0
    · have hf : ok = true := by rw [← hok]; simpa using h0
      subst hf h0
      simp only [if_true] at AN
      unfold welcome at AN
      clear h hok hb hsf hcd hj
      go_enter Try.func37, Try.ntmps37
      go_upto_region 0 with (fail)
      go_region_held3 (fun w' => w'.cell? ⟨g, 0, none⟩ = some (.string name) ∧ w'.cell? ⟨g, 1, none⟩ = some (.pointer (some ⟨tb, 0, none⟩))) (go_keep) (first
        | (go_at_call 30; (with_reducible refine (NM.out _).mono ?_); rintro e w' ⟨rfl, rfl⟩)
        | (go_at_call 54; (with_reducible refine CK.out.mono ?_); rintro e w2 ⟨rfl, q0, q1, hb2⟩; have HB2 := Lib.hid hb2; clear hb2))
      all_goals
        go_wp2_with (go_at_call 55; ((with_reducible refine (AN.out _ HB2.out).mono ?_); rintro e w3 ⟨x, y, rfl, z3, b3, hj⟩; have r0 := b3.cell 0; have r1 := b3.cell 1; have r2 := b3.cell 2; have r3 := b3.cell 3; have r4 := b3.cell 4; have g2 := b3.frozen 2; have g3 := b3.frozen 3; have g4 := b3.frozen 4; have HJ := Lib.hid hj; clear hj b3))
        go_end0
        exact HJ.out
    · have hf : ok = false := by rw [← hok]; simpa using h0
      subst hf
      have e0 : (cd == 0) = false := by simpa using h0
      simp only [Bool.false_eq_true, if_false] at AN
      unfold refused at AN
      clear h hok hb hsf hcd hj h0
      go_enter Try.func37, Try.ntmps37
      go_upto_region 0 with (fail)
      go_region_held3 (fun w' => w'.cell? ⟨g, 0, none⟩ = some (.string name) ∧ w'.cell? ⟨g, 1, none⟩ = some (.pointer (some ⟨tb, 0, none⟩))) (go_keep) (first
        | (go_at_call 30; (with_reducible refine (NM.out _).mono ?_); rintro e w' ⟨rfl, rfl⟩)
        | (go_at_call 54; (with_reducible refine CK.out.mono ?_); rintro e w2 ⟨rfl, q0, q1, hb2⟩; have HB2 := Lib.hid hb2; clear hb2))
      all_goals
        go_wp2_with (go_at_call 55; ((with_reducible refine (AN.out _ HB2.out).mono ?_); rintro e w3 ⟨x, y, rfl, z3, b3, hj⟩; have r0 := b3.cell 0; have r1 := b3.cell 1; have r2 := b3.cell 2; have r3 := b3.cell 3; have r4 := b3.cell 4; have g2 := b3.frozen 2; have g3 := b3.frozen 3; have g4 := b3.frozen 4; have HJ := Lib.hid hj; clear hj b3))
        go_end0
        exact HJ.out
end Go.Proofs.Ytglboagjmbjehaa
