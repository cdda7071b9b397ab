/-
  chap's judge: New, Ask, challenge; a table as a finder; Told.
-/
import Derived.Test.YtdijgmijnoiliaaDoorChTop
import Derived.Test.YtdijgmijnoiliaaDoorBytesClone
namespace Go.Proofs.YtdijgmijnoiliaaDoor
open Go.RowKit Go.Shelf
set_option maxRecDepth 100000
set_option maxHeartbeats 1000000
set_option linter.unusedSimpArgs false
set_option linter.unusedVariables false

theorem word_tab (g : Nat) (ss : List Sec) (cl sv : ByteArray) (w : World) (h : TableAt w g ss) (hcl : cl.size ≤ maxLen) (hsv : sv.size ≤ maxLen) :
    Calls Tryd.prog 60 #[.func (.func 78) #[.pointer (some ⟨g, 0, none⟩)] #[], .string cl, .string sv] w (WordR w ss (bst ss cl sv)) := by
  obtain ⟨o, ho⟩ : ∃ o, bst ss cl sv = o := ⟨_, rfl⟩
  have C : Hid (Calls Tryd.prog 78 #[.pointer (some ⟨g, 0, none⟩), .string cl, .string sv] w fun e w1 => ∃ s1 s2 E m k b, e = .returned (.tuple #[.agg #[.string s1, .string s2, .string (wdS ss o), .slice E m k], .bool b]) ∧ Below w.heap.size w w1 ∧ (b = false → wdB ss o = false) ∧ (b = true → wdB ss o = !(wdS ss o).toList.isEmpty)) := by
    have F := tabFind_any g ss cl sv w h hcl hsv
    rw [ho] at F
    exact F.mono fun e w1 hh => bestR_box hh
  rw [ho]
  obtain ⟨s, hs⟩ : ∃ s, wdS ss o = s := ⟨_, rfl⟩
  obtain ⟨q, hq⟩ : ∃ q, wdB ss o = q := ⟨_, rfl⟩
  rw [hs, hq] at C
  have FN : Hid (∀ W, Below w.heap.size w W → WordR w ss o (.returned (.tuple #[.string s, .bool q])) W) := fun W hW => ⟨by rw [hs, hq], hW⟩
  clear ho h hcl hsv hs hq
  go_enter Tryd.func60, Tryd.ntmps60
  go_upto_region 2 with (go_at_call 78; ((with_reducible refine C.out.mono ?_); rintro e w1 ⟨s1, s2, E, m, k, b, rfl, b1, q1, q2⟩; have B1 := Lib.hid b1; have Q1 := Lib.hid q1; have Q2 := Lib.hid q2; clear b1 q1 q2 C))
  cases b
  · have e := Lib.hid (Q1.out rfl)
    clear Q1 Q2
    go_quiet (fail)
    go_wp2
    rw [e.out] at FN
    refine bodyPost_ret (v := .tuple #[.string s, .bool false]) (by simp [results, Tryd.results60, go_sem]) rfl (FN.out _ ?_)
    exact below_drewN (B1.out.alloc B1.out.size _) _
  · have e := Lib.hid (Q2.out rfl)
    clear Q1 Q2
    go_quiet (fail)
    go_wp2
    rw [e.out] at FN
    refine bodyPost_ret (v := .tuple #[.string s, .bool (!s.toList.isEmpty)]) (by simp [results, Tryd.results60, go_sem]) rfl (FN.out _ ?_)
    exact below_drewN (B1.out.alloc B1.out.size _) _
theorem finds_tab {W : World} {g : Nat} {ss : List Sec} (h : TableAt W g ss) : FindsC (.func (.func 78) #[.pointer (some ⟨g, 0, none⟩)] #[]) ss W :=
  fun W' hW' cl sv hcl hsv => word_tab g ss cl sv W' (h.later hW') hcl hsv
def jC (name : ByteArray) (tb : Nat) (st lc li : Int) (s : Value) (asked : Int) (who : ByteArray) : List Value := [.string name, .pointer (some ⟨tb, 0, none⟩), .int .i64 st, .int .i64 lc, .int .i64 li, s, .int .i64 asked, .string who]
theorem newJ_ok (name : ByteArray) (A : Option Addr) (n c B : Nat) (ss : List Sec) (w : World) (hn : name.size ≤ maxLen) (hb : nameB name = true) (hc : (chk ss).1 = 0) (h : SecRd w B A n ss) (hB : B ≤ w.heap.size) :
    Calls Tryd.prog 36 #[.string name, .slice A n c] w fun e w' => ∃ g tb, e = .returned (.tuple #[.pointer (some ⟨g, 0, none⟩), .int .i64 0]) ∧ Below w.heap.size w w' ∧ w.heap.size ≤ g ∧ Blk w' g 77 (jC name tb 0 0 0 (.slice none 0 0) 0 ⟨#[]⟩) ∧ ∃ wt, TableAt wt tb ss ∧ wt.heap.size ≤ g ∧ Below wt.heap.size wt w' := by
  have NM := Lib.hid (fun W => name_any name W hn)
  rw [hb] at NM
  have C : Hid (Calls Tryd.prog 46 #[.slice A n c] w fun e w1 => ∃ (tb : Nat) (z : Int), e = .returned (.tuple #[.pointer (some ⟨tb, 0, none⟩), .int .i64 0, .int .i64 z]) ∧ Below w.heap.size w w1 ∧ TableAt w1 tb ss) := by
    refine (new_any A n c B ss w h hB).mono ?_
    rintro e w1 ⟨b1, ⟨h1, -⟩ | ⟨-, tb, hg, rfl, ht, -⟩⟩
    · exact absurd hc h1
    · exact ⟨tb, 0, rfl, b1, ht⟩
  clear h hb hc
  go_enter Tryd.func36, Tryd.ntmps36
  go_wp2_with (first
    | (go_at_call 32; ((with_reducible refine (NM.out _).mono ?_); rintro e w' ⟨rfl, rfl⟩))
    | (go_at_call 46; ((with_reducible refine C.out.mono ?_); rintro e w1 ⟨tb, z, rfl, b1, ht⟩; have B1 := Lib.hid b1; have HT := Lib.hid ht; clear b1 ht)))
  have ba := (Below.refl w1.heap.size w1).alloc (Nat.le_refl _) (.cells (jC name tb 0 0 0 (.slice none 0 0) 0 ⟨#[]⟩).toArray 77)
  exact bodyPost_ret (v := .tuple #[.pointer (some ⟨w1.heap.size, 0, none⟩), .int .i64 0]) (by simp [results, Tryd.results36, go_sem]) rfl ⟨w1.heap.size, tb, rfl, step_to B1.out ba, B1.out.size, heap_alloc_new w1 _, w1, HT.out, Nat.le_refl _, ba⟩
theorem challenge_any (g : Nat) (name : ByteArray) (tb : Nat) (st lc li asked : Int) (who : ByteArray) (D : Option Addr) (k d B : Nat) (l : List UInt8) (w : World) (h : Blk w g 77 (jC name tb st lc li (.slice D k d) asked who)) (hr : Rd w B D k l) (hB : B ≤ w.heap.size) (hnil : D = none → d = 0) (hk : k ≤ 140737488355328) :
    Calls Tryd.prog 44 #[.pointer (some ⟨g, 0, none⟩)] w fun e w' => ∃ D' k' d', e = .returned (.agg #[.int .i64 lc, .int .i64 li, .slice D' k' d']) ∧ Own w' w.heap.size (.slice D' k' d') l ∧ Below w.heap.size w w' := by
  obtain ⟨V, hV⟩ : ∃ V, w.alloc (.cells #[.int .i64 0, .int .i64 0, .slice none 0 0] 24) = V := ⟨_, rfl⟩
  have bV : Below w.heap.size w V := by rw [← hV]; exact (Below.refl _ _).alloc (Nat.le_refl _) _
  have zV : V.heap.size = w.heap.size + 1 := by rw [← hV]; simp
  have h0 : Blk V w.heap.size 24 [.int .i64 0, .int .i64 0, .slice none 0 0] := by rw [← hV]; exact heap_alloc_new w _
  have hg : Blk V g 77 (jC name tb st lc li (.slice D k d) asked who) := past_same h bV
  obtain ⟨U, hU⟩ : ∃ U, V.alloc (.cells #[.int .i64 lc, .int .i64 li, .slice D k d] 24) = U := ⟨_, rfl⟩
  have bU : Below V.heap.size V U := by rw [← hU]; exact (Below.refl _ _).alloc (Nat.le_refl _) _
  have zU : U.heap.size = V.heap.size + 1 := by rw [← hU]; simp
  have h1 : Blk U V.heap.size 24 [.int .i64 lc, .int .i64 li, .slice D k d] := by rw [← hU]; exact heap_alloc_new V _
  have BU := step_to bV bU
  have c3 : V.cell? ⟨g, 3, none⟩ = some (.int .i64 lc) := hg.cell 3
  have c4 : V.cell? ⟨g, 4, none⟩ = some (.int .i64 li) := hg.cell 4
  have c5 : V.cell? ⟨g, 5, none⟩ = some (.slice D k d) := hg.cell 5
  have u2 : U.cell? ⟨V.heap.size, 2, none⟩ = some (.slice D k d) := h1.cell 2
  have CL : Hid (Calls Tryd.prog 54 #[.slice D k d] U fun e w1 => ∃ D' k' d', e = .returned (.slice D' k' d') ∧ Blk w1 w.heap.size 24 [.int .i64 0, .int .i64 0, .slice none 0 0] ∧ ∃ w2, w1.setCell ⟨V.heap.size, 2, none⟩ (.slice D' k' d') = w2 ∧ Blk w1 V.heap.size 24 [.int .i64 lc, .int .i64 li, .slice D k d] ∧
      Blk w2 V.heap.size 24 [.int .i64 lc, .int .i64 li, .slice D' k' d'] ∧ Blk w2 w.heap.size 24 [.int .i64 0, .int .i64 0, .slice none 0 0] ∧ w.heap.size ≠ V.heap.size ∧
      ∀ W', w2.grownBy W' (some w.heap.size) → Own W' w.heap.size (.slice D' k' d') l ∧ Below w.heap.size w W') := by
    refine (bclone_any D k d B l U (hr.below (BU.mono hB)) (Nat.le_trans hB BU.size) hnil hk).mono ?_
    rintro e w1 ⟨v, rfl, o1, b1⟩
    obtain ⟨D', d', hv⟩ : ∃ D' d', v = .slice D' l.length d' := by
      rcases o1.form with ⟨e, hh⟩ | ⟨g', cap, e, _⟩
      · exact ⟨none, 0, by rw [e, hh]; rfl⟩
      · exact ⟨_, _, e⟩
    subst hv
    have k1 := past_same h1 b1
    have k0 := past_same (past_same h0 bU) b1
    have gs := gset' w1 V.heap.size 2 (.slice D' l.length d')
    refine ⟨D', _, d', rfl, k0, _, rfl, k1, Blk.set_ k1 2 _, blk_off k0 gs (by omega), by omega, fun W' gW => ?_⟩
    have hob := o1.block
    have hne : ∀ q, q < U.heap.size → (Value.slice D' l.length d').ownBlock = none ∨ (Value.slice D' l.length d').ownBlock ≠ some q := fun q hq => .inr fun e => by have := (hob q e).1; omega
    have h6 := (o1.grown gs (hne _ (by omega))).grown gW (hne _ (by omega))
    refine ⟨⟨h6.1, ?_⟩, below_row (below_row (step_to BU b1) gs (by omega)) gW (Nat.le_refl _)⟩
    rcases h6.2 with h | ⟨g', cap', cur, e1, e2, e3⟩
    · exact .inl h
    · exact .inr ⟨g', cap', cur, e1, by omega, e3⟩
  have HV := Lib.hid hV
  have HU := Lib.hid hU
  have lg : g < V.heap.size := Blk.lt hg
  clear h hV bV h0 hg hU bU zU h1 BU hr hB hnil hk zV
  go_enter Tryd.func44, Tryd.ntmps44
  go_wp2_with (first
    | (rw [HV.out])
    | (rw [HU.out])
    | (go_at_call 54; ((with_reducible refine CL.out.mono ?_); rintro e w1 ⟨D', k', d', rfl, k0, w2, hw2, k1, k2, k3, hne, f1⟩; have HW2 := Lib.hid hw2; have q0 := k1.cell 0; have q1 := k1.cell 1; have q2 := k1.cell 2; have g2 := k1.frozen 2; have l1 := Blk.lt k1; have s0 := k2.cell 0; have s1 := k2.cell 1; have s2 := k2.cell 2; have r0 := k3.cell 0; have r1 := k3.cell 1; have r2 := k3.cell 2; have f0 := k3.frozen 0; have f3 := k3.frozen 1; have f4 := k3.frozen 2; have l3 := Blk.lt k3; have K3 := Lib.hid k3; have F1 := Lib.hid f1; clear k0 k1 k2 k3 f1 hw2))
    | (rw [HW2.out]))
  have hb4 := blk3 (x := .int .i64 lc) (y := .int .i64 li) (z := .slice D' k' d') K3.out
  have p0 := hb4.cell 0
  have p1 := hb4.cell 1
  have p2 := hb4.cell 2
  obtain ⟨ff1, ff2⟩ := F1.out _ (gset3 w2 w.heap.size (.int .i64 lc) (.int .i64 li) (.slice D' k' d'))
  exact bodyPost_ret (v := .agg #[.int .i64 lc, .int .i64 li, .slice D' k' d']) (by simp [results, Tryd.results44, go_sem, p0, p1, p2]) rfl ⟨D', k', d', rfl, ff1, ff2⟩
end Go.Proofs.YtdijgmijnoiliaaDoor
