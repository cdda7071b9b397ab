/-
  chap's judge: New, Ask, challenge; a table as a finder; Told.
  chap.shown, Told (of what can be told).
  chap: a judge asks.
  chap: a judge decides and tells, where the Response holds.
  chap: a judge takes a Response that holds.
  chap's worked example: what comes of it, without running it.
  tetherlaw13.known is true.
-/
import Derived.Test.YtnklamclcliddaaDoorChTop
import Derived.Test.YtnklamclcliddaaDoorBytesClone
import Derived.Lib.ConvBytes
import Derived.Lib.AtoiErrMem
import Derived.Test.YtnklamclcliddaaDoorMdAw0
import Derived.Lib.SlBytesConst
namespace Go.Proofs.YtnklamclcliddaaDoor
open Go.RowKit Go.Shelf
set_option maxRecDepth 100000
set_option maxHeartbeats 1000000
set_option linter.unusedSimpArgs false
set_option linter.unusedVariables false

theorem word_tab (g : Nat) (ss : List Sec) (cl sv : ByteArray) (w : World) (h : TableAt w g ss) (hcl : cl.size ≤ maxLen) (hsv : sv.size ≤ maxLen) :
    Calls Tryd.prog 107 #[.func (.func 115) #[.pointer (some ⟨g, 0, none⟩)] #[], .string cl, .string sv] w (WordR w ss (bst ss cl sv)) := by
  obtain ⟨o, ho⟩ : ∃ o, bst ss cl sv = o := ⟨_, rfl⟩
  have C : Hid (Calls Tryd.prog 115 #[.pointer (some ⟨g, 0, none⟩), .string cl, .string sv] w fun e w1 => ∃ s1 s2 E m k b, e = .returned (.tuple #[.agg #[.string s1, .string s2, .string (wdS ss o), .slice E m k], .bool b]) ∧ Below w.heap.size w w1 ∧ (b = false → wdB ss o = false) ∧ (b = true → wdB ss o = !(wdS ss o).toList.isEmpty)) := by
    have F := tabFind_any g ss cl sv w h hcl hsv
    rw [ho] at F
    exact F.mono fun e w1 hh => bestR_box hh
  rw [ho]
  obtain ⟨s, hs⟩ : ∃ s, wdS ss o = s := ⟨_, rfl⟩
  obtain ⟨q, hq⟩ : ∃ q, wdB ss o = q := ⟨_, rfl⟩
  rw [hs, hq] at C
  have FN : Hid (∀ W, Below w.heap.size w W → WordR w ss o (.returned (.tuple #[.string s, .bool q])) W) := fun W hW => ⟨by rw [hs, hq], hW⟩
  clear ho h hcl hsv hs hq
  go_enter Tryd.func107, Tryd.ntmps107
  go_upto_region 2 with (go_at_call 115; ((with_reducible refine C.out.mono ?_); rintro e w1 ⟨s1, s2, E, m, k, b, rfl, b1, q1, q2⟩; have B1 := Lib.hid b1; have Q1 := Lib.hid q1; have Q2 := Lib.hid q2; clear b1 q1 q2 C))
  cases b
  · have e := Lib.hid (Q1.out rfl)
    clear Q1 Q2
    go_quiet (fail)
    go_wp2
    rw [e.out] at FN
    refine bodyPost_ret (v := .tuple #[.string s, .bool false]) (by simp [results, Tryd.results107, go_sem]) rfl (FN.out _ ?_)
    exact below_drewN (B1.out.alloc B1.out.size _) _
  · have e := Lib.hid (Q2.out rfl)
    clear Q1 Q2
    go_quiet (fail)
    go_wp2
    rw [e.out] at FN
    refine bodyPost_ret (v := .tuple #[.string s, .bool (!s.toList.isEmpty)]) (by simp [results, Tryd.results107, go_sem]) rfl (FN.out _ ?_)
    exact below_drewN (B1.out.alloc B1.out.size _) _
theorem finds_tab {W : World} {g : Nat} {ss : List Sec} (h : TableAt W g ss) : FindsC (.func (.func 115) #[.pointer (some ⟨g, 0, none⟩)] #[]) ss W :=
  fun W' hW' cl sv hcl hsv => word_tab g ss cl sv W' (h.later hW') hcl hsv
def jC (name : ByteArray) (tb : Nat) (st lc li : Int) (s : Value) (asked : Int) (who : ByteArray) : List Value := [.string name, .pointer (some ⟨tb, 0, none⟩), .int .i64 st, .int .i64 lc, .int .i64 li, s, .int .i64 asked, .string who]
theorem newJ_ok (name : ByteArray) (A : Option Addr) (n c B : Nat) (ss : List Sec) (w : World) (hn : name.size ≤ maxLen) (hb : nameB name = true) (hc : (chk ss).1 = 0) (h : SecRd w B A n ss) (hB : B ≤ w.heap.size) :
    Calls Tryd.prog 46 #[.string name, .slice A n c] w fun e w' => ∃ g tb, e = .returned (.tuple #[.pointer (some ⟨g, 0, none⟩), .int .i64 0]) ∧ Below w.heap.size w w' ∧ w.heap.size ≤ g ∧ Blk w' g 121 (jC name tb 0 0 0 (.slice none 0 0) 0 ⟨#[]⟩) ∧ ∃ wt, TableAt wt tb ss ∧ wt.heap.size ≤ g ∧ Below wt.heap.size wt w' := by
  have NM := Lib.hid (fun W => name_any name W hn)
  rw [hb] at NM
  have C : Hid (Calls Tryd.prog 60 #[.slice A n c] w fun e w1 => ∃ (tb : Nat) (z : Int), e = .returned (.tuple #[.pointer (some ⟨tb, 0, none⟩), .int .i64 0, .int .i64 z]) ∧ Below w.heap.size w w1 ∧ TableAt w1 tb ss) := by
    refine (new_any A n c B ss w h hB).mono ?_
    rintro e w1 ⟨b1, ⟨h1, -⟩ | ⟨-, tb, hg, rfl, ht, -⟩⟩
    · exact absurd hc h1
    · exact ⟨tb, 0, rfl, b1, ht⟩
  clear h hb hc
  go_enter Tryd.func46, Tryd.ntmps46
  go_wp2_with (first
    | (go_at_call 43; ((with_reducible refine (NM.out _).mono ?_); rintro e w' ⟨rfl, rfl⟩))
    | (go_at_call 60; ((with_reducible refine C.out.mono ?_); rintro e w1 ⟨tb, z, rfl, b1, ht⟩; have B1 := Lib.hid b1; have HT := Lib.hid ht; clear b1 ht)))
  have ba := (Below.refl w1.heap.size w1).alloc (Nat.le_refl _) (.cells (jC name tb 0 0 0 (.slice none 0 0) 0 ⟨#[]⟩).toArray 121)
  exact bodyPost_ret (v := .tuple #[.pointer (some ⟨w1.heap.size, 0, none⟩), .int .i64 0]) (by simp [results, Tryd.results46, go_sem]) rfl ⟨w1.heap.size, tb, rfl, step_to B1.out ba, B1.out.size, heap_alloc_new w1 _, w1, HT.out, Nat.le_refl _, ba⟩
theorem challenge_any (g : Nat) (name : ByteArray) (tb : Nat) (st lc li asked : Int) (who : ByteArray) (D : Option Addr) (k d B : Nat) (l : List UInt8) (w : World) (h : Blk w g 121 (jC name tb st lc li (.slice D k d) asked who)) (hr : Rd w B D k l) (hB : B ≤ w.heap.size) (hnil : D = none → d = 0) (hk : k ≤ 140737488355328) :
    Calls Tryd.prog 71 #[.pointer (some ⟨g, 0, none⟩)] w fun e w' => ∃ D' k' d', e = .returned (.agg #[.int .i64 lc, .int .i64 li, .slice D' k' d']) ∧ Own w' w.heap.size (.slice D' k' d') l ∧ Below w.heap.size w w' := by
  obtain ⟨V, hV⟩ : ∃ V, w.alloc (.cells #[.int .i64 0, .int .i64 0, .slice none 0 0] 24) = V := ⟨_, rfl⟩
  have bV : Below w.heap.size w V := by rw [← hV]; exact (Below.refl _ _).alloc (Nat.le_refl _) _
  have zV : V.heap.size = w.heap.size + 1 := by rw [← hV]; simp
  have h0 : Blk V w.heap.size 24 [.int .i64 0, .int .i64 0, .slice none 0 0] := by rw [← hV]; exact heap_alloc_new w _
  have hg : Blk V g 121 (jC name tb st lc li (.slice D k d) asked who) := past_same h bV
  obtain ⟨U, hU⟩ : ∃ U, V.alloc (.cells #[.int .i64 lc, .int .i64 li, .slice D k d] 24) = U := ⟨_, rfl⟩
  have bU : Below V.heap.size V U := by rw [← hU]; exact (Below.refl _ _).alloc (Nat.le_refl _) _
  have zU : U.heap.size = V.heap.size + 1 := by rw [← hU]; simp
  have h1 : Blk U V.heap.size 24 [.int .i64 lc, .int .i64 li, .slice D k d] := by rw [← hU]; exact heap_alloc_new V _
  have BU := step_to bV bU
  have c3 : V.cell? ⟨g, 3, none⟩ = some (.int .i64 lc) := hg.cell 3
  have c4 : V.cell? ⟨g, 4, none⟩ = some (.int .i64 li) := hg.cell 4
  have c5 : V.cell? ⟨g, 5, none⟩ = some (.slice D k d) := hg.cell 5
  have u2 : U.cell? ⟨V.heap.size, 2, none⟩ = some (.slice D k d) := h1.cell 2
  have CL : Hid (Calls Tryd.prog 92 #[.slice D k d] U fun e w1 => ∃ D' k' d', e = .returned (.slice D' k' d') ∧ Blk w1 w.heap.size 24 [.int .i64 0, .int .i64 0, .slice none 0 0] ∧ ∃ w2, w1.setCell ⟨V.heap.size, 2, none⟩ (.slice D' k' d') = w2 ∧ Blk w1 V.heap.size 24 [.int .i64 lc, .int .i64 li, .slice D k d] ∧
      Blk w2 V.heap.size 24 [.int .i64 lc, .int .i64 li, .slice D' k' d'] ∧ Blk w2 w.heap.size 24 [.int .i64 0, .int .i64 0, .slice none 0 0] ∧ w.heap.size ≠ V.heap.size ∧
      ∀ W', w2.grownBy W' (some w.heap.size) → Own W' w.heap.size (.slice D' k' d') l ∧ Below w.heap.size w W') := by
    refine (bclone_any D k d B l U (hr.below (BU.mono hB)) (Nat.le_trans hB BU.size) hnil hk).mono ?_
    rintro e w1 ⟨v, rfl, o1, b1⟩
    obtain ⟨D', d', hv⟩ : ∃ D' d', v = .slice D' l.length d' := by
      rcases o1.form with ⟨e, hh⟩ | ⟨g', cap, e, _⟩
      · exact ⟨none, 0, by rw [e, hh]; rfl⟩
      · exact ⟨_, _, e⟩
    subst hv
    have k1 := past_same h1 b1
    have k0 := past_same (past_same h0 bU) b1
    have gs := gset' w1 V.heap.size 2 (.slice D' l.length d')
    refine ⟨D', _, d', rfl, k0, _, rfl, k1, Blk.set_ k1 2 _, blk_off k0 gs (by omega), by omega, fun W' gW => ?_⟩
    have hob := o1.block
    have hne : ∀ q, q < U.heap.size → (Value.slice D' l.length d').ownBlock = none ∨ (Value.slice D' l.length d').ownBlock ≠ some q := fun q hq => .inr fun e => by have := (hob q e).1; omega
    have h6 := (o1.grown gs (hne _ (by omega))).grown gW (hne _ (by omega))
    refine ⟨⟨h6.1, ?_⟩, below_row (below_row (step_to BU b1) gs (by omega)) gW (Nat.le_refl _)⟩
    rcases h6.2 with h | ⟨g', cap', cur, e1, e2, e3⟩
    · exact .inl h
    · exact .inr ⟨g', cap', cur, e1, by omega, e3⟩
  have HV := Lib.hid hV
  have HU := Lib.hid hU
  have lg : g < V.heap.size := Blk.lt hg
  clear h hV bV h0 hg hU bU zU h1 BU hr hB hnil hk zV
  go_enter Tryd.func71, Tryd.ntmps71
  go_wp2_with (first
    | (rw [HV.out])
    | (rw [HU.out])
    | (go_at_call 92; ((with_reducible refine CL.out.mono ?_); rintro e w1 ⟨D', k', d', rfl, k0, w2, hw2, k1, k2, k3, hne, f1⟩; have HW2 := Lib.hid hw2; have q0 := k1.cell 0; have q1 := k1.cell 1; have q2 := k1.cell 2; have g2 := k1.frozen 2; have l1 := Blk.lt k1; have s0 := k2.cell 0; have s1 := k2.cell 1; have s2 := k2.cell 2; have r0 := k3.cell 0; have r1 := k3.cell 1; have r2 := k3.cell 2; have f0 := k3.frozen 0; have f3 := k3.frozen 1; have f4 := k3.frozen 2; have l3 := Blk.lt k3; have K3 := Lib.hid k3; have F1 := Lib.hid f1; clear k0 k1 k2 k3 f1 hw2))
    | (rw [HW2.out]))
  have hb4 := blk3 (x := .int .i64 lc) (y := .int .i64 li) (z := .slice D' k' d') K3.out
  have p0 := hb4.cell 0
  have p1 := hb4.cell 1
  have p2 := hb4.cell 2
  obtain ⟨ff1, ff2⟩ := F1.out _ (gset3 w2 w.heap.size (.int .i64 lc) (.int .i64 li) (.slice D' k' d'))
  exact bodyPost_ret (v := .agg #[.int .i64 lc, .int .i64 li, .slice D' k' d']) (by simp [results, Tryd.results71, go_sem, p0, p1, p2]) rfl ⟨D', k', d', rfl, ff1, ff2⟩
end Go.Proofs.YtnklamclcliddaaDoor
namespace Go.Proofs.YtnklamclcliddaaDoor
open Go.RowKit Go.Shelf
set_option maxRecDepth 100000
set_option maxHeartbeats 1000000
set_option linter.unusedSimpArgs false
set_option linter.unusedVariables false

def shc (c : UInt8) : Bool := decide (32 ≤ (c.toNat : Int)) && decide ((c.toNat : Int) ≤ 126)
def shB (s : ByteArray) : Bool := s.data.toList.all shc && decide ((s.size : Int) ≤ 255)
theorem shc_ways (c : UInt8) : (shc c = false ∧ (c.toNat : Int) < 32) ∨ (shc c = false ∧ ¬ (c.toNat : Int) < 32 ∧ 126 < (c.toNat : Int)) ∨ (shc c = true ∧ ¬ (c.toNat : Int) < 32 ∧ ¬ 126 < (c.toNat : Int)) := by
  unfold shc
  by_cases h1 : (c.toNat : Int) < 32
  · refine .inl ⟨?_, h1⟩
    rw [decide_eq_false (by omega)]
    rfl
  · by_cases h2 : 126 < (c.toNat : Int)
    · refine .inr (.inl ⟨?_, h1, h2⟩)
      rw [decide_eq_false (p := (c.toNat : Int) ≤ 126) (by omega)]
      simp
    · refine .inr (.inr ⟨?_, h1, h2⟩)
      rw [decide_eq_true (p := 32 ≤ (c.toNat : Int)) (by omega), decide_eq_true (p := (c.toNat : Int) ≤ 126) (by omega)]
      rfl
theorem sh_no {s : ByteArray} {k : Nat} (hk : k < s.size) (h : shc s[k] = false) : shB s = false := by
  have : s.data.toList.all shc = false := by
    rw [List.all_eq_false]
    exact ⟨s[k], by rw [← byteE s k hk]; exact List.getElem_mem _, by simp [h]⟩
  unfold shB
  rw [this]
  rfl
theorem shown_any (s : ByteArray) (w : World) (hs : s.size ≤ maxLen) : Calls Tryd.prog 44 #[.string s] w fun e w' => e = .returned (.bool (shB s)) ∧ w = w' := by
  unfold maxLen at hs
  go_enter Tryd.func44, Tryd.ntmps44
  go_wp2
  go_loop [6] (fun i => ∃ k : Nat, k ≤ s.size ∧ i = .int .i64 k ∧ (s.data.toList.take k).all shc = true) (fun i => s.size - (intOf i).toNat)
  case atStart => exact ⟨0, Nat.zero_le _, rfl, by simp⟩
  case round =>
    obtain ⟨k, hk, rfl, hall⟩ := hrel
    by_cases hlt : k < s.size
    · have HA := Lib.hid hall
      clear hall
      rcases shc_ways s[k] with ⟨h, q⟩ | ⟨h, q1, q⟩ | ⟨h, q1, q2⟩
      case' inr.inr =>
        have HT : Hid ((s.data.toList.take (k + 1)).all shc = true) := by
          show _ = _
          rw [takeB s k hlt, List.all_append, HA.out, List.all_cons, h]
          rfl
        clear h
        go_wp2
        go_round
        case rel => exact ⟨k + 1, by omega, by go_num, HT.out⟩
        case measure => simp [intOf]; omega
      all_goals
        have hn := Lib.hid (sh_no hlt h)
        clear h
        go_wp2
        go_ret
        exact ⟨by rw [hn.out]; rfl, rfl⟩
    · obtain rfl : k = s.size := by omega
      rw [List.take_of_length_le (by simp)] at hall
      have hn : Hid (shB s = decide ((s.size : Int) ≤ 255)) := by
        show _ = _
        unfold shB
        rw [hall]
        rfl
      clear hall
      go_wp2
      go_ret
      exact ⟨by rw [hn.out]; rfl, rfl⟩
theorem told_ok (code id : Int) (s : ByteArray) (w : World) (hc : code = 3 ∨ code = 4) (hi : idB id = true) (hs : s.size ≤ maxLen) (hsh : shB s = true) :
    Calls Tryd.prog 13 #[.int .i64 code, .int .i64 id, .string s] w fun e w' => Below w.heap.size w w' ∧ ∃ D k d, e = .returned (.tuple #[.agg #[.int .i64 code, .int .i64 id, .slice D k d], .int .i64 0]) ∧ Rd w' w'.heap.size D k s.data.toList := by
  obtain ⟨V, hV⟩ : ∃ V, w.alloc (.cells #[.int .i64 0, .int .i64 0, .slice none 0 0] 24) = V := ⟨_, rfl⟩
  have bV : Below w.heap.size w V := by rw [← hV]; exact (Below.refl _ _).alloc (Nat.le_refl _) _
  have h0 : Blk V w.heap.size 24 [.int .i64 0, .int .i64 0, .slice none 0 0] := by rw [← hV]; exact heap_alloc_new w _
  have lV := Blk.lt h0
  have CV : Hid (∃ D d U, (convert 9 22 (.string s)).run Tryd.prog V = .ok (.slice D s.size d) U ∧ Below V.heap.size V U ∧ (∀ W, U.grownBy W (some w.heap.size) → Rd W W.heap.size D s.size s.data.toList)) := by
    refine ⟨_, _, _, Lib.run_convert_string_bytes (P := Tryd.prog) V 9 22 5 s Tryd.underlying9 Tryd.underlying22 Tryd.underlying5, Lib.bytesWorld_below _ _ _, fun W hW => ?_⟩
    have hz := Lib.bytesWorld_size V 5 s
    have hsz := hW.size
    refine ⟨by simp, fun _ => ⟨V.heap.size, 0, rfl, by omega, fun j hj => ?_⟩⟩
    have hb := hW.block V.heap.size (by omega) (by intro e; injection e with e; omega)
    have hcell := Lib.bytesWorld_cell V 5 s j hj
    rw [Nat.zero_add]
    have : W.cell? ⟨V.heap.size, j, none⟩ = (Lib.bytesWorld V 5 s).cell? ⟨V.heap.size, j, none⟩ := by simp [World.cell?, hb]
    rw [this, hcell]
    rfl
  obtain ⟨D, d, U, hcv, bU, hrd⟩ := CV.out
  have h1 := past_same h0 bU
  have r0 := h1.cell 0
  have r1 := h1.cell 1
  have r2 := h1.cell 2
  have e0 := h1.frozen 0
  have e1 := h1.frozen 1
  have e2 := h1.frozen 2
  have lr := Blk.lt h1
  have hb4 := blk3 (x := .int .i64 code) (y := .int .i64 id) (z := .slice D s.size d) h1
  have p0 := hb4.cell 0
  have p1 := hb4.cell 1
  have p2 := hb4.cell 2
  have FN : Hid (Below w.heap.size w (((U.setCell ⟨w.heap.size, 0, none⟩ (.int .i64 code)).setCell ⟨w.heap.size, 1, none⟩ (.int .i64 id)).setCell ⟨w.heap.size, 2, none⟩ (.slice D s.size d)) ∧ Rd (((U.setCell ⟨w.heap.size, 0, none⟩ (.int .i64 code)).setCell ⟨w.heap.size, 1, none⟩ (.int .i64 id)).setCell ⟨w.heap.size, 2, none⟩ (.slice D s.size d)) (((U.setCell ⟨w.heap.size, 0, none⟩ (.int .i64 code)).setCell ⟨w.heap.size, 1, none⟩ (.int .i64 id)).setCell ⟨w.heap.size, 2, none⟩ (.slice D s.size d)).heap.size D s.size s.data.toList) :=
    ⟨below_row (step_to bV bU) (gset3 _ _ _ _ _) (Nat.le_refl _), hrd _ (gset3 _ _ _ _ _)⟩
  have HV := Lib.hid hV
  have SH := Lib.hid (fun W => shown_any s W hs)
  have IDR := Lib.hid (fun W => idRight_any id W)
  rw [hsh] at SH
  rw [hi] at IDR
  clear hV bV h0 lV CV bU hrd h1 hb4 hs hsh hi
  rcases hc with rfl | rfl
  all_goals
    go_enter Tryd.func13, Tryd.ntmps13
    go_wp2_with (first
      | (rw [HV.out])
      | (go_at_call 42; ((with_reducible refine (IDR.out _).mono ?_); rintro e w' ⟨rfl, rfl⟩))
      | (go_at_call 44; ((with_reducible refine (SH.out _).mono ?_); rintro e w' ⟨rfl, rfl⟩)))
    first
      | exact bodyPost_ret (v := .tuple #[.agg #[.int .i64 3, .int .i64 id, .slice D s.size d], .int .i64 0]) (by simp [results, Tryd.results13, go_sem, p0, p1, p2]) rfl ⟨FN.out.1, D, _, d, rfl, FN.out.2⟩
      | exact bodyPost_ret (v := .tuple #[.agg #[.int .i64 4, .int .i64 id, .slice D s.size d], .int .i64 0]) (by simp [results, Tryd.results13, go_sem, p0, p1, p2]) rfl ⟨FN.out.1, D, _, d, rfl, FN.out.2⟩
end Go.Proofs.YtnklamclcliddaaDoor
namespace Go.Proofs.YtnklamclcliddaaDoor
open Go.RowKit Go.Shelf
set_option maxRecDepth 100000
set_option maxHeartbeats 1000000
set_option linter.unusedSimpArgs false
set_option linter.unusedVariables false

/-- a world where one block may have been written, and new ones laid -/
def AskR (w : World) (g : Nat) (name : ByteArray) (tb : Nat) (id : Int) (who : ByteArray) (l : List UInt8) (e : Ending) (w' : World) : Prop :=
  ∃ D k d D1 k1 d1, e = .returned (.tuple #[.agg #[.int .i64 1, .int .i64 id, .slice D k d], .int .i64 0]) ∧ Own w' w.heap.size (.slice D k d) l ∧ Own w' w.heap.size (.slice D1 k1 d1) l ∧ w.grownBy w' (some g) ∧ Blk w' g 121 (jC name tb 1 1 id (.slice D1 k1 d1) 1 who)
theorem own_base {w : World} {b b' : Nat} {v : Value} {l : List UInt8} (h : Own w b v l) (hb : b' ≤ b) : Own w b' v l := by
  refine ⟨h.1, ?_⟩
  rcases h.2 with h | ⟨g', cap', cur, e1, e2, e3⟩
  · exact .inl h
  · exact .inr ⟨g', cap', cur, e1, by omega, e3⟩
theorem below_some {W W' : World} {g : Nat} (h : Below W.heap.size W W') : W.grownBy W' (some g) := below_only h
theorem grown_new {w W W' : World} {g : Nat} (h : w.grownBy W (some g)) (k : W.grownBy W' (some w.heap.size)) : w.grownBy W' (some g) :=
  ⟨k.os.trans h.os, k.tape.trans h.tape, k.output.trans h.output, Nat.le_trans h.size k.size, fun i hi hne => (k.block i (Nat.lt_of_lt_of_le hi h.size) (by intro e; injection e with e; omega)).trans (h.block i hi hne)⟩
theorem ask_ok (g : Nat) (name : ByteArray) (tb : Nat) (st lc li asked : Int) (s0 : Value) (who : ByteArray) (id : Int) (A : Option Addr) (n c B : Nat) (l : List UInt8) (w : World)
    (h : Blk w g 121 (jC name tb st lc li s0 asked who)) (hr : Rd w B A n l) (hB : B ≤ w.heap.size) (hnil : A = none → c = 0) (hm : n ≤ 140737488355328) (hs : name.size ≤ maxLen) (he : mkE 1 id n name = 0) (hL : (mkL l name).length ≤ 140737488355328) :
    Calls Tryd.prog 47 #[.pointer (some ⟨g, 0, none⟩), .int .i64 id, .slice A n c] w (AskR w g name tb id who (mkL l name)) := by
  obtain ⟨L, hLe⟩ : ∃ L, mkL l name = L := ⟨_, rfl⟩
  rw [hLe] at hL
  obtain ⟨V, hV⟩ : ∃ V, w.alloc (.cells #[.int .i64 0, .int .i64 0, .slice none 0 0] 24) = V := ⟨_, rfl⟩
  have bV : Below w.heap.size w V := by rw [← hV]; exact (Below.refl _ _).alloc (Nat.le_refl _) _
  have h0 : Blk V w.heap.size 24 [.int .i64 0, .int .i64 0, .slice none 0 0] := by rw [← hV]; exact heap_alloc_new w _
  have hg : Blk V g 121 (jC name tb st lc li s0 asked who) := past_same h bV
  have lg : g < w.heap.size := Blk.lt h
  have c0 : V.cell? ⟨g, 0, none⟩ = some (.string name) := hg.cell 0
  have C : Hid (Calls Tryd.prog 9 #[.int .i64 1, .int .i64 id, .slice A n c, .string name] V fun e w1 => ∃ D1 k1 d1, e = .returned (.tuple #[.agg #[.int .i64 1, .int .i64 id, .slice D1 k1 d1], .int .i64 0]) ∧
      ∃ V2, w1.alloc (.cells #[.int .i64 1, .int .i64 id, .slice D1 k1 d1] 24) = V2 ∧ Blk V2 w1.heap.size 24 [.int .i64 1, .int .i64 id, .slice D1 k1 d1] ∧ Blk V2 g 121 (jC name tb st lc li s0 asked who) ∧
      ∃ X, ((((V2.setCell ⟨g, 3, none⟩ (.int .i64 1)).setCell ⟨g, 4, none⟩ (.int .i64 id)).setCell ⟨g, 5, none⟩ (.slice D1 k1 d1)).setCell ⟨g, 2, none⟩ (.int .i64 1)).setCell ⟨g, 6, none⟩ (.int .i64 1) = X ∧
      Calls Tryd.prog 71 #[.pointer (some ⟨g, 0, none⟩)] X fun e w3 => ∃ D k d, e = .returned (.agg #[.int .i64 1, .int .i64 id, .slice D k d]) ∧ Blk w3 w.heap.size 24 [.int .i64 0, .int .i64 0, .slice none 0 0] ∧
        ∀ W', w3.grownBy W' (some w.heap.size) → AskR w g name tb id who L (.returned (.tuple #[.agg #[.int .i64 1, .int .i64 id, .slice D k d], .int .i64 0])) W') := by
    have M := make_any 1 id A n c B l name V (hr.below (bV.mono hB)) (Nat.le_trans hB bV.size) hnil hm hs
    rw [he, hLe] at M
    refine M.mono ?_
    rintro e w1 ⟨b1, D1, k1, d1, rfl, o1⟩
    simp only [if_true] at o1 ⊢
    have b2 := (Below.refl w1.heap.size w1).alloc (Nat.le_refl _) (.cells #[.int .i64 1, .int .i64 id, .slice D1 k1 d1] 24)
    have z2 : (w1.alloc (.cells #[.int .i64 1, .int .i64 id, .slice D1 k1 d1] 24)).heap.size = w1.heap.size + 1 := by simp
    have n2 := heap_alloc_new w1 (.cells #[.int .i64 1, .int .i64 id, .slice D1 k1 d1] 24)
    obtain ⟨V2, hV2⟩ : ∃ V2, w1.alloc (.cells #[.int .i64 1, .int .i64 id, .slice D1 k1 d1] 24) = V2 := ⟨_, rfl⟩
    rw [hV2] at b2 z2 n2
    have g2 : Blk V2 g 121 (jC name tb st lc li s0 asked who) := past_same (past_same hg b1) b2
    have B2 := step_to (step_to bV b1) b2
    obtain ⟨X, hX⟩ : ∃ X, ((((V2.setCell ⟨g, 3, none⟩ (.int .i64 1)).setCell ⟨g, 4, none⟩ (.int .i64 id)).setCell ⟨g, 5, none⟩ (.slice D1 k1 d1)).setCell ⟨g, 2, none⟩ (.int .i64 1)).setCell ⟨g, 6, none⟩ (.int .i64 1) = X := ⟨_, rfl⟩
    have gX : V2.grownBy X (some g) := by
      rw [← hX]
      exact gtrans' (gtrans' (gtrans' (gtrans' (gset' _ _ _ _) (gset' _ _ _ _)) (gset' _ _ _ _)) (gset' _ _ _ _)) (gset' _ _ _ _)
    have kX : Blk X g 121 (jC name tb 1 1 id (.slice D1 k1 d1) 1 who) := by
      rw [← hX]
      exact ((((g2.set_ 3 _).set_ 4 _).set_ 5 _).set_ 2 _).set_ 6 _
    have pX : Blk X w.heap.size 24 [.int .i64 0, .int .i64 0, .slice none 0 0] := blk_off (past_same (past_same h0 b1) b2) gX (by omega)
    have hob := o1.block
    have hne : (Value.slice D1 k1 d1).ownBlock = none ∨ (Value.slice D1 k1 d1).ownBlock ≠ some g := .inr fun e => by have := (hob g e).1; have := bV.size; omega
    have oX := (o1.later b2).grown gX hne
    have RX := own_rd oX
    refine ⟨D1, k1, d1, rfl, V2, hV2, n2, g2, X, hX, ?_⟩
    refine (challenge_any g name tb 1 1 id 1 who D1 k1 d1 X.heap.size L X kX RX.1 (Nat.le_refl _) RX.2.2 (by have := RX.1.1; omega)).mono ?_
    rintro e w3 ⟨D, k, d, rfl, o3, b3⟩
    refine ⟨D, k, d, rfl, past_same pX b3, fun W' hW => ?_⟩
    have lw : w.heap.size < X.heap.size := Blk.lt pX
    have hne1 : (Value.slice D1 k1 d1).ownBlock = none ∨ (Value.slice D1 k1 d1).ownBlock ≠ some w.heap.size := .inr fun e => by
      have h1 := (hob _ e).1
      have h2 := Blk.lt h0
      omega
    have hne3 : (Value.slice D k d).ownBlock = none ∨ (Value.slice D k d).ownBlock ≠ some w.heap.size := .inr fun e => by have := (o3.block _ e).1; omega
    refine ⟨D, k, d, D1, k1, d1, rfl, own_base (o3.grown hW hne3) (Nat.le_of_lt lw), own_base ((oX.later b3).grown hW hne1) bV.size, ?_, blk_off (past_same kX b3) hW (by omega)⟩
    exact grown_new (gtrans' (gtrans' (below_some B2) gX) (below_some b3)) hW
  rw [hLe]
  have HV := Lib.hid hV
  have LG := Lib.hid lg
  clear bV h0 hg h hr hB hnil hm hs he hL hLe hV lg
  go_enter Tryd.func47, Tryd.ntmps47
  go_wp2_with (first
    | (rw [HV.out])
    | (go_at_call 9; ((with_reducible refine C.out.mono ?_); rintro e w1 ⟨D1, k1, d1, rfl, V2, hV2, n2, g2, X, hX, n1⟩; have HV2 := Lib.hid hV2; have HX := Lib.hid hX; have q0 := n2.cell 0; have q1 := n2.cell 1; have q2 := n2.cell 2; have l1 := Blk.lt n2; have lg := Blk.lt g2; have f2 := g2.frozen 2; have f3 := g2.frozen 3; have f4 := g2.frozen 4; have f5 := g2.frozen 5; have f6 := g2.frozen 6; have u2 : V2.cell? ⟨g, 2, none⟩ = some (.int .i64 st) := g2.cell 2; have u3 : V2.cell? ⟨g, 3, none⟩ = some (.int .i64 lc) := g2.cell 3; have u4 : V2.cell? ⟨g, 4, none⟩ = some (.int .i64 li) := g2.cell 4; have u5 : V2.cell? ⟨g, 5, none⟩ = some s0 := g2.cell 5; have u6 : V2.cell? ⟨g, 6, none⟩ = some (.int .i64 asked) := g2.cell 6; have C1 := Lib.hid n1; clear n1 n2 g2 hV2 hX C))
    | (rw [HV2.out])
    | (rw [HX.out])
    | (go_at_call 71; ((with_reducible refine C1.out.mono ?_); rintro e w3 ⟨D, k, d, rfl, k3, f1⟩; have r0 := k3.cell 0; have r1 := k3.cell 1; have r2 := k3.cell 2; have e0 := k3.frozen 0; have e1 := k3.frozen 1; have e2 := k3.frozen 2; have l3 := Blk.lt k3; have K3 := Lib.hid k3; have F1 := Lib.hid f1; clear k3 f1)))
  have hb4 := blk3 (x := .int .i64 1) (y := .int .i64 id) (z := .slice D k d) K3.out
  have p0 := hb4.cell 0
  have p1 := hb4.cell 1
  have p2 := hb4.cell 2
  exact bodyPost_ret (v := .tuple #[.agg #[.int .i64 1, .int .i64 id, .slice D k d], .int .i64 0]) (by simp [results, Tryd.results47, go_sem, p0, p1, p2]) rfl (F1.out _ (gset3 _ _ _ _ _))
end Go.Proofs.YtnklamclcliddaaDoor
namespace Go.Proofs.YtnklamclcliddaaDoor
open Go.RowKit Go.Shelf
set_option maxRecDepth 100000
set_option maxHeartbeats 1000000
set_option linter.unusedSimpArgs false
set_option linter.unusedVariables false

def DecR (w : World) (g : Nat) (name : ByteArray) (tb : Nat) (lc li : Int) (s : Value) (asked : Int) (who : ByteArray) (e : Ending) (w' : World) : Prop :=
  e = .returned (.int .i64 0) ∧ w.grownBy w' (some g) ∧ Blk w' g 121 (jC name tb 2 lc li s asked who)
theorem decide_ok (g : Nat) (name : ByteArray) (tb : Nat) (li asked : Int) (who0 who : ByteArray) (ri : Int) (A E : Option Addr) (n c m me : Nat) (l rl : List UInt8) (ss : List Sec) (w : World)
    (h : Blk w g 121 (jC name tb 1 1 li (.slice A n c) asked who0)) (hq : Rd w w.heap.size A n l) (hr : Rd w w.heap.size E m rl) (hn : n ≤ 140737488355328) (hm : m ≤ 140737488355328) (hnm : name.size ≤ maxLen) (ht : TableAt w tb ss) (hK : TabK w) (hS : TabS w)
    (he : hoE 1 li l 2 ri rl name ss = 0) (hs : hoS 1 li l 2 ri rl name ss = who) :
    Calls Tryd.prog 110 #[.pointer (some ⟨g, 0, none⟩), .agg #[.int .i64 2, .int .i64 ri, .slice E m me]] w (DecR w g name tb 1 li (.slice A n c) asked who) := by
  obtain ⟨V, hV⟩ : ∃ V, w.alloc (.cells #[.int .i64 2, .int .i64 ri, .slice E m me] 117) = V := ⟨_, rfl⟩
  have bV : Below w.heap.size w V := by rw [← hV]; exact (Below.refl _ _).alloc (Nat.le_refl _) _
  have h0 : Blk V w.heap.size 117 [.int .i64 2, .int .i64 ri, .slice E m me] := by rw [← hV]; exact heap_alloc_new w _
  have hg : Blk V g 121 (jC name tb 1 1 li (.slice A n c) asked who0) := past_same h bV
  have lg : g < w.heap.size := Blk.lt h
  have hmf : ∀ (fn : Fn) (first cap : Array Value) (w : World), (Instr.makeFunc fn first cap).run Tryd.prog w = .ok (.func fn first cap) w := fun _ _ _ _ => rfl
  have a0 : V.cell? ⟨g, 0, none⟩ = some (.string name) := hg.cell 0
  have a1 : V.cell? ⟨g, 1, none⟩ = some (.pointer (some ⟨tb, 0, none⟩)) := hg.cell 1
  have a3 : V.cell? ⟨g, 3, none⟩ = some (.int .i64 1) := hg.cell 3
  have a4 : V.cell? ⟨g, 4, none⟩ = some (.int .i64 li) := hg.cell 4
  have a5 : V.cell? ⟨g, 5, none⟩ = some (.slice A n c) := hg.cell 5
  have v0 := h0.cell 0
  have v1 := h0.cell 1
  have v2 := h0.cell 2
  have C : Hid (∀ W, Below V.heap.size V W → Calls Tryd.prog 45 #[.agg #[.int .i64 1, .int .i64 li, .slice A n c]] W fun e w1 => e = .returned (.iface 116 (.agg #[.int .i64 1, .int .i64 li, .slice A n c])) ∧ Blk w1 w.heap.size 117 [.int .i64 2, .int .i64 ri, .slice E m me] ∧ Blk w1 g 121 (jC name tb 1 1 li (.slice A n c) asked who0) ∧
      ∀ W, Below w1.heap.size w1 W → Calls Tryd.prog 118 #[.iface 116 (.agg #[.int .i64 1, .int .i64 li, .slice A n c]), .iface 117 (.agg #[.int .i64 2, .int .i64 ri, .slice E m me]), .string name, .func (.func 115) #[.pointer (some ⟨tb, 0, none⟩)] #[]] W fun e w2 => e = .returned (.tuple #[.string who, .int .i64 0]) ∧ Blk w2 w.heap.size 117 [.int .i64 2, .int .i64 ri, .slice E m me] ∧ Blk w2 g 121 (jC name tb 1 1 li (.slice A n c) asked who0) ∧
        DecR w g name tb 1 li (.slice A n c) asked who (.returned (.int .i64 0)) ((w2.setCell ⟨g, 2, none⟩ (.int .i64 2)).setCell ⟨g, 7, none⟩ (.string who))) := by
    intro W0 bk
    refine (kindOf_any 1 li A n c W0).mono ?_
    rintro e w1 ⟨rfl, hw1⟩
    have b1 : Below V.heap.size V w1 := by rw [hw1]; exact bk.alloc bk.size _
    have B1 := step_to bV b1
    refine ⟨rfl, past_same h0 b1, past_same hg b1, fun W1 b2 => ?_⟩
    have B2 := step_to B1 b2
    have HO := holds_any 2 ri E m me rl 1 li A n c w.heap.size l name (.func (.func 115) #[.pointer (some ⟨tb, 0, none⟩)] #[]) ss W1 (hq.below B2) (hr.below B2) B2.size hn hm hnm (finds_tab (ht.later B2)) (hK.kept B2) (hS.kept B2)
    rw [he, hs] at HO
    refine HO.mono ?_
    rintro e w2 ⟨rfl, b3⟩
    have B3 := step_to B2 b3
    have g3 : Blk w2 g 121 (jC name tb 1 1 li (.slice A n c) asked who0) := past_same h B3
    exact ⟨rfl, past_same h0 (step_to (step_to b1 b2) b3), g3, rfl, gtrans' (below_some B3) (gtrans' (gset' _ _ _ _) (gset' _ _ _ _)), (g3.set_ 2 _).set_ 7 _⟩
  have HA := Lib.hid (Below.refl V.heap.size V)
  have HA1 : Hid (Below V.heap.size V V.drew) := below_drewS (Below.refl V.heap.size V) 1
  have HV := Lib.hid hV
  clear hV bV h0 hg h hq hr hn hm hnm ht hK hS he hs
  go_enter Tryd.func110, Tryd.ntmps110
  go_upto_region 1 with (rw [HV.out])
  go_region_held3 (fun w' => w'.cell? ⟨w.heap.size, 0, none⟩ = some (.int .i64 2) ∧ w'.cell? ⟨w.heap.size, 1, none⟩ = some (.int .i64 ri) ∧ w'.cell? ⟨w.heap.size, 2, none⟩ = some (.slice E m me) ∧ w'.cell? ⟨g, 0, none⟩ = some (.string name) ∧ w'.cell? ⟨g, 1, none⟩ = some (.pointer (some ⟨tb, 0, none⟩)) ∧ w'.cell? ⟨g, 3, none⟩ = some (.int .i64 1) ∧ w'.cell? ⟨g, 4, none⟩ = some (.int .i64 li) ∧ w'.cell? ⟨g, 5, none⟩ = some (.slice A n c)) (go_keep) (first
    | (go_at_call 45; ((with_reducible first | refine (C.out _ HA1.out).mono ?_ | refine (C.out _ HA.out).mono ?_); rintro e w1 ⟨rfl, k1, k2, n1⟩; have s0 := k1.cell 0; have s1 := k1.cell 1; have s2 := k1.cell 2; have j0 : w1.cell? ⟨g, 0, none⟩ = some (.string name) := k2.cell 0; have j1 : w1.cell? ⟨g, 1, none⟩ = some (.pointer (some ⟨tb, 0, none⟩)) := k2.cell 1; have j3 : w1.cell? ⟨g, 3, none⟩ = some (.int .i64 1) := k2.cell 3; have j4 : w1.cell? ⟨g, 4, none⟩ = some (.int .i64 li) := k2.cell 4; have j5 : w1.cell? ⟨g, 5, none⟩ = some (.slice A n c) := k2.cell 5; have C1 := Lib.hid n1; have HB := Lib.hid (Below.refl w1.heap.size w1); have HB1 : Hid (Below w1.heap.size w1 w1.drew) := below_drewS (Below.refl w1.heap.size w1) 1; clear k1 k2 n1))
    | (go_at_call 118; ((with_reducible first | refine (C1.out _ HB.out).mono ?_ | refine (C1.out _ HB1.out).mono ?_); rintro e w2 ⟨rfl, k1, k2, n1⟩; have l2 := Blk.lt k2; have z0 := k1.cell 0; have z1 := k1.cell 1; have z2 := k1.cell 2; have i0 : w2.cell? ⟨g, 0, none⟩ = some (.string name) := k2.cell 0; have i1 : w2.cell? ⟨g, 1, none⟩ = some (.pointer (some ⟨tb, 0, none⟩)) := k2.cell 1; have i3 : w2.cell? ⟨g, 3, none⟩ = some (.int .i64 1) := k2.cell 3; have i4 : w2.cell? ⟨g, 4, none⟩ = some (.int .i64 li) := k2.cell 4; have i5 : w2.cell? ⟨g, 5, none⟩ = some (.slice A n c) := k2.cell 5; have m2 : w2.cell? ⟨g, 2, none⟩ = some (.int .i64 1) := k2.cell 2; have m7 : w2.cell? ⟨g, 7, none⟩ = some (.string who0) := k2.cell 7; have f2 := k2.frozen 2; have f7 := k2.frozen 7; have F := Lib.hid n1; clear k1 k2 n1)))
  all_goals
    go_wp2
    exact bodyPost_ret (v := .int .i64 0) (by simp [results, Tryd.results110, go_sem]) rfl F.out
end Go.Proofs.YtnklamclcliddaaDoor
namespace Go.Proofs.YtnklamclcliddaaDoor
open Go.RowKit Go.Shelf
set_option maxRecDepth 100000
set_option maxHeartbeats 1000000
set_option linter.unusedSimpArgs false
set_option linter.unusedVariables false

theorem rd_up {w : World} {B B' n : Nat} {A : Option Addr} {l : List UInt8} (h : Rd w B A n l) (hb : B ≤ B') : Rd w B' A n l :=
  ⟨h.1, fun hn => by obtain ⟨b, off, e, hlt, hc⟩ := h.2 hn; exact ⟨b, off, e, Nat.lt_of_lt_of_le hlt hb, hc⟩⟩
theorem grown_past {w W W' : World} {g k : Nat} (h : w.grownBy W (some g)) (hk : w.heap.size ≤ k) (q : W.grownBy W' (some k)) : w.grownBy W' (some g) :=
  ⟨q.os.trans h.os, q.tape.trans h.tape, q.output.trans h.output, Nat.le_trans h.size q.size, fun i hi hne => (q.block i (Nat.lt_of_lt_of_le hi h.size) (by intro e; injection e with e; omega)).trans (h.block i hi hne)⟩
theorem verdict_ok (g : Nat) (name : ByteArray) (tb : Nat) (lc li asked : Int) (s : Value) (who : ByteArray) (w : World) (h : Blk w g 121 (jC name tb 2 lc li s asked who)) (hi : idB li = true) :
    Calls Tryd.prog 111 #[.pointer (some ⟨g, 0, none⟩)] w fun e w' => Below w.heap.size w w' ∧ ∃ D k d, e = .returned (.tuple #[.agg #[.int .i64 3, .int .i64 li, .slice D k d], .int .i64 0]) := by
  obtain ⟨V, hV⟩ : ∃ V, w.alloc (.cells #[.int .i64 0, .int .i64 0, .slice none 0 0] 24) = V := ⟨_, rfl⟩
  have bV : Below w.heap.size w V := by rw [← hV]; exact (Below.refl _ _).alloc (Nat.le_refl _) _
  have h0 : Blk V w.heap.size 24 [.int .i64 0, .int .i64 0, .slice none 0 0] := by rw [← hV]; exact heap_alloc_new w _
  have hg := past_same h bV
  have a2 : V.cell? ⟨g, 2, none⟩ = some (.int .i64 2) := hg.cell 2
  have a4 : V.cell? ⟨g, 4, none⟩ = some (.int .i64 li) := hg.cell 4
  have C : Hid (Calls Tryd.prog 13 #[.int .i64 3, .int .i64 li, .string { data := #[119, 101, 108, 99, 111, 109, 101] }] V fun e w1 => ∃ D k d, e = .returned (.tuple #[.agg #[.int .i64 3, .int .i64 li, .slice D k d], .int .i64 0]) ∧ Blk w1 w.heap.size 24 [.int .i64 0, .int .i64 0, .slice none 0 0] ∧ ∀ W', w1.grownBy W' (some w.heap.size) → Below w.heap.size w W') := by
    refine (told_ok 3 li { data := #[119, 101, 108, 99, 111, 109, 101] } V (.inl rfl) hi (by decide) (by decide)).mono ?_
    rintro e w1 ⟨b1, D, k, d, rfl, -⟩
    exact ⟨D, k, d, rfl, past_same h0 b1, fun W' hW => below_row (step_to bV b1) hW (Nat.le_refl _)⟩
  have HV := Lib.hid hV
  clear hV bV h0 hg h hi
  go_enter Tryd.func111, Tryd.ntmps111
  go_wp2_with (first
    | (rw [HV.out])
    | (go_at_call 13; ((with_reducible refine C.out.mono ?_); rintro e w1 ⟨D, k, d, rfl, k3, f1⟩; have r0 := k3.cell 0; have r1 := k3.cell 1; have r2 := k3.cell 2; have e0 := k3.frozen 0; have e1 := k3.frozen 1; have e2 := k3.frozen 2; have l3 := Blk.lt k3; have K3 := Lib.hid k3; have F1 := Lib.hid f1; clear k3 f1)))
  have hb4 := blk3 (x := .int .i64 3) (y := .int .i64 li) (z := .slice D k d) K3.out
  have p0 := hb4.cell 0
  have p1 := hb4.cell 1
  have p2 := hb4.cell 2
  exact bodyPost_ret (v := .tuple #[.agg #[.int .i64 3, .int .i64 li, .slice D k d], .int .i64 0]) (by simp [results, Tryd.results111, go_sem, p0, p1, p2]) rfl ⟨F1.out _ (gset3 _ _ _ _ _), D, k, d, rfl⟩
/-- a judge that waits -/
def JOk (w : World) (g : Nat) (name : ByteArray) (tb : Nat) (li asked : Int) (who0 : ByteArray) (A : Option Addr) (n c : Nat) (l : List UInt8) (ss : List Sec) : Prop :=
  Blk w g 121 (jC name tb 1 1 li (.slice A n c) asked who0) ∧ Rd w w.heap.size A n l ∧ TableAt w tb ss ∧ TabK w ∧ TabS w
theorem JOk.later {w w' : World} {g : Nat} {name : ByteArray} {tb : Nat} {li asked : Int} {who0 : ByteArray} {A : Option Addr} {n c : Nat} {l : List UInt8} {ss : List Sec} (h : JOk w g name tb li asked who0 A n c l ss) (b : Below w.heap.size w w') : JOk w' g name tb li asked who0 A n c l ss :=
  ⟨past_same h.1 b, rd_up (h.2.1.below b) b.size, h.2.2.1.later b, h.2.2.2.1.kept b, h.2.2.2.2.kept b⟩
def TakR (w : World) (g : Nat) (name : ByteArray) (tb : Nat) (li : Int) (s : Value) (asked : Int) (who : ByteArray) (e : Ending) (w' : World) : Prop :=
  ∃ D k d, e = .returned (.tuple #[.agg #[.int .i64 3, .int .i64 li, .slice D k d], .int .i64 0]) ∧ w.grownBy w' (some g) ∧ Blk w' g 121 (jC name tb 2 1 li s asked who)
theorem hear_ok (g : Nat) (name : ByteArray) (tb : Nat) (li asked : Int) (who0 who : ByteArray) (A E : Option Addr) (n c m me : Nat) (l rl : List UInt8) (ss : List Sec) (w : World)
    (h : JOk w g name tb li asked who0 A n c l ss) (hr : Rd w w.heap.size E m rl) (hn : n ≤ 140737488355328) (hm : m ≤ 140737488355328) (hnm : name.size ≤ maxLen)
    (hi : idB li = true) (he : hoE 1 li l 2 li rl name ss = 0) (hs : hoS 1 li l 2 li rl name ss = who) :
    Calls Tryd.prog 96 #[.pointer (some ⟨g, 0, none⟩), .agg #[.int .i64 2, .int .i64 li, .slice E m me]] w (TakR w g name tb li (.slice A n c) asked who) := by
  obtain ⟨V, hV⟩ : ∃ V, (w.alloc (.cells #[.int .i64 2, .int .i64 li, .slice E m me] 117)).alloc (.cells #[.int .i64 0, .int .i64 0, .slice none 0 0] 24) = V := ⟨_, rfl⟩
  have bV : Below w.heap.size w V := by rw [← hV]; exact ((Below.refl _ _).alloc (Nat.le_refl _) _).alloc (by simp) _
  have h0 : Blk V w.heap.size 117 [.int .i64 2, .int .i64 li, .slice E m me] := by
    rw [← hV]
    exact (Below.heap_alloc _ _ _ (by simp)).trans (heap_alloc_new w _)
  have h1 : Blk V (w.heap.size + 1) 24 [.int .i64 0, .int .i64 0, .slice none 0 0] := by
    rw [← hV]
    have h := heap_alloc_new (w.alloc (.cells #[.int .i64 2, .int .i64 li, .slice E m me] 117)) (.cells #[.int .i64 0, .int .i64 0, .slice none 0 0] 24)
    rw [World.size_alloc] at h
    exact h
  have hV1 := h.later bV
  have hr1 := rd_up (hr.below bV) bV.size
  have lg : g < w.heap.size := Blk.lt h.1
  have a2 : V.cell? ⟨g, 2, none⟩ = some (.int .i64 1) := hV1.1.cell 2
  have a4 : V.cell? ⟨g, 4, none⟩ = some (.int .i64 li) := hV1.1.cell 4
  have v0 := h0.cell 0
  have v1 := h0.cell 1
  have v2 := h0.cell 2
  have C : Hid (∀ W, Below V.heap.size V W → Calls Tryd.prog 108 #[.agg #[.int .i64 2, .int .i64 li, .slice E m me]] W fun e w1 => e = .returned (.int .i64 li) ∧ Blk w1 w.heap.size 117 [.int .i64 2, .int .i64 li, .slice E m me] ∧ w1.cell? ⟨g, 2, none⟩ = some (.int .i64 1) ∧ w1.cell? ⟨g, 4, none⟩ = some (.int .i64 li) ∧
      Calls Tryd.prog 110 #[.pointer (some ⟨g, 0, none⟩), .agg #[.int .i64 2, .int .i64 li, .slice E m me]] w1 fun e w2 => e = .returned (.int .i64 0) ∧
        Calls Tryd.prog 111 #[.pointer (some ⟨g, 0, none⟩)] w2 fun e w3 => ∃ D k d, e = .returned (.tuple #[.agg #[.int .i64 3, .int .i64 li, .slice D k d], .int .i64 0]) ∧ Blk w3 (w.heap.size + 1) 24 [.int .i64 0, .int .i64 0, .slice none 0 0] ∧
          ∀ W', w3.grownBy W' (some (w.heap.size + 1)) → TakR w g name tb li (.slice A n c) asked who (.returned (.tuple #[.agg #[.int .i64 3, .int .i64 li, .slice D k d], .int .i64 0])) W') := by
    intro W0 b0
    refine (vid_any 2 li (.slice E m me) W0).mono ?_
    rintro e w1 ⟨rfl, hw1⟩
    have b1 : Below V.heap.size V w1 := by rw [hw1]; exact b0.alloc b0.size _
    have j1 := hV1.later b1
    refine ⟨rfl, past_same h0 b1, j1.1.cell 2, j1.1.cell 4, ?_⟩
    refine (decide_ok g name tb li asked who0 who li A E n c m me l rl ss w1 j1.1 j1.2.1 (rd_up (hr1.below b1) b1.size) hn hm hnm j1.2.2.1 j1.2.2.2.1 j1.2.2.2.2 he hs).mono ?_
    rintro e w2 ⟨rfl, g2, k2⟩
    refine ⟨rfl, (verdict_ok g name tb 1 li asked (.slice A n c) who w2 k2 hi).mono ?_⟩
    rintro e w3 ⟨b3, D, k, d, rfl⟩
    have k3 := past_same k2 b3
    have p1 := past_same (blk_off (past_same h1 b1) g2 (by omega)) b3
    refine ⟨D, k, d, rfl, p1, fun W' hW => ⟨D, k, d, rfl, ?_, blk_off k3 hW (by omega)⟩⟩
    exact grown_past (gtrans' (gtrans' (below_some (step_to bV b1)) g2) (below_some b3)) (by omega) hW
  have HA := Lib.hid (Below.refl V.heap.size V)
  have HA1 : Hid (Below V.heap.size V V.drew) := below_drewS (Below.refl V.heap.size V) 1
  have HV := Lib.hid hV
  clear hV bV h0 h1 hV1 hr1 lg h hr hn hm hnm hi he hs
  go_enter Tryd.func96, Tryd.ntmps96
  go_upto_region 3 with (rw [HV.out])
  go_region_held3 (fun w' => w'.cell? ⟨w.heap.size, 0, none⟩ = some (.int .i64 2) ∧ w'.cell? ⟨w.heap.size, 1, none⟩ = some (.int .i64 li) ∧ w'.cell? ⟨w.heap.size, 2, none⟩ = some (.slice E m me) ∧ w'.cell? ⟨g, 2, none⟩ = some (.int .i64 1) ∧ w'.cell? ⟨g, 4, none⟩ = some (.int .i64 li)) (go_keep) (first
    | (go_at_call 108; ((with_reducible first | refine (C.out _ HA1.out).mono ?_ | refine (C.out _ HA.out).mono ?_); rintro e w1 ⟨rfl, k1, j2, j4, n1⟩; have s0 := k1.cell 0; have s1 := k1.cell 1; have s2 := k1.cell 2; have C1 := Lib.hid n1; clear k1 n1)))
  all_goals
    go_wp2_with (first
      | (go_at_call 110; ((with_reducible refine C1.out.mono ?_); rintro e w2 ⟨rfl, n1⟩; have C2 := Lib.hid n1; clear n1 C1))
      | (go_at_call 111; ((with_reducible refine C2.out.mono ?_); rintro e w3 ⟨D, k, d, rfl, k3, f1⟩; have r0 := k3.cell 0; have r1 := k3.cell 1; have r2 := k3.cell 2; have e0 := k3.frozen 0; have e1 := k3.frozen 1; have e2 := k3.frozen 2; have l3 := Blk.lt k3; have K3 := Lib.hid k3; have F1 := Lib.hid f1; clear k3 f1)))
    have hb4 := blk3 (x := .int .i64 3) (y := .int .i64 li) (z := .slice D k d) K3.out
    have p0 := hb4.cell 0
    have p1 := hb4.cell 1
    have p2 := hb4.cell 2
    exact bodyPost_ret (v := .tuple #[.agg #[.int .i64 3, .int .i64 li, .slice D k d], .int .i64 0]) (by simp [results, Tryd.results96, go_sem, p0, p1, p2]) rfl (F1.out _ (gset3 _ _ _ _ _))
theorem take_ok (g : Nat) (name : ByteArray) (tb : Nat) (li asked : Int) (who0 who : ByteArray) (A E : Option Addr) (n c m me : Nat) (l rl : List UInt8) (ss : List Sec) (w : World)
    (h : JOk w g name tb li asked who0 A n c l ss) (hr : Rd w w.heap.size E m rl) (hn : n ≤ 140737488355328) (hm : m ≤ 140737488355328) (hnm : name.size ≤ maxLen)
    (hi : idB li = true) (he : hoE 1 li l 2 li rl name ss = 0) (hs : hoS 1 li l 2 li rl name ss = who) :
    Calls Tryd.prog 74 #[.pointer (some ⟨g, 0, none⟩), .iface 117 (.agg #[.int .i64 2, .int .i64 li, .slice E m me])] w (TakR w g name tb li (.slice A n c) asked who) := by
  obtain ⟨V, hV⟩ : ∃ V, (w.alloc (.cells #[.int .i64 0, .int .i64 0, .slice none 0 0] 24)).alloc (.cells #[.int .i64 2, .int .i64 li, .slice E m me] 117) = V := ⟨_, rfl⟩
  have bV : Below w.heap.size w V := by rw [← hV]; exact ((Below.refl _ _).alloc (Nat.le_refl _) _).alloc (by simp) _
  have h0 : Blk V w.heap.size 24 [.int .i64 0, .int .i64 0, .slice none 0 0] := by
    rw [← hV]
    exact (Below.heap_alloc _ _ _ (by simp)).trans (heap_alloc_new w _)
  have h1 : Blk V (w.heap.size + 1) 117 [.int .i64 2, .int .i64 li, .slice E m me] := by
    rw [← hV]
    have h := heap_alloc_new (w.alloc (.cells #[.int .i64 0, .int .i64 0, .slice none 0 0] 24)) (.cells #[.int .i64 2, .int .i64 li, .slice E m me] 117)
    rw [World.size_alloc] at h
    exact h
  have lg : g < w.heap.size := Blk.lt h.1
  have y0 := h1.cell 0
  have y1 := h1.cell 1
  have y2 := h1.cell 2
  have T2 := fun W => ta_replied (.agg #[.int .i64 2, .int .i64 li, .slice E m me]) W
  have C : Hid (Calls Tryd.prog 96 #[.pointer (some ⟨g, 0, none⟩), .agg #[.int .i64 2, .int .i64 li, .slice E m me]] V fun e w3 => ∃ D k d, e = .returned (.tuple #[.agg #[.int .i64 3, .int .i64 li, .slice D k d], .int .i64 0]) ∧ Blk w3 w.heap.size 24 [.int .i64 0, .int .i64 0, .slice none 0 0] ∧
      ∀ W', w3.grownBy W' (some w.heap.size) → TakR w g name tb li (.slice A n c) asked who (.returned (.tuple #[.agg #[.int .i64 3, .int .i64 li, .slice D k d], .int .i64 0])) W') := by
    refine (hear_ok g name tb li asked who0 who A E n c m me l rl ss V (h.later bV) (rd_up (hr.below bV) bV.size) hn hm hnm hi he hs).mono ?_
    rintro e w3 ⟨D, k, d, rfl, g3, k3⟩
    refine ⟨D, k, d, rfl, blk_off h0 g3 (by omega), fun W' hW => ⟨D, k, d, rfl, ?_, blk_off k3 hW (by omega)⟩⟩
    exact grown_past (gtrans' (below_some bV) g3) (Nat.le_refl _) hW
  have HV := Lib.hid hV
  clear hV bV h0 h1 lg h hr hn hm hnm hi he hs
  go_enter Tryd.func74, Tryd.ntmps74
  go_wp2_with (first
    | (rw [HV.out])
    | (go_at_call 96; ((with_reducible refine C.out.mono ?_); rintro e w3 ⟨D, k, d, rfl, k3, f1⟩; have r0 := k3.cell 0; have r1 := k3.cell 1; have r2 := k3.cell 2; have e0 := k3.frozen 0; have e1 := k3.frozen 1; have e2 := k3.frozen 2; have l3 := Blk.lt k3; have K3 := Lib.hid k3; have F1 := Lib.hid f1; clear k3 f1)))
  have hb4 := blk3 (x := .int .i64 3) (y := .int .i64 li) (z := .slice D k d) K3.out
  have p0 := hb4.cell 0
  have p1 := hb4.cell 1
  have p2 := hb4.cell 2
  exact bodyPost_ret (v := .tuple #[.agg #[.int .i64 3, .int .i64 li, .slice D k d], .int .i64 0]) (by simp [results, Tryd.results74, go_sem, p0, p1, p2]) rfl (F1.out _ (gset3 _ _ _ _ _))
theorem jtake_ok (g : Nat) (name : ByteArray) (tb : Nat) (li asked : Int) (who0 who : ByteArray) (A E : Option Addr) (n c m me : Nat) (l rl : List UInt8) (ss : List Sec) (w : World)
    (h : JOk w g name tb li asked who0 A n c l ss) (hr : Rd w w.heap.size E m rl) (hn : n ≤ 140737488355328) (hm : m ≤ 140737488355328) (hnm : name.size ≤ maxLen)
    (hi : idB li = true) (he : hoE 1 li l 2 li rl name ss = 0) (hs : hoS 1 li l 2 li rl name ss = who) :
    Calls Tryd.prog 49 #[.pointer (some ⟨g, 0, none⟩), .agg #[.int .i64 2, .int .i64 li, .slice E m me]] w (TakR w g name tb li (.slice A n c) asked who) := by
  obtain ⟨V, hV⟩ : ∃ V, (w.alloc (.cells #[.int .i64 2, .int .i64 li, .slice E m me] 24)).alloc (.cells #[.int .i64 0, .int .i64 0, .slice none 0 0] 24) = V := ⟨_, rfl⟩
  have bV : Below w.heap.size w V := by rw [← hV]; exact ((Below.refl _ _).alloc (Nat.le_refl _) _).alloc (by simp) _
  have h0 : Blk V w.heap.size 24 [.int .i64 2, .int .i64 li, .slice E m me] := by
    rw [← hV]
    exact (Below.heap_alloc _ _ _ (by simp)).trans (heap_alloc_new w _)
  have h1 : Blk V (w.heap.size + 1) 24 [.int .i64 0, .int .i64 0, .slice none 0 0] := by
    rw [← hV]
    have h := heap_alloc_new (w.alloc (.cells #[.int .i64 2, .int .i64 li, .slice E m me] 24)) (.cells #[.int .i64 0, .int .i64 0, .slice none 0 0] 24)
    rw [World.size_alloc] at h
    exact h
  have lg : g < w.heap.size := Blk.lt h.1
  have y0 := h0.cell 0
  have y1 := h0.cell 1
  have y2 := h0.cell 2
  have C : Hid (Calls Tryd.prog 45 #[.agg #[.int .i64 2, .int .i64 li, .slice E m me]] V fun e w1 => e = .returned (.iface 117 (.agg #[.int .i64 2, .int .i64 li, .slice E m me])) ∧
      Calls Tryd.prog 74 #[.pointer (some ⟨g, 0, none⟩), .iface 117 (.agg #[.int .i64 2, .int .i64 li, .slice E m me])] w1 fun e w3 => ∃ D k d, e = .returned (.tuple #[.agg #[.int .i64 3, .int .i64 li, .slice D k d], .int .i64 0]) ∧ Blk w3 (w.heap.size + 1) 24 [.int .i64 0, .int .i64 0, .slice none 0 0] ∧
      ∀ W', w3.grownBy W' (some (w.heap.size + 1)) → TakR w g name tb li (.slice A n c) asked who (.returned (.tuple #[.agg #[.int .i64 3, .int .i64 li, .slice D k d], .int .i64 0])) W') := by
    refine (kindOf_any 2 li E m me V).mono ?_
    rintro e w1 ⟨rfl, hw1⟩
    have b1 : Below V.heap.size V w1 := by rw [hw1]; exact (Below.refl _ _).alloc (Nat.le_refl _) _
    have B1 := step_to bV b1
    refine ⟨rfl, (take_ok g name tb li asked who0 who A E n c m me l rl ss w1 (h.later B1) (rd_up (hr.below B1) B1.size) hn hm hnm hi he hs).mono ?_⟩
    rintro e w3 ⟨D, k, d, rfl, g3, k3⟩
    refine ⟨D, k, d, rfl, blk_off (past_same h1 b1) g3 (by omega), fun W' hW => ⟨D, k, d, rfl, ?_, blk_off k3 hW (by omega)⟩⟩
    exact grown_past (gtrans' (below_some B1) g3) (by omega) hW
  have HV := Lib.hid hV
  clear hV bV h0 h1 lg h hr hn hm hnm hi he hs
  go_enter Tryd.func49, Tryd.ntmps49
  go_wp2_with (first
    | (rw [HV.out])
    | (go_at_call 45; ((with_reducible refine C.out.mono ?_); rintro e w1 ⟨rfl, n1⟩; have C1 := Lib.hid n1; clear n1))
    | (go_at_call 74; ((with_reducible refine C1.out.mono ?_); rintro e w3 ⟨D, k, d, rfl, k3, f1⟩; have r0 := k3.cell 0; have r1 := k3.cell 1; have r2 := k3.cell 2; have e0 := k3.frozen 0; have e1 := k3.frozen 1; have e2 := k3.frozen 2; have l3 := Blk.lt k3; have K3 := Lib.hid k3; have F1 := Lib.hid f1; clear k3 f1)))
  have hb4 := blk3 (x := .int .i64 3) (y := .int .i64 li) (z := .slice D k d) K3.out
  have p0 := hb4.cell 0
  have p1 := hb4.cell 1
  have p2 := hb4.cell 2
  exact bodyPost_ret (v := .tuple #[.agg #[.int .i64 3, .int .i64 li, .slice D k d], .int .i64 0]) (by simp [results, Tryd.results49, go_sem, p0, p1, p2]) rfl (F1.out _ (gset3 _ _ _ _ _))
end Go.Proofs.YtnklamclcliddaaDoor
namespace Go.Proofs.YtnklamclcliddaaDoor
open Go.RowKit Go.Shelf
set_option maxRecDepth 100000
set_option maxHeartbeats 1000000
set_option linter.unusedSimpArgs false
set_option linter.unusedVariables false

def alice : ByteArray := ⟨#[97, 108, 105, 99, 101]⟩
def mill : ByteArray := ⟨#[109, 105, 108, 108]⟩
def exS : List Sec := [⟨alice, mill, ⟨#[120]⟩, []⟩]
def ex2 : List Sec := [⟨alice, star, ⟨#[120]⟩, []⟩]
def exC : List UInt8 := [3, 97, 98, 99, 109, 105, 108, 108]
noncomputable def exD : List UInt8 := digL 7 ⟨#[120]⟩ [97, 98, 99]
noncomputable def exR : List UInt8 := mkL exD alice
theorem ex_right : rightE ⟨alice, mill, ⟨#[120]⟩, []⟩ = 0 ∧ rightE ⟨alice, star, ⟨#[120]⟩, []⟩ = 0 := by decide
theorem ex_chk : (chk exS).1 = 0 := by decide
theorem ex_names : nameB mill = true ∧ nameB alice = true := by decide
theorem ex_mk : mkE 1 7 3 mill = 0 ∧ mkL [97, 98, 99] mill = exC := by decide
theorem ex_rv : rvE 7 exC = 0 ∧ rvV exC = [97, 98, 99] ∧ rvS exC = mill := by decide
theorem ex_fst1 : fst exS alice mill = some 0 := by
  unfold fst exS
  rw [List.findIdx?_cons]
  simp [ex_right.1]
theorem ex_bst1 : bst exS alice mill = some 0 := by
  unfold bst
  rw [if_neg (by decide)]
  unfold pairsOf
  simp [ex_fst1]
theorem ex_fst2 : fst ex2 alice mill = none ∧ fst ex2 alice star = some 0 := by
  unfold fst ex2
  constructor
  · rw [List.findIdx?_cons]
    have : ¬ star = mill := by decide
    simp [this]
  · rw [List.findIdx?_cons]
    simp [ex_right.2]
theorem ex_bst2 : bst ex2 alice mill = some 0 := by
  unfold bst
  rw [if_neg (by decide)]
  unfold pairsOf
  simp [ex_fst2.1, ex_fst2.2]
theorem ex_wd1 : wdS exS (bst exS alice mill) = ⟨#[120]⟩ ∧ wdB exS (bst exS alice mill) = true := by
  rw [ex_bst1]
  exact ⟨rfl, rfl⟩
theorem ex_wd2 : wdS ex2 (bst ex2 alice mill) = ⟨#[120]⟩ ∧ wdB ex2 (bst ex2 alice mill) = true := by
  rw [ex_bst2]
  exact ⟨rfl, rfl⟩
theorem ex_an : anE 1 7 exC alice ⟨#[]⟩ ex2 = 0 ∧ asL 7 exC alice ⟨#[]⟩ ex2 = exR := by
  have hs : srvOf ⟨#[]⟩ exC = mill := ex_rv.2.2
  constructor
  · unfold anE asE
    rw [hs, ex_wd2.2, ex_rv.1, ex_names.2]
    rfl
  · unfold asL exR exD
    rw [hs, ex_wd2.1, ex_rv.2.1]
theorem ex_rr : rvE 7 exR = 0 ∧ rvV exR = exD ∧ rvS exR = alice := by
  obtain ⟨d0, d1, d2, d3, d4, d5, d6, d7, d8, d9, d10, d11, d12, d13, d14, d15, h⟩ := list16' exD (digL_length _ _ _)
  unfold exR
  rw [h]
  exact ⟨by rfl, by rfl, by rfl⟩
theorem ex_ho : hoE 1 7 exC 2 7 exR mill exS = 0 ∧ hoS 1 7 exC 2 7 exR mill exS = alice := by
  have hp : pvE 7 exC 7 exR mill exS = 0 := by
    unfold pvE
    rw [ex_rv.1, ex_rr.1, ex_rr.2.2, ex_wd1.2, ex_wd1.1, ex_rr.2.1, ex_rv.2.1]
    have : ¬ exD ≠ digL 7 ⟨#[120]⟩ [97, 98, 99] := fun h => h rfl
    simp [this]
  constructor
  · unfold hoE
    rw [if_pos ⟨rfl, rfl⟩, hp]
  · unfold hoS
    rw [if_pos ⟨rfl, rfl⟩]
    unfold pvS
    rw [if_pos hp, ex_rr.2.2]
theorem ex_str : strOf exC = ⟨#[3, 97, 98, 99, 109, 105, 108, 108]⟩ := by decide
end Go.Proofs.YtnklamclcliddaaDoor
namespace Go.Proofs.YtnklamclcliddaaDoor
open Go.RowKit Go.Shelf
set_option maxRecDepth 100000
set_option maxHeartbeats 1000000
set_option linter.unusedSimpArgs false
set_option linter.unusedVariables false

theorem jwho_any (g : Nat) (name : ByteArray) (tb : Nat) (st lc li asked : Int) (s : Value) (who : ByteArray) (w : World) (h : Blk w g 121 (jC name tb st lc li s asked who)) :
    Calls Tryd.prog 50 #[.pointer (some ⟨g, 0, none⟩)] w fun e w' => e = .returned (.string who) ∧ w = w' := by
  have a7 : w.cell? ⟨g, 7, none⟩ = some (.string who) := h.cell 7
  clear h
  go_enter Tryd.func50, Tryd.ntmps50
  go_wp2
  go_ret
  exact ⟨rfl, rfl⟩
theorem jstate_any (g : Nat) (name : ByteArray) (tb : Nat) (st lc li asked : Int) (s : Value) (who : ByteArray) (w : World) (h : Blk w g 121 (jC name tb st lc li s asked who)) :
    Calls Tryd.prog 51 #[.pointer (some ⟨g, 0, none⟩)] w fun e w' => e = .returned (.int .i64 st) ∧ w = w' := by
  have a2 : w.cell? ⟨g, 2, none⟩ = some (.int .i64 st) := h.cell 2
  clear h
  go_enter Tryd.func51, Tryd.ntmps51
  go_wp2
  go_ret
  exact ⟨rfl, rfl⟩
theorem one_sec {V : World} {b : Nat} {x : Sec} (h : Blk V b 58 [.string x.cl, .string x.sv, .string x.wd, .slice none 0 0]) (hx : okS x) (ha : x.ad = []) : SecRd V V.heap.size (some ⟨b, 0, none⟩) 1 [x] := by
  refine ⟨rfl, by omega, fun _ => ⟨b, 0, rfl, Blk.lt h, fun i y hy => ?_⟩⟩
  match i, hy with
  | 0, hy =>
    obtain rfl : x = y := by simpa using hy
    refine ⟨hx, none, 0, 0, ⟨by rw [ha]; rfl, Nat.le_refl _, fun _ => rfl, by omega, fun h => absurd h (by omega)⟩, fun j u hu => ?_⟩
    rw [Nat.zero_add, h.cell]
    exact hu
  | i + 1, hy => simp at hy
/-- two blocks, one behind the other -/
theorem alloc_two (w : World) (a b : Array Value) (s t : Nat) : ∃ V, (w.alloc (.cells a s)).alloc (.cells b t) = V ∧ Below w.heap.size w V ∧ V.heap[w.heap.size]? = some (.cells a s (0, 0)) ∧ V.heap[w.heap.size + 1]? = some (.cells b t (0, 0)) := by
  refine ⟨_, rfl, ((Below.refl _ _).alloc (Nat.le_refl _) _).alloc (by simp) _, (Below.heap_alloc _ _ _ (by simp)).trans (heap_alloc_new w _), ?_⟩
  have h := heap_alloc_new (w.alloc (.cells a s)) (.cells b t)
  rw [World.size_alloc] at h
  exact h
theorem known_any (w : World) (hK : TabK w) (hS : TabS w) : Calls Tryd.prog 19 #[] w fun e w' => e = .returned (.bool true) ∧ Below w.heap.size w w' := by
  have C : Hid (Calls Tryd.prog 9 #[.int .i64 1, .int .i64 7, .slice (some ⟨w.heap.size, 0, none⟩) 3 3, .string ⟨#[109, 105, 108, 108]⟩] (w.alloc (.cells #[.int .u8 97, .int .u8 98, .int .u8 99] 5 (3, 4))) fun e w1 => ∃ D1 k1 d1, e = .returned (.tuple #[.agg #[.int .i64 1, .int .i64 7, .slice D1 k1 d1], .int .i64 0]) ∧
      ∃ V1, (w1.alloc (.cells #[.int .i64 1, .int .i64 7, .slice D1 k1 d1] 24)).alloc (.cells #[.string ⟨#[97, 108, 105, 99, 101]⟩, .string ⟨#[109, 105, 108, 108]⟩, .string ⟨#[120]⟩, .slice none 0 0] 58) = V1 ∧
      Calls Tryd.prog 46 #[.string ⟨#[109, 105, 108, 108]⟩, .slice (some ⟨w1.heap.size + 1, 0, none⟩) 1 1] V1 fun e w2 => ∃ g, e = .returned (.tuple #[.pointer (some ⟨g, 0, none⟩), .int .i64 0]) ∧
      Calls Tryd.prog 47 #[.pointer (some ⟨g, 0, none⟩), .int .i64 7, .slice (some ⟨w2.heap.size, 0, none⟩) 3 3] (w2.alloc (.cells #[.int .u8 97, .int .u8 98, .int .u8 99] 5 (3, 4))) fun e w3 => ∃ D3 k3 d3, e = .returned (.tuple #[.agg #[.int .i64 1, .int .i64 7, .slice D3 k3 d3], .int .i64 0]) ∧
      ∃ V3, (w3.alloc (.cells #[.int .i64 1, .int .i64 7, .slice D3 k3 d3] 24)).alloc (.cells #[.string ⟨#[97, 108, 105, 99, 101]⟩, .string ⟨#[42]⟩, .string ⟨#[120]⟩, .slice none 0 0] 58) = V3 ∧
      Calls Tryd.prog 48 #[.agg #[.int .i64 1, .int .i64 7, .slice D3 k3 d3], .string ⟨#[97, 108, 105, 99, 101]⟩, .string ⟨#[]⟩, .slice (some ⟨w3.heap.size + 1, 0, none⟩) 1 1] V3 fun e w4 => ∃ D4 k4 d4, e = .returned (.tuple #[.agg #[.int .i64 2, .int .i64 7, .slice D4 k4 d4], .int .i64 0]) ∧
      ∃ V4, w4.alloc (.cells #[.int .i64 2, .int .i64 7, .slice D4 k4 d4] 24) = V4 ∧ Blk V4 w4.heap.size 24 [.int .i64 2, .int .i64 7, .slice D4 k4 d4] ∧
      Calls Tryd.prog 49 #[.pointer (some ⟨g, 0, none⟩), .agg #[.int .i64 2, .int .i64 7, .slice D4 k4 d4]] V4 fun e w5 => ∃ D5 k5 d5, e = .returned (.tuple #[.agg #[.int .i64 3, .int .i64 7, .slice D5 k5 d5], .int .i64 0]) ∧
      ∃ V5, w5.alloc (.cells #[.int .i64 3, .int .i64 7, .slice D5 k5 d5] 24) = V5 ∧ Blk V5 w5.heap.size 24 [.int .i64 3, .int .i64 7, .slice D5 k5 d5] ∧ Blk V5 w1.heap.size 24 [.int .i64 1, .int .i64 7, .slice D1 k1 d1] ∧
      (convert 22 9 (.slice D1 k1 d1)).run Tryd.prog V5 = .ok (.string ⟨#[3, 97, 98, 99, 109, 105, 108, 108]⟩) V5 ∧
      (Calls Tryd.prog 50 #[.pointer (some ⟨g, 0, none⟩)] V5 fun e w' => e = .returned (.string ⟨#[97, 108, 105, 99, 101]⟩) ∧ V5 = w') ∧
      (Calls Tryd.prog 51 #[.pointer (some ⟨g, 0, none⟩)] V5 fun e w' => e = .returned (.int .i64 2) ∧ V5 = w') ∧ Below w.heap.size w V5) := by
    have b0 := (Below.refl w.heap.size w).alloc (Nat.le_refl _) (.cells #[.int .u8 97, .int .u8 98, .int .u8 99] 5 (3, 4))
    have M := make_any 1 7 (some ⟨w.heap.size, 0, none⟩) 3 3 (w.heap.size + 1) [97, 98, 99] mill _ (rd_built3 w [97, 98, 99] (3, 4)) (by rw [World.size_alloc]; omega) (fun h => nomatch h) (by omega) (by decide)
    rw [ex_mk.1, ex_mk.2] at M
    refine M.mono ?_
    rintro e w1 ⟨b1, D1, k1, d1, rfl, o1⟩
    simp only [if_true] at o1 ⊢
    have B1 := step_to b0 b1
    obtain ⟨r1, -, -⟩ := own_rd o1
    obtain ⟨V1, hV1, b2, p1, s1⟩ := alloc_two w1 #[.int .i64 1, .int .i64 7, .slice D1 k1 d1] #[.string ⟨#[97, 108, 105, 99, 101]⟩, .string ⟨#[109, 105, 108, 108]⟩, .string ⟨#[120]⟩, .slice none 0 0] 24 58
    have B2 := step_to B1 b2
    refine ⟨D1, k1, d1, rfl, V1, hV1, ?_⟩
    refine (newJ_ok mill (some ⟨w1.heap.size + 1, 0, none⟩) 1 1 V1.heap.size exS V1 (by decide) ex_names.1 ex_chk (one_sec (x := ⟨alice, mill, ⟨#[120]⟩, []⟩) s1 ⟨by decide, by decide, by decide⟩ rfl) (Nat.le_refl _)).mono ?_
    rintro e w2 ⟨g, tb, rfl, b3, hg3, j2, wt, ht, hgt, bt⟩
    have B3 := step_to B2 b3
    refine ⟨g, rfl, ?_⟩
    have b4 := (Below.refl w2.heap.size w2).alloc (Nat.le_refl _) (.cells #[.int .u8 97, .int .u8 98, .int .u8 99] 5 (3, 4))
    have rd2 := rd_built3 w2 [97, 98, 99] (3, 4)
    obtain ⟨V2, hV2⟩ : ∃ V2, w2.alloc (.cells #[.int .u8 97, .int .u8 98, .int .u8 99] 5 (3, 4)) = V2 := ⟨_, rfl⟩
    have z2 : V2.heap.size = w2.heap.size + 1 := by rw [← hV2, World.size_alloc]
    have rd3 : Rd V2 (w2.heap.size + 1) (some ⟨w2.heap.size, 0, none⟩) 3 [97, 98, 99] := by rw [← hV2]; exact rd2
    rw [hV2] at b4 ⊢
    have j3 := past_same j2 b4
    refine (ask_ok g mill tb 0 0 0 0 (.slice none 0 0) ⟨#[]⟩ 7 (some ⟨w2.heap.size, 0, none⟩) 3 3 (w2.heap.size + 1) [97, 98, 99] V2 j3 rd3 (by omega) (fun h => nomatch h) (by omega) (by decide) ex_mk.1 (by rw [ex_mk.2]; decide)).mono ?_
    rw [ex_mk.2]
    rintro e w3 ⟨D3, k3, d3, Dj, kj, dj, rfl, o3, oj, g3, j4⟩
    have BV1 : Below V1.heap.size V1 w3 := below_row (step_to b3 b4) g3 hg3
    have BT3 : Below wt.heap.size wt w3 := below_row (step_to bt b4) g3 hgt
    have BW3 := step_to B2 BV1
    obtain ⟨V3, hV3, b5, p3, s3⟩ := alloc_two w3 #[.int .i64 1, .int .i64 7, .slice D3 k3 d3] #[.string ⟨#[97, 108, 105, 99, 101]⟩, .string ⟨#[42]⟩, .string ⟨#[120]⟩, .slice none 0 0] 24 58
    have BW5 := step_to BW3 b5
    have r3 := own_rd (o3.later b5)
    refine ⟨D3, k3, d3, rfl, V3, hV3, ?_⟩
    have AN := canswer_any 1 7 D3 k3 d3 V3.heap.size exC alice ⟨#[]⟩ (some ⟨w3.heap.size + 1, 0, none⟩) 1 1 V3.heap.size ex2 V3 r3.1 (Nat.le_refl _) (by rw [← r3.1.1]; decide) (by decide) (by decide) (one_sec (x := ⟨alice, star, ⟨#[120]⟩, []⟩) s3 ⟨by decide, by decide, by decide⟩ rfl) (Nat.le_refl _) (hK.kept BW5) (hS.kept BW5)
    rw [ex_an.1, ex_an.2] at AN
    refine AN.mono ?_
    rintro e w4 ⟨b6, D4, k4, d4, rfl, o4⟩
    simp only [if_true] at o4 ⊢
    have b7 := (Below.refl w4.heap.size w4).alloc (Nat.le_refl _) (.cells #[.int .i64 2, .int .i64 7, .slice D4 k4 d4] 24)
    have p4 := heap_alloc_new w4 (.cells #[.int .i64 2, .int .i64 7, .slice D4 k4 d4] 24)
    obtain ⟨V4, hV4⟩ : ∃ V4, w4.alloc (.cells #[.int .i64 2, .int .i64 7, .slice D4 k4 d4] 24) = V4 := ⟨_, rfl⟩
    rw [hV4] at b7 p4
    have b37 := step_to (step_to b5 b6) b7
    have BW7 := step_to BW3 b37
    have r4 := own_rd (o4.later b7)
    have rj := own_rd (oj.later b37)
    refine ⟨D4, k4, d4, rfl, V4, hV4, p4, ?_⟩
    have hlen : exR.length = 22 := by
      unfold exR mkL
      rw [List.length_append, List.length_append, exD, digL_length]
      rfl
    refine (jtake_ok g mill tb 7 1 ⟨#[]⟩ alice Dj D4 kj dj k4 d4 exC exR exS V4 ⟨past_same j4 b37, rj.1, ht.later (step_to BT3 b37), hK.kept BW7, hS.kept BW7⟩ r4.1 (by rw [← rj.1.1]; decide) (by rw [← r4.1.1, hlen]; omega) (by decide) (by decide) ex_ho.1 ex_ho.2).mono ?_
    rintro e w5 ⟨D5, k5, d5, rfl, g5, j5⟩
    have b8 := (Below.refl w5.heap.size w5).alloc (Nat.le_refl _) (.cells #[.int .i64 3, .int .i64 7, .slice D5 k5 d5] 24)
    have p5 := heap_alloc_new w5 (.cells #[.int .i64 3, .int .i64 7, .slice D5 k5 d5] 24)
    obtain ⟨V5, hV5⟩ : ∃ V5, w5.alloc (.cells #[.int .i64 3, .int .i64 7, .slice D5 k5 d5] 24) = V5 := ⟨_, rfl⟩
    rw [hV5] at b8 p5
    have BV5 : Below V1.heap.size V1 V5 := step_to (below_row (step_to BV1 b37) g5 hg3) b8
    have j6 := past_same j5 b8
    have cv := conv_run (r1.below (step_to b2 BV5)) d1
    rw [ex_str] at cv
    exact ⟨D5, k5, d5, rfl, V5, hV5, p5, past_same p1 BV5, cv, jwho_any _ _ _ _ _ _ _ _ _ V5 j6, jstate_any _ _ _ _ _ _ _ _ _ V5 j6, step_to B2 BV5⟩
  have kc := fun (w : World) (C : Array Value) (n c : Nat) => Lib.run_convert_bytes_const (P := Tryd.prog) w 22 5 C n c Tryd.underlying22 Tryd.underlying5
  clear hK hS
  go_enter Tryd.func19, Tryd.ntmps19
  go_wp2_with (first
    | (go_at_call 9; ((with_reducible refine C.out.mono ?_); rintro e w1 ⟨D1, k1, d1, rfl, V1, hV1, n1⟩; have HV1 := Lib.hid hV1; have C1 := Lib.hid n1; clear hV1 n1))
    | (rw [HV1.out])
    | (go_at_call 46; ((with_reducible refine C1.out.mono ?_); rintro e w2 ⟨g, rfl, n1⟩; have C2 := Lib.hid n1; clear n1))
    | (go_at_call 47; ((with_reducible refine C2.out.mono ?_); rintro e w3 ⟨D3, k3, d3, rfl, V3, hV3, n1⟩; have HV3 := Lib.hid hV3; have C3 := Lib.hid n1; clear hV3 n1))
    | (rw [HV3.out])
    | (go_at_call 48; ((with_reducible refine C3.out.mono ?_); rintro e w4 ⟨D4, k4, d4, rfl, V4, hV4, p4, n1⟩; have HV4 := Lib.hid hV4; have x0 := p4.cell 0; have x1 := p4.cell 1; have x2 := p4.cell 2; have C4 := Lib.hid n1; clear hV4 p4 n1))
    | (rw [HV4.out])
    | (go_at_call 49; ((with_reducible refine C4.out.mono ?_); rintro e w5 ⟨D5, k5, d5, rfl, V5, hV5, p5, p1, cv, hw, hst, hb⟩; have HV5 := Lib.hid hV5; have y0 := p5.cell 0; have y1 := p5.cell 1; have y2 := p5.cell 2; have z0 := p1.cell 0; have z1 := p1.cell 1; have z2 := p1.cell 2; have WH := Lib.hid hw; have ST := Lib.hid hst; have FN := Lib.hid hb; clear hV5 p5 p1 hw hst hb))
    | (rw [HV5.out])
    | (go_at_call 50; ((with_reducible refine WH.out.mono ?_); rintro e w' ⟨rfl, rfl⟩))
    | (go_at_call 51; ((with_reducible refine ST.out.mono ?_); rintro e w' ⟨rfl, rfl⟩)))
  go_ret
  exact ⟨rfl, FN.out⟩
end Go.Proofs.YtnklamclcliddaaDoor
