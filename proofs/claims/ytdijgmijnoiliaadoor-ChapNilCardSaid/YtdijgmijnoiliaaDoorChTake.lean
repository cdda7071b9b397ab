/-
  chap.shown, Told (of what can be told).
  chap: a judge asks.
  chap: a judge decides and tells, where the Response holds.
  chap: a judge takes a Response that holds.
-/
import Derived.Test.YtdijgmijnoiliaaDoorChJudge
import Derived.Lib.ConvBytes
import Derived.Lib.AtoiErrMem
namespace Go.Proofs.YtdijgmijnoiliaaDoor
open Go.RowKit Go.Shelf
set_option maxRecDepth 100000
set_option maxHeartbeats 1000000
set_option linter.unusedSimpArgs false
set_option linter.unusedVariables false

def shc (c : UInt8) : Bool := decide (32 ≤ (c.toNat : Int)) && decide ((c.toNat : Int) ≤ 126)
def shB (s : ByteArray) : Bool := s.data.toList.all shc && decide ((s.size : Int) ≤ 255)
theorem shc_ways (c : UInt8) : (shc c = false ∧ (c.toNat : Int) < 32) ∨ (shc c = false ∧ ¬ (c.toNat : Int) < 32 ∧ 126 < (c.toNat : Int)) ∨ (shc c = true ∧ ¬ (c.toNat : Int) < 32 ∧ ¬ 126 < (c.toNat : Int)) := by
  unfold shc
  by_cases h1 : (c.toNat : Int) < 32
  · refine .inl ⟨?_, h1⟩
    rw [decide_eq_false (by omega)]
    rfl
  · by_cases h2 : 126 < (c.toNat : Int)
    · refine .inr (.inl ⟨?_, h1, h2⟩)
      rw [decide_eq_false (p := (c.toNat : Int) ≤ 126) (by omega)]
      simp
    · refine .inr (.inr ⟨?_, h1, h2⟩)
      rw [decide_eq_true (p := 32 ≤ (c.toNat : Int)) (by omega), decide_eq_true (p := (c.toNat : Int) ≤ 126) (by omega)]
      rfl
theorem sh_no {s : ByteArray} {k : Nat} (hk : k < s.size) (h : shc s[k] = false) : shB s = false := by
  have : s.data.toList.all shc = false := by
    rw [List.all_eq_false]
    exact ⟨s[k], by rw [← byteE s k hk]; exact List.getElem_mem _, by simp [h]⟩
  unfold shB
  rw [this]
  rfl
theorem shown_any (s : ByteArray) (w : World) (hs : s.size ≤ maxLen) : Calls Tryd.prog 34 #[.string s] w fun e w' => e = .returned (.bool (shB s)) ∧ w = w' := by
  unfold maxLen at hs
  go_enter Tryd.func34, Tryd.ntmps34
  go_wp2
  go_loop [6] (fun i => ∃ k : Nat, k ≤ s.size ∧ i = .int .i64 k ∧ (s.data.toList.take k).all shc = true) (fun i => s.size - (intOf i).toNat)
  case atStart => exact ⟨0, Nat.zero_le _, rfl, by simp⟩
  case round =>
    obtain ⟨k, hk, rfl, hall⟩ := hrel
    by_cases hlt : k < s.size
    · have HA := Lib.hid hall
      clear hall
      rcases shc_ways s[k] with ⟨h, q⟩ | ⟨h, q1, q⟩ | ⟨h, q1, q2⟩
      case' inr.inr =>
        have HT : Hid ((s.data.toList.take (k + 1)).all shc = true) := by
          show _ = _
          rw [takeB s k hlt, List.all_append, HA.out, List.all_cons, h]
          rfl
        clear h
        go_wp2
        go_round
        case rel => exact ⟨k + 1, by omega, by go_num, HT.out⟩
        case measure => simp [intOf]; omega
      all_goals
        have hn := Lib.hid (sh_no hlt h)
        clear h
        go_wp2
        go_ret
        exact ⟨by rw [hn.out]; rfl, rfl⟩
    · obtain rfl : k = s.size := by omega
      rw [List.take_of_length_le (by simp)] at hall
      have hn : Hid (shB s = decide ((s.size : Int) ≤ 255)) := by
        show _ = _
        unfold shB
        rw [hall]
        rfl
      clear hall
      go_wp2
      go_ret
      exact ⟨by rw [hn.out]; rfl, rfl⟩
theorem told_ok (code id : Int) (s : ByteArray) (w : World) (hc : code = 3 ∨ code = 4) (hi : idB id = true) (hs : s.size ≤ maxLen) (hsh : shB s = true) :
    Calls Tryd.prog 12 #[.int .i64 code, .int .i64 id, .string s] w fun e w' => Below w.heap.size w w' ∧ ∃ D k d, e = .returned (.tuple #[.agg #[.int .i64 code, .int .i64 id, .slice D k d], .int .i64 0]) ∧ Rd w' w'.heap.size D k s.data.toList := by
  obtain ⟨V, hV⟩ : ∃ V, w.alloc (.cells #[.int .i64 0, .int .i64 0, .slice none 0 0] 24) = V := ⟨_, rfl⟩
  have bV : Below w.heap.size w V := by rw [← hV]; exact (Below.refl _ _).alloc (Nat.le_refl _) _
  have h0 : Blk V w.heap.size 24 [.int .i64 0, .int .i64 0, .slice none 0 0] := by rw [← hV]; exact heap_alloc_new w _
  have lV := Blk.lt h0
  have CV : Hid (∃ D d U, (convert 9 22 (.string s)).run Tryd.prog V = .ok (.slice D s.size d) U ∧ Below V.heap.size V U ∧ (∀ W, U.grownBy W (some w.heap.size) → Rd W W.heap.size D s.size s.data.toList)) := by
    refine ⟨_, _, _, Lib.run_convert_string_bytes (P := Tryd.prog) V 9 22 5 s Tryd.underlying9 Tryd.underlying22 Tryd.underlying5, Lib.bytesWorld_below _ _ _, fun W hW => ?_⟩
    have hz := Lib.bytesWorld_size V 5 s
    have hsz := hW.size
    refine ⟨by simp, fun _ => ⟨V.heap.size, 0, rfl, by omega, fun j hj => ?_⟩⟩
    have hb := hW.block V.heap.size (by omega) (by intro e; injection e with e; omega)
    have hcell := Lib.bytesWorld_cell V 5 s j hj
    rw [Nat.zero_add]
    have : W.cell? ⟨V.heap.size, j, none⟩ = (Lib.bytesWorld V 5 s).cell? ⟨V.heap.size, j, none⟩ := by simp [World.cell?, hb]
    rw [this, hcell]
    rfl
  obtain ⟨D, d, U, hcv, bU, hrd⟩ := CV.out
  have h1 := past_same h0 bU
  have r0 := h1.cell 0
  have r1 := h1.cell 1
  have r2 := h1.cell 2
  have e0 := h1.frozen 0
  have e1 := h1.frozen 1
  have e2 := h1.frozen 2
  have lr := Blk.lt h1
  have hb4 := blk3 (x := .int .i64 code) (y := .int .i64 id) (z := .slice D s.size d) h1
  have p0 := hb4.cell 0
  have p1 := hb4.cell 1
  have p2 := hb4.cell 2
  have FN : Hid (Below w.heap.size w (((U.setCell ⟨w.heap.size, 0, none⟩ (.int .i64 code)).setCell ⟨w.heap.size, 1, none⟩ (.int .i64 id)).setCell ⟨w.heap.size, 2, none⟩ (.slice D s.size d)) ∧ Rd (((U.setCell ⟨w.heap.size, 0, none⟩ (.int .i64 code)).setCell ⟨w.heap.size, 1, none⟩ (.int .i64 id)).setCell ⟨w.heap.size, 2, none⟩ (.slice D s.size d)) (((U.setCell ⟨w.heap.size, 0, none⟩ (.int .i64 code)).setCell ⟨w.heap.size, 1, none⟩ (.int .i64 id)).setCell ⟨w.heap.size, 2, none⟩ (.slice D s.size d)).heap.size D s.size s.data.toList) :=
    ⟨below_row (step_to bV bU) (gset3 _ _ _ _ _) (Nat.le_refl _), hrd _ (gset3 _ _ _ _ _)⟩
  have HV := Lib.hid hV
  have SH := Lib.hid (fun W => shown_any s W hs)
  have IDR := Lib.hid (fun W => idRight_any id W)
  rw [hsh] at SH
  rw [hi] at IDR
  clear hV bV h0 lV CV bU hrd h1 hb4 hs hsh hi
  rcases hc with rfl | rfl
  all_goals
    go_enter Tryd.func12, Tryd.ntmps12
    go_wp2_with (first
      | (rw [HV.out])
      | (go_at_call 31; ((with_reducible refine (IDR.out _).mono ?_); rintro e w' ⟨rfl, rfl⟩))
      | (go_at_call 34; ((with_reducible refine (SH.out _).mono ?_); rintro e w' ⟨rfl, rfl⟩)))
    first
      | exact bodyPost_ret (v := .tuple #[.agg #[.int .i64 3, .int .i64 id, .slice D s.size d], .int .i64 0]) (by simp [results, Tryd.results12, go_sem, p0, p1, p2]) rfl ⟨FN.out.1, D, _, d, rfl, FN.out.2⟩
      | exact bodyPost_ret (v := .tuple #[.agg #[.int .i64 4, .int .i64 id, .slice D s.size d], .int .i64 0]) (by simp [results, Tryd.results12, go_sem, p0, p1, p2]) rfl ⟨FN.out.1, D, _, d, rfl, FN.out.2⟩
end Go.Proofs.YtdijgmijnoiliaaDoor
namespace Go.Proofs.YtdijgmijnoiliaaDoor
open Go.RowKit Go.Shelf
set_option maxRecDepth 100000
set_option maxHeartbeats 1000000
set_option linter.unusedSimpArgs false
set_option linter.unusedVariables false

/-- a world where one block may have been written, and new ones laid -/
def AskR (w : World) (g : Nat) (name : ByteArray) (tb : Nat) (id : Int) (who : ByteArray) (l : List UInt8) (e : Ending) (w' : World) : Prop :=
  ∃ D k d D1 k1 d1, e = .returned (.tuple #[.agg #[.int .i64 1, .int .i64 id, .slice D k d], .int .i64 0]) ∧ Own w' w.heap.size (.slice D k d) l ∧ Own w' w.heap.size (.slice D1 k1 d1) l ∧ w.grownBy w' (some g) ∧ Blk w' g 77 (jC name tb 1 1 id (.slice D1 k1 d1) 1 who)
theorem own_base {w : World} {b b' : Nat} {v : Value} {l : List UInt8} (h : Own w b v l) (hb : b' ≤ b) : Own w b' v l := by
  refine ⟨h.1, ?_⟩
  rcases h.2 with h | ⟨g', cap', cur, e1, e2, e3⟩
  · exact .inl h
  · exact .inr ⟨g', cap', cur, e1, by omega, e3⟩
theorem below_some {W W' : World} {g : Nat} (h : Below W.heap.size W W') : W.grownBy W' (some g) := below_only h
theorem grown_new {w W W' : World} {g : Nat} (h : w.grownBy W (some g)) (k : W.grownBy W' (some w.heap.size)) : w.grownBy W' (some g) :=
  ⟨k.os.trans h.os, k.tape.trans h.tape, k.output.trans h.output, Nat.le_trans h.size k.size, fun i hi hne => (k.block i (Nat.lt_of_lt_of_le hi h.size) (by intro e; injection e with e; omega)).trans (h.block i hi hne)⟩
theorem ask_ok (g : Nat) (name : ByteArray) (tb : Nat) (st lc li asked : Int) (s0 : Value) (who : ByteArray) (id : Int) (A : Option Addr) (n c B : Nat) (l : List UInt8) (w : World)
    (h : Blk w g 77 (jC name tb st lc li s0 asked who)) (hr : Rd w B A n l) (hB : B ≤ w.heap.size) (hnil : A = none → c = 0) (hm : n ≤ 140737488355328) (hs : name.size ≤ maxLen) (he : mkE 1 id n name = 0) (hL : (mkL l name).length ≤ 140737488355328) :
    Calls Tryd.prog 25 #[.pointer (some ⟨g, 0, none⟩), .int .i64 id, .slice A n c] w (AskR w g name tb id who (mkL l name)) := by
  obtain ⟨L, hLe⟩ : ∃ L, mkL l name = L := ⟨_, rfl⟩
  rw [hLe] at hL
  obtain ⟨V, hV⟩ : ∃ V, w.alloc (.cells #[.int .i64 0, .int .i64 0, .slice none 0 0] 24) = V := ⟨_, rfl⟩
  have bV : Below w.heap.size w V := by rw [← hV]; exact (Below.refl _ _).alloc (Nat.le_refl _) _
  have h0 : Blk V w.heap.size 24 [.int .i64 0, .int .i64 0, .slice none 0 0] := by rw [← hV]; exact heap_alloc_new w _
  have hg : Blk V g 77 (jC name tb st lc li s0 asked who) := past_same h bV
  have lg : g < w.heap.size := Blk.lt h
  have c0 : V.cell? ⟨g, 0, none⟩ = some (.string name) := hg.cell 0
  have C : Hid (Calls Tryd.prog 8 #[.int .i64 1, .int .i64 id, .slice A n c, .string name] V fun e w1 => ∃ D1 k1 d1, e = .returned (.tuple #[.agg #[.int .i64 1, .int .i64 id, .slice D1 k1 d1], .int .i64 0]) ∧
      ∃ V2, w1.alloc (.cells #[.int .i64 1, .int .i64 id, .slice D1 k1 d1] 24) = V2 ∧ Blk V2 w1.heap.size 24 [.int .i64 1, .int .i64 id, .slice D1 k1 d1] ∧ Blk V2 g 77 (jC name tb st lc li s0 asked who) ∧
      ∃ X, ((((V2.setCell ⟨g, 3, none⟩ (.int .i64 1)).setCell ⟨g, 4, none⟩ (.int .i64 id)).setCell ⟨g, 5, none⟩ (.slice D1 k1 d1)).setCell ⟨g, 2, none⟩ (.int .i64 1)).setCell ⟨g, 6, none⟩ (.int .i64 1) = X ∧
      Calls Tryd.prog 44 #[.pointer (some ⟨g, 0, none⟩)] X fun e w3 => ∃ D k d, e = .returned (.agg #[.int .i64 1, .int .i64 id, .slice D k d]) ∧ Blk w3 w.heap.size 24 [.int .i64 0, .int .i64 0, .slice none 0 0] ∧
        ∀ W', w3.grownBy W' (some w.heap.size) → AskR w g name tb id who L (.returned (.tuple #[.agg #[.int .i64 1, .int .i64 id, .slice D k d], .int .i64 0])) W') := by
    have M := make_any 1 id A n c B l name V (hr.below (bV.mono hB)) (Nat.le_trans hB bV.size) hnil hm hs
    rw [he, hLe] at M
    refine M.mono ?_
    rintro e w1 ⟨b1, D1, k1, d1, rfl, o1⟩
    simp only [if_true] at o1 ⊢
    have b2 := (Below.refl w1.heap.size w1).alloc (Nat.le_refl _) (.cells #[.int .i64 1, .int .i64 id, .slice D1 k1 d1] 24)
    have z2 : (w1.alloc (.cells #[.int .i64 1, .int .i64 id, .slice D1 k1 d1] 24)).heap.size = w1.heap.size + 1 := by simp
    have n2 := heap_alloc_new w1 (.cells #[.int .i64 1, .int .i64 id, .slice D1 k1 d1] 24)
    obtain ⟨V2, hV2⟩ : ∃ V2, w1.alloc (.cells #[.int .i64 1, .int .i64 id, .slice D1 k1 d1] 24) = V2 := ⟨_, rfl⟩
    rw [hV2] at b2 z2 n2
    have g2 : Blk V2 g 77 (jC name tb st lc li s0 asked who) := past_same (past_same hg b1) b2
    have B2 := step_to (step_to bV b1) b2
    obtain ⟨X, hX⟩ : ∃ X, ((((V2.setCell ⟨g, 3, none⟩ (.int .i64 1)).setCell ⟨g, 4, none⟩ (.int .i64 id)).setCell ⟨g, 5, none⟩ (.slice D1 k1 d1)).setCell ⟨g, 2, none⟩ (.int .i64 1)).setCell ⟨g, 6, none⟩ (.int .i64 1) = X := ⟨_, rfl⟩
    have gX : V2.grownBy X (some g) := by
      rw [← hX]
      exact gtrans' (gtrans' (gtrans' (gtrans' (gset' _ _ _ _) (gset' _ _ _ _)) (gset' _ _ _ _)) (gset' _ _ _ _)) (gset' _ _ _ _)
    have kX : Blk X g 77 (jC name tb 1 1 id (.slice D1 k1 d1) 1 who) := by
      rw [← hX]
      exact ((((g2.set_ 3 _).set_ 4 _).set_ 5 _).set_ 2 _).set_ 6 _
    have pX : Blk X w.heap.size 24 [.int .i64 0, .int .i64 0, .slice none 0 0] := blk_off (past_same (past_same h0 b1) b2) gX (by omega)
    have hob := o1.block
    have hne : (Value.slice D1 k1 d1).ownBlock = none ∨ (Value.slice D1 k1 d1).ownBlock ≠ some g := .inr fun e => by have := (hob g e).1; have := bV.size; omega
    have oX := (o1.later b2).grown gX hne
    have RX := own_rd oX
    refine ⟨D1, k1, d1, rfl, V2, hV2, n2, g2, X, hX, ?_⟩
    refine (challenge_any g name tb 1 1 id 1 who D1 k1 d1 X.heap.size L X kX RX.1 (Nat.le_refl _) RX.2.2 (by have := RX.1.1; omega)).mono ?_
    rintro e w3 ⟨D, k, d, rfl, o3, b3⟩
    refine ⟨D, k, d, rfl, past_same pX b3, fun W' hW => ?_⟩
    have lw : w.heap.size < X.heap.size := Blk.lt pX
    have hne1 : (Value.slice D1 k1 d1).ownBlock = none ∨ (Value.slice D1 k1 d1).ownBlock ≠ some w.heap.size := .inr fun e => by
      have h1 := (hob _ e).1
      have h2 := Blk.lt h0
      omega
    have hne3 : (Value.slice D k d).ownBlock = none ∨ (Value.slice D k d).ownBlock ≠ some w.heap.size := .inr fun e => by have := (o3.block _ e).1; omega
    refine ⟨D, k, d, D1, k1, d1, rfl, own_base (o3.grown hW hne3) (Nat.le_of_lt lw), own_base ((oX.later b3).grown hW hne1) bV.size, ?_, blk_off (past_same kX b3) hW (by omega)⟩
    exact grown_new (gtrans' (gtrans' (below_some B2) gX) (below_some b3)) hW
  rw [hLe]
  have HV := Lib.hid hV
  have LG := Lib.hid lg
  clear bV h0 hg h hr hB hnil hm hs he hL hLe hV lg
  go_enter Tryd.func25, Tryd.ntmps25
  go_wp2_with (first
    | (rw [HV.out])
    | (go_at_call 8; ((with_reducible refine C.out.mono ?_); rintro e w1 ⟨D1, k1, d1, rfl, V2, hV2, n2, g2, X, hX, n1⟩; have HV2 := Lib.hid hV2; have HX := Lib.hid hX; have q0 := n2.cell 0; have q1 := n2.cell 1; have q2 := n2.cell 2; have l1 := Blk.lt n2; have lg := Blk.lt g2; have f2 := g2.frozen 2; have f3 := g2.frozen 3; have f4 := g2.frozen 4; have f5 := g2.frozen 5; have f6 := g2.frozen 6; have u2 : V2.cell? ⟨g, 2, none⟩ = some (.int .i64 st) := g2.cell 2; have u3 : V2.cell? ⟨g, 3, none⟩ = some (.int .i64 lc) := g2.cell 3; have u4 : V2.cell? ⟨g, 4, none⟩ = some (.int .i64 li) := g2.cell 4; have u5 : V2.cell? ⟨g, 5, none⟩ = some s0 := g2.cell 5; have u6 : V2.cell? ⟨g, 6, none⟩ = some (.int .i64 asked) := g2.cell 6; have C1 := Lib.hid n1; clear n1 n2 g2 hV2 hX C))
    | (rw [HV2.out])
    | (rw [HX.out])
    | (go_at_call 44; ((with_reducible refine C1.out.mono ?_); rintro e w3 ⟨D, k, d, rfl, k3, f1⟩; have r0 := k3.cell 0; have r1 := k3.cell 1; have r2 := k3.cell 2; have e0 := k3.frozen 0; have e1 := k3.frozen 1; have e2 := k3.frozen 2; have l3 := Blk.lt k3; have K3 := Lib.hid k3; have F1 := Lib.hid f1; clear k3 f1)))
  have hb4 := blk3 (x := .int .i64 1) (y := .int .i64 id) (z := .slice D k d) K3.out
  have p0 := hb4.cell 0
  have p1 := hb4.cell 1
  have p2 := hb4.cell 2
  exact bodyPost_ret (v := .tuple #[.agg #[.int .i64 1, .int .i64 id, .slice D k d], .int .i64 0]) (by simp [results, Tryd.results25, go_sem, p0, p1, p2]) rfl (F1.out _ (gset3 _ _ _ _ _))
end Go.Proofs.YtdijgmijnoiliaaDoor
namespace Go.Proofs.YtdijgmijnoiliaaDoor
open Go.RowKit Go.Shelf
set_option maxRecDepth 100000
set_option maxHeartbeats 1000000
set_option linter.unusedSimpArgs false
set_option linter.unusedVariables false

def DecR (w : World) (g : Nat) (name : ByteArray) (tb : Nat) (lc li : Int) (s : Value) (asked : Int) (who : ByteArray) (e : Ending) (w' : World) : Prop :=
  e = .returned (.int .i64 0) ∧ w.grownBy w' (some g) ∧ Blk w' g 77 (jC name tb 2 lc li s asked who)
theorem decide_ok (g : Nat) (name : ByteArray) (tb : Nat) (li asked : Int) (who0 who : ByteArray) (ri : Int) (A E : Option Addr) (n c m me : Nat) (l rl : List UInt8) (ss : List Sec) (w : World)
    (h : Blk w g 77 (jC name tb 1 1 li (.slice A n c) asked who0)) (hq : Rd w w.heap.size A n l) (hr : Rd w w.heap.size E m rl) (hn : n ≤ 140737488355328) (hm : m ≤ 140737488355328) (hnm : name.size ≤ maxLen) (ht : TableAt w tb ss) (hK : TabK w) (hS : TabS w)
    (he : hoE 1 li l 2 ri rl name ss = 0) (hs : hoS 1 li l 2 ri rl name ss = who) :
    Calls Tryd.prog 68 #[.pointer (some ⟨g, 0, none⟩), .agg #[.int .i64 2, .int .i64 ri, .slice E m me]] w (DecR w g name tb 1 li (.slice A n c) asked who) := by
  obtain ⟨V, hV⟩ : ∃ V, w.alloc (.cells #[.int .i64 2, .int .i64 ri, .slice E m me] 84) = V := ⟨_, rfl⟩
  have bV : Below w.heap.size w V := by rw [← hV]; exact (Below.refl _ _).alloc (Nat.le_refl _) _
  have h0 : Blk V w.heap.size 84 [.int .i64 2, .int .i64 ri, .slice E m me] := by rw [← hV]; exact heap_alloc_new w _
  have hg : Blk V g 77 (jC name tb 1 1 li (.slice A n c) asked who0) := past_same h bV
  have lg : g < w.heap.size := Blk.lt h
  have hmf : ∀ (fn : Fn) (first cap : Array Value) (w : World), (Instr.makeFunc fn first cap).run Tryd.prog w = .ok (.func fn first cap) w := fun _ _ _ _ => rfl
  have a0 : V.cell? ⟨g, 0, none⟩ = some (.string name) := hg.cell 0
  have a1 : V.cell? ⟨g, 1, none⟩ = some (.pointer (some ⟨tb, 0, none⟩)) := hg.cell 1
  have a3 : V.cell? ⟨g, 3, none⟩ = some (.int .i64 1) := hg.cell 3
  have a4 : V.cell? ⟨g, 4, none⟩ = some (.int .i64 li) := hg.cell 4
  have a5 : V.cell? ⟨g, 5, none⟩ = some (.slice A n c) := hg.cell 5
  have v0 := h0.cell 0
  have v1 := h0.cell 1
  have v2 := h0.cell 2
  have C : Hid (∀ W, Below V.heap.size V W → Calls Tryd.prog 35 #[.agg #[.int .i64 1, .int .i64 li, .slice A n c]] W fun e w1 => e = .returned (.iface 83 (.agg #[.int .i64 1, .int .i64 li, .slice A n c])) ∧ Blk w1 w.heap.size 84 [.int .i64 2, .int .i64 ri, .slice E m me] ∧ Blk w1 g 77 (jC name tb 1 1 li (.slice A n c) asked who0) ∧
      ∀ W, Below w1.heap.size w1 W → Calls Tryd.prog 40 #[.iface 83 (.agg #[.int .i64 1, .int .i64 li, .slice A n c]), .iface 84 (.agg #[.int .i64 2, .int .i64 ri, .slice E m me]), .string name, .func (.func 78) #[.pointer (some ⟨tb, 0, none⟩)] #[]] W fun e w2 => e = .returned (.tuple #[.string who, .int .i64 0]) ∧ Blk w2 w.heap.size 84 [.int .i64 2, .int .i64 ri, .slice E m me] ∧ Blk w2 g 77 (jC name tb 1 1 li (.slice A n c) asked who0) ∧
        DecR w g name tb 1 li (.slice A n c) asked who (.returned (.int .i64 0)) ((w2.setCell ⟨g, 2, none⟩ (.int .i64 2)).setCell ⟨g, 7, none⟩ (.string who))) := by
    intro W0 bk
    refine (kindOf_any 1 li A n c W0).mono ?_
    rintro e w1 ⟨rfl, hw1⟩
    have b1 : Below V.heap.size V w1 := by rw [hw1]; exact bk.alloc bk.size _
    have B1 := step_to bV b1
    refine ⟨rfl, past_same h0 b1, past_same hg b1, fun W1 b2 => ?_⟩
    have B2 := step_to B1 b2
    have HO := holds_any 2 ri E m me rl 1 li A n c w.heap.size l name (.func (.func 78) #[.pointer (some ⟨tb, 0, none⟩)] #[]) ss W1 (hq.below B2) (hr.below B2) B2.size hn hm hnm (finds_tab (ht.later B2)) (hK.kept B2) (hS.kept B2)
    rw [he, hs] at HO
    refine HO.mono ?_
    rintro e w2 ⟨rfl, b3⟩
    have B3 := step_to B2 b3
    have g3 : Blk w2 g 77 (jC name tb 1 1 li (.slice A n c) asked who0) := past_same h B3
    exact ⟨rfl, past_same h0 (step_to (step_to b1 b2) b3), g3, rfl, gtrans' (below_some B3) (gtrans' (gset' _ _ _ _) (gset' _ _ _ _)), (g3.set_ 2 _).set_ 7 _⟩
  have HA := Lib.hid (Below.refl V.heap.size V)
  have HA1 : Hid (Below V.heap.size V V.drew) := below_drewS (Below.refl V.heap.size V) 1
  have HV := Lib.hid hV
  clear hV bV h0 hg h hq hr hn hm hnm ht hK hS he hs
  go_enter Tryd.func68, Tryd.ntmps68
  go_upto_region 1 with (rw [HV.out])
  go_region_held3 (fun w' => w'.cell? ⟨w.heap.size, 0, none⟩ = some (.int .i64 2) ∧ w'.cell? ⟨w.heap.size, 1, none⟩ = some (.int .i64 ri) ∧ w'.cell? ⟨w.heap.size, 2, none⟩ = some (.slice E m me) ∧ w'.cell? ⟨g, 0, none⟩ = some (.string name) ∧ w'.cell? ⟨g, 1, none⟩ = some (.pointer (some ⟨tb, 0, none⟩)) ∧ w'.cell? ⟨g, 3, none⟩ = some (.int .i64 1) ∧ w'.cell? ⟨g, 4, none⟩ = some (.int .i64 li) ∧ w'.cell? ⟨g, 5, none⟩ = some (.slice A n c)) (go_keep) (first
    | (go_at_call 35; ((with_reducible first | refine (C.out _ HA1.out).mono ?_ | refine (C.out _ HA.out).mono ?_); rintro e w1 ⟨rfl, k1, k2, n1⟩; have s0 := k1.cell 0; have s1 := k1.cell 1; have s2 := k1.cell 2; have j0 : w1.cell? ⟨g, 0, none⟩ = some (.string name) := k2.cell 0; have j1 : w1.cell? ⟨g, 1, none⟩ = some (.pointer (some ⟨tb, 0, none⟩)) := k2.cell 1; have j3 : w1.cell? ⟨g, 3, none⟩ = some (.int .i64 1) := k2.cell 3; have j4 : w1.cell? ⟨g, 4, none⟩ = some (.int .i64 li) := k2.cell 4; have j5 : w1.cell? ⟨g, 5, none⟩ = some (.slice A n c) := k2.cell 5; have C1 := Lib.hid n1; have HB := Lib.hid (Below.refl w1.heap.size w1); have HB1 : Hid (Below w1.heap.size w1 w1.drew) := below_drewS (Below.refl w1.heap.size w1) 1; clear k1 k2 n1))
    | (go_at_call 40; ((with_reducible first | refine (C1.out _ HB.out).mono ?_ | refine (C1.out _ HB1.out).mono ?_); rintro e w2 ⟨rfl, k1, k2, n1⟩; have l2 := Blk.lt k2; have z0 := k1.cell 0; have z1 := k1.cell 1; have z2 := k1.cell 2; have i0 : w2.cell? ⟨g, 0, none⟩ = some (.string name) := k2.cell 0; have i1 : w2.cell? ⟨g, 1, none⟩ = some (.pointer (some ⟨tb, 0, none⟩)) := k2.cell 1; have i3 : w2.cell? ⟨g, 3, none⟩ = some (.int .i64 1) := k2.cell 3; have i4 : w2.cell? ⟨g, 4, none⟩ = some (.int .i64 li) := k2.cell 4; have i5 : w2.cell? ⟨g, 5, none⟩ = some (.slice A n c) := k2.cell 5; have m2 : w2.cell? ⟨g, 2, none⟩ = some (.int .i64 1) := k2.cell 2; have m7 : w2.cell? ⟨g, 7, none⟩ = some (.string who0) := k2.cell 7; have f2 := k2.frozen 2; have f7 := k2.frozen 7; have F := Lib.hid n1; clear k1 k2 n1)))
  all_goals
    go_wp2
    exact bodyPost_ret (v := .int .i64 0) (by simp [results, Tryd.results68, go_sem]) rfl F.out
end Go.Proofs.YtdijgmijnoiliaaDoor
namespace Go.Proofs.YtdijgmijnoiliaaDoor
open Go.RowKit Go.Shelf
set_option maxRecDepth 100000
set_option maxHeartbeats 1000000
set_option linter.unusedSimpArgs false
set_option linter.unusedVariables false

theorem rd_up {w : World} {B B' n : Nat} {A : Option Addr} {l : List UInt8} (h : Rd w B A n l) (hb : B ≤ B') : Rd w B' A n l :=
  ⟨h.1, fun hn => by obtain ⟨b, off, e, hlt, hc⟩ := h.2 hn; exact ⟨b, off, e, Nat.lt_of_lt_of_le hlt hb, hc⟩⟩
theorem grown_past {w W W' : World} {g k : Nat} (h : w.grownBy W (some g)) (hk : w.heap.size ≤ k) (q : W.grownBy W' (some k)) : w.grownBy W' (some g) :=
  ⟨q.os.trans h.os, q.tape.trans h.tape, q.output.trans h.output, Nat.le_trans h.size q.size, fun i hi hne => (q.block i (Nat.lt_of_lt_of_le hi h.size) (by intro e; injection e with e; omega)).trans (h.block i hi hne)⟩
theorem verdict_ok (g : Nat) (name : ByteArray) (tb : Nat) (lc li asked : Int) (s : Value) (who : ByteArray) (w : World) (h : Blk w g 77 (jC name tb 2 lc li s asked who)) (hi : idB li = true) :
    Calls Tryd.prog 69 #[.pointer (some ⟨g, 0, none⟩)] w fun e w' => Below w.heap.size w w' ∧ ∃ D k d, e = .returned (.tuple #[.agg #[.int .i64 3, .int .i64 li, .slice D k d], .int .i64 0]) := by
  obtain ⟨V, hV⟩ : ∃ V, w.alloc (.cells #[.int .i64 0, .int .i64 0, .slice none 0 0] 24) = V := ⟨_, rfl⟩
  have bV : Below w.heap.size w V := by rw [← hV]; exact (Below.refl _ _).alloc (Nat.le_refl _) _
  have h0 : Blk V w.heap.size 24 [.int .i64 0, .int .i64 0, .slice none 0 0] := by rw [← hV]; exact heap_alloc_new w _
  have hg := past_same h bV
  have a2 : V.cell? ⟨g, 2, none⟩ = some (.int .i64 2) := hg.cell 2
  have a4 : V.cell? ⟨g, 4, none⟩ = some (.int .i64 li) := hg.cell 4
  have C : Hid (Calls Tryd.prog 12 #[.int .i64 3, .int .i64 li, .string { data := #[119, 101, 108, 99, 111, 109, 101] }] V fun e w1 => ∃ D k d, e = .returned (.tuple #[.agg #[.int .i64 3, .int .i64 li, .slice D k d], .int .i64 0]) ∧ Blk w1 w.heap.size 24 [.int .i64 0, .int .i64 0, .slice none 0 0] ∧ ∀ W', w1.grownBy W' (some w.heap.size) → Below w.heap.size w W') := by
    refine (told_ok 3 li { data := #[119, 101, 108, 99, 111, 109, 101] } V (.inl rfl) hi (by decide) (by decide)).mono ?_
    rintro e w1 ⟨b1, D, k, d, rfl, -⟩
    exact ⟨D, k, d, rfl, past_same h0 b1, fun W' hW => below_row (step_to bV b1) hW (Nat.le_refl _)⟩
  have HV := Lib.hid hV
  clear hV bV h0 hg h hi
  go_enter Tryd.func69, Tryd.ntmps69
  go_wp2_with (first
    | (rw [HV.out])
    | (go_at_call 12; ((with_reducible refine C.out.mono ?_); rintro e w1 ⟨D, k, d, rfl, k3, f1⟩; have r0 := k3.cell 0; have r1 := k3.cell 1; have r2 := k3.cell 2; have e0 := k3.frozen 0; have e1 := k3.frozen 1; have e2 := k3.frozen 2; have l3 := Blk.lt k3; have K3 := Lib.hid k3; have F1 := Lib.hid f1; clear k3 f1)))
  have hb4 := blk3 (x := .int .i64 3) (y := .int .i64 li) (z := .slice D k d) K3.out
  have p0 := hb4.cell 0
  have p1 := hb4.cell 1
  have p2 := hb4.cell 2
  exact bodyPost_ret (v := .tuple #[.agg #[.int .i64 3, .int .i64 li, .slice D k d], .int .i64 0]) (by simp [results, Tryd.results69, go_sem, p0, p1, p2]) rfl ⟨F1.out _ (gset3 _ _ _ _ _), D, k, d, rfl⟩
/-- a judge that waits -/
def JOk (w : World) (g : Nat) (name : ByteArray) (tb : Nat) (li asked : Int) (who0 : ByteArray) (A : Option Addr) (n c : Nat) (l : List UInt8) (ss : List Sec) : Prop :=
  Blk w g 77 (jC name tb 1 1 li (.slice A n c) asked who0) ∧ Rd w w.heap.size A n l ∧ TableAt w tb ss ∧ TabK w ∧ TabS w
theorem JOk.later {w w' : World} {g : Nat} {name : ByteArray} {tb : Nat} {li asked : Int} {who0 : ByteArray} {A : Option Addr} {n c : Nat} {l : List UInt8} {ss : List Sec} (h : JOk w g name tb li asked who0 A n c l ss) (b : Below w.heap.size w w') : JOk w' g name tb li asked who0 A n c l ss :=
  ⟨past_same h.1 b, rd_up (h.2.1.below b) b.size, h.2.2.1.later b, h.2.2.2.1.kept b, h.2.2.2.2.kept b⟩
def TakR (w : World) (g : Nat) (name : ByteArray) (tb : Nat) (li : Int) (s : Value) (asked : Int) (who : ByteArray) (e : Ending) (w' : World) : Prop :=
  ∃ D k d, e = .returned (.tuple #[.agg #[.int .i64 3, .int .i64 li, .slice D k d], .int .i64 0]) ∧ w.grownBy w' (some g) ∧ Blk w' g 77 (jC name tb 2 1 li s asked who)
theorem hear_ok (g : Nat) (name : ByteArray) (tb : Nat) (li asked : Int) (who0 who : ByteArray) (A E : Option Addr) (n c m me : Nat) (l rl : List UInt8) (ss : List Sec) (w : World)
    (h : JOk w g name tb li asked who0 A n c l ss) (hr : Rd w w.heap.size E m rl) (hn : n ≤ 140737488355328) (hm : m ≤ 140737488355328) (hnm : name.size ≤ maxLen)
    (hi : idB li = true) (he : hoE 1 li l 2 li rl name ss = 0) (hs : hoS 1 li l 2 li rl name ss = who) :
    Calls Tryd.prog 55 #[.pointer (some ⟨g, 0, none⟩), .agg #[.int .i64 2, .int .i64 li, .slice E m me]] w (TakR w g name tb li (.slice A n c) asked who) := by
  obtain ⟨V, hV⟩ : ∃ V, (w.alloc (.cells #[.int .i64 2, .int .i64 li, .slice E m me] 84)).alloc (.cells #[.int .i64 0, .int .i64 0, .slice none 0 0] 24) = V := ⟨_, rfl⟩
  have bV : Below w.heap.size w V := by rw [← hV]; exact ((Below.refl _ _).alloc (Nat.le_refl _) _).alloc (by simp) _
  have h0 : Blk V w.heap.size 84 [.int .i64 2, .int .i64 li, .slice E m me] := by
    rw [← hV]
    exact (Below.heap_alloc _ _ _ (by simp)).trans (heap_alloc_new w _)
  have h1 : Blk V (w.heap.size + 1) 24 [.int .i64 0, .int .i64 0, .slice none 0 0] := by
    rw [← hV]
    have h := heap_alloc_new (w.alloc (.cells #[.int .i64 2, .int .i64 li, .slice E m me] 84)) (.cells #[.int .i64 0, .int .i64 0, .slice none 0 0] 24)
    rw [World.size_alloc] at h
    exact h
  have hV1 := h.later bV
  have hr1 := rd_up (hr.below bV) bV.size
  have lg : g < w.heap.size := Blk.lt h.1
  have a2 : V.cell? ⟨g, 2, none⟩ = some (.int .i64 1) := hV1.1.cell 2
  have a4 : V.cell? ⟨g, 4, none⟩ = some (.int .i64 li) := hV1.1.cell 4
  have v0 := h0.cell 0
  have v1 := h0.cell 1
  have v2 := h0.cell 2
  have C : Hid (∀ W, Below V.heap.size V W → Calls Tryd.prog 62 #[.agg #[.int .i64 2, .int .i64 li, .slice E m me]] W fun e w1 => e = .returned (.int .i64 li) ∧ Blk w1 w.heap.size 84 [.int .i64 2, .int .i64 li, .slice E m me] ∧ w1.cell? ⟨g, 2, none⟩ = some (.int .i64 1) ∧ w1.cell? ⟨g, 4, none⟩ = some (.int .i64 li) ∧
      Calls Tryd.prog 68 #[.pointer (some ⟨g, 0, none⟩), .agg #[.int .i64 2, .int .i64 li, .slice E m me]] w1 fun e w2 => e = .returned (.int .i64 0) ∧
        Calls Tryd.prog 69 #[.pointer (some ⟨g, 0, none⟩)] w2 fun e w3 => ∃ D k d, e = .returned (.tuple #[.agg #[.int .i64 3, .int .i64 li, .slice D k d], .int .i64 0]) ∧ Blk w3 (w.heap.size + 1) 24 [.int .i64 0, .int .i64 0, .slice none 0 0] ∧
          ∀ W', w3.grownBy W' (some (w.heap.size + 1)) → TakR w g name tb li (.slice A n c) asked who (.returned (.tuple #[.agg #[.int .i64 3, .int .i64 li, .slice D k d], .int .i64 0])) W') := by
    intro W0 b0
    refine (vid_any 2 li (.slice E m me) W0).mono ?_
    rintro e w1 ⟨rfl, hw1⟩
    have b1 : Below V.heap.size V w1 := by rw [hw1]; exact b0.alloc b0.size _
    have j1 := hV1.later b1
    refine ⟨rfl, past_same h0 b1, j1.1.cell 2, j1.1.cell 4, ?_⟩
    refine (decide_ok g name tb li asked who0 who li A E n c m me l rl ss w1 j1.1 j1.2.1 (rd_up (hr1.below b1) b1.size) hn hm hnm j1.2.2.1 j1.2.2.2.1 j1.2.2.2.2 he hs).mono ?_
    rintro e w2 ⟨rfl, g2, k2⟩
    refine ⟨rfl, (verdict_ok g name tb 1 li asked (.slice A n c) who w2 k2 hi).mono ?_⟩
    rintro e w3 ⟨b3, D, k, d, rfl⟩
    have k3 := past_same k2 b3
    have p1 := past_same (blk_off (past_same h1 b1) g2 (by omega)) b3
    refine ⟨D, k, d, rfl, p1, fun W' hW => ⟨D, k, d, rfl, ?_, blk_off k3 hW (by omega)⟩⟩
    exact grown_past (gtrans' (gtrans' (below_some (step_to bV b1)) g2) (below_some b3)) (by omega) hW
  have HA := Lib.hid (Below.refl V.heap.size V)
  have HA1 : Hid (Below V.heap.size V V.drew) := below_drewS (Below.refl V.heap.size V) 1
  have HV := Lib.hid hV
  clear hV bV h0 h1 hV1 hr1 lg h hr hn hm hnm hi he hs
  go_enter Tryd.func55, Tryd.ntmps55
  go_upto_region 3 with (rw [HV.out])
  go_region_held3 (fun w' => w'.cell? ⟨w.heap.size, 0, none⟩ = some (.int .i64 2) ∧ w'.cell? ⟨w.heap.size, 1, none⟩ = some (.int .i64 li) ∧ w'.cell? ⟨w.heap.size, 2, none⟩ = some (.slice E m me) ∧ w'.cell? ⟨g, 2, none⟩ = some (.int .i64 1) ∧ w'.cell? ⟨g, 4, none⟩ = some (.int .i64 li)) (go_keep) (first
    | (go_at_call 62; ((with_reducible first | refine (C.out _ HA1.out).mono ?_ | refine (C.out _ HA.out).mono ?_); rintro e w1 ⟨rfl, k1, j2, j4, n1⟩; have s0 := k1.cell 0; have s1 := k1.cell 1; have s2 := k1.cell 2; have C1 := Lib.hid n1; clear k1 n1)))
  all_goals
    go_wp2_with (first
      | (go_at_call 68; ((with_reducible refine C1.out.mono ?_); rintro e w2 ⟨rfl, n1⟩; have C2 := Lib.hid n1; clear n1 C1))
      | (go_at_call 69; ((with_reducible refine C2.out.mono ?_); rintro e w3 ⟨D, k, d, rfl, k3, f1⟩; have r0 := k3.cell 0; have r1 := k3.cell 1; have r2 := k3.cell 2; have e0 := k3.frozen 0; have e1 := k3.frozen 1; have e2 := k3.frozen 2; have l3 := Blk.lt k3; have K3 := Lib.hid k3; have F1 := Lib.hid f1; clear k3 f1)))
    have hb4 := blk3 (x := .int .i64 3) (y := .int .i64 li) (z := .slice D k d) K3.out
    have p0 := hb4.cell 0
    have p1 := hb4.cell 1
    have p2 := hb4.cell 2
    exact bodyPost_ret (v := .tuple #[.agg #[.int .i64 3, .int .i64 li, .slice D k d], .int .i64 0]) (by simp [results, Tryd.results55, go_sem, p0, p1, p2]) rfl (F1.out _ (gset3 _ _ _ _ _))
theorem take_ok (g : Nat) (name : ByteArray) (tb : Nat) (li asked : Int) (who0 who : ByteArray) (A E : Option Addr) (n c m me : Nat) (l rl : List UInt8) (ss : List Sec) (w : World)
    (h : JOk w g name tb li asked who0 A n c l ss) (hr : Rd w w.heap.size E m rl) (hn : n ≤ 140737488355328) (hm : m ≤ 140737488355328) (hnm : name.size ≤ maxLen)
    (hi : idB li = true) (he : hoE 1 li l 2 li rl name ss = 0) (hs : hoS 1 li l 2 li rl name ss = who) :
    Calls Tryd.prog 45 #[.pointer (some ⟨g, 0, none⟩), .iface 84 (.agg #[.int .i64 2, .int .i64 li, .slice E m me])] w (TakR w g name tb li (.slice A n c) asked who) := by
  obtain ⟨V, hV⟩ : ∃ V, (w.alloc (.cells #[.int .i64 0, .int .i64 0, .slice none 0 0] 24)).alloc (.cells #[.int .i64 2, .int .i64 li, .slice E m me] 84) = V := ⟨_, rfl⟩
  have bV : Below w.heap.size w V := by rw [← hV]; exact ((Below.refl _ _).alloc (Nat.le_refl _) _).alloc (by simp) _
  have h0 : Blk V w.heap.size 24 [.int .i64 0, .int .i64 0, .slice none 0 0] := by
    rw [← hV]
    exact (Below.heap_alloc _ _ _ (by simp)).trans (heap_alloc_new w _)
  have h1 : Blk V (w.heap.size + 1) 84 [.int .i64 2, .int .i64 li, .slice E m me] := by
    rw [← hV]
    have h := heap_alloc_new (w.alloc (.cells #[.int .i64 0, .int .i64 0, .slice none 0 0] 24)) (.cells #[.int .i64 2, .int .i64 li, .slice E m me] 84)
    rw [World.size_alloc] at h
    exact h
  have lg : g < w.heap.size := Blk.lt h.1
  have y0 := h1.cell 0
  have y1 := h1.cell 1
  have y2 := h1.cell 2
  have T2 := fun W => ta_replied (.agg #[.int .i64 2, .int .i64 li, .slice E m me]) W
  have C : Hid (Calls Tryd.prog 55 #[.pointer (some ⟨g, 0, none⟩), .agg #[.int .i64 2, .int .i64 li, .slice E m me]] V fun e w3 => ∃ D k d, e = .returned (.tuple #[.agg #[.int .i64 3, .int .i64 li, .slice D k d], .int .i64 0]) ∧ Blk w3 w.heap.size 24 [.int .i64 0, .int .i64 0, .slice none 0 0] ∧
      ∀ W', w3.grownBy W' (some w.heap.size) → TakR w g name tb li (.slice A n c) asked who (.returned (.tuple #[.agg #[.int .i64 3, .int .i64 li, .slice D k d], .int .i64 0])) W') := by
    refine (hear_ok g name tb li asked who0 who A E n c m me l rl ss V (h.later bV) (rd_up (hr.below bV) bV.size) hn hm hnm hi he hs).mono ?_
    rintro e w3 ⟨D, k, d, rfl, g3, k3⟩
    refine ⟨D, k, d, rfl, blk_off h0 g3 (by omega), fun W' hW => ⟨D, k, d, rfl, ?_, blk_off k3 hW (by omega)⟩⟩
    exact grown_past (gtrans' (below_some bV) g3) (Nat.le_refl _) hW
  have HV := Lib.hid hV
  clear hV bV h0 h1 lg h hr hn hm hnm hi he hs
  go_enter Tryd.func45, Tryd.ntmps45
  go_wp2_with (first
    | (rw [HV.out])
    | (go_at_call 55; ((with_reducible refine C.out.mono ?_); rintro e w3 ⟨D, k, d, rfl, k3, f1⟩; have r0 := k3.cell 0; have r1 := k3.cell 1; have r2 := k3.cell 2; have e0 := k3.frozen 0; have e1 := k3.frozen 1; have e2 := k3.frozen 2; have l3 := Blk.lt k3; have K3 := Lib.hid k3; have F1 := Lib.hid f1; clear k3 f1)))
  have hb4 := blk3 (x := .int .i64 3) (y := .int .i64 li) (z := .slice D k d) K3.out
  have p0 := hb4.cell 0
  have p1 := hb4.cell 1
  have p2 := hb4.cell 2
  exact bodyPost_ret (v := .tuple #[.agg #[.int .i64 3, .int .i64 li, .slice D k d], .int .i64 0]) (by simp [results, Tryd.results45, go_sem, p0, p1, p2]) rfl (F1.out _ (gset3 _ _ _ _ _))
theorem jtake_ok (g : Nat) (name : ByteArray) (tb : Nat) (li asked : Int) (who0 who : ByteArray) (A E : Option Addr) (n c m me : Nat) (l rl : List UInt8) (ss : List Sec) (w : World)
    (h : JOk w g name tb li asked who0 A n c l ss) (hr : Rd w w.heap.size E m rl) (hn : n ≤ 140737488355328) (hm : m ≤ 140737488355328) (hnm : name.size ≤ maxLen)
    (hi : idB li = true) (he : hoE 1 li l 2 li rl name ss = 0) (hs : hoS 1 li l 2 li rl name ss = who) :
    Calls Tryd.prog 27 #[.pointer (some ⟨g, 0, none⟩), .agg #[.int .i64 2, .int .i64 li, .slice E m me]] w (TakR w g name tb li (.slice A n c) asked who) := by
  obtain ⟨V, hV⟩ : ∃ V, (w.alloc (.cells #[.int .i64 2, .int .i64 li, .slice E m me] 24)).alloc (.cells #[.int .i64 0, .int .i64 0, .slice none 0 0] 24) = V := ⟨_, rfl⟩
  have bV : Below w.heap.size w V := by rw [← hV]; exact ((Below.refl _ _).alloc (Nat.le_refl _) _).alloc (by simp) _
  have h0 : Blk V w.heap.size 24 [.int .i64 2, .int .i64 li, .slice E m me] := by
    rw [← hV]
    exact (Below.heap_alloc _ _ _ (by simp)).trans (heap_alloc_new w _)
  have h1 : Blk V (w.heap.size + 1) 24 [.int .i64 0, .int .i64 0, .slice none 0 0] := by
    rw [← hV]
    have h := heap_alloc_new (w.alloc (.cells #[.int .i64 2, .int .i64 li, .slice E m me] 24)) (.cells #[.int .i64 0, .int .i64 0, .slice none 0 0] 24)
    rw [World.size_alloc] at h
    exact h
  have lg : g < w.heap.size := Blk.lt h.1
  have y0 := h0.cell 0
  have y1 := h0.cell 1
  have y2 := h0.cell 2
  have C : Hid (Calls Tryd.prog 35 #[.agg #[.int .i64 2, .int .i64 li, .slice E m me]] V fun e w1 => e = .returned (.iface 84 (.agg #[.int .i64 2, .int .i64 li, .slice E m me])) ∧
      Calls Tryd.prog 45 #[.pointer (some ⟨g, 0, none⟩), .iface 84 (.agg #[.int .i64 2, .int .i64 li, .slice E m me])] w1 fun e w3 => ∃ D k d, e = .returned (.tuple #[.agg #[.int .i64 3, .int .i64 li, .slice D k d], .int .i64 0]) ∧ Blk w3 (w.heap.size + 1) 24 [.int .i64 0, .int .i64 0, .slice none 0 0] ∧
      ∀ W', w3.grownBy W' (some (w.heap.size + 1)) → TakR w g name tb li (.slice A n c) asked who (.returned (.tuple #[.agg #[.int .i64 3, .int .i64 li, .slice D k d], .int .i64 0])) W') := by
    refine (kindOf_any 2 li E m me V).mono ?_
    rintro e w1 ⟨rfl, hw1⟩
    have b1 : Below V.heap.size V w1 := by rw [hw1]; exact (Below.refl _ _).alloc (Nat.le_refl _) _
    have B1 := step_to bV b1
    refine ⟨rfl, (take_ok g name tb li asked who0 who A E n c m me l rl ss w1 (h.later B1) (rd_up (hr.below B1) B1.size) hn hm hnm hi he hs).mono ?_⟩
    rintro e w3 ⟨D, k, d, rfl, g3, k3⟩
    refine ⟨D, k, d, rfl, blk_off (past_same h1 b1) g3 (by omega), fun W' hW => ⟨D, k, d, rfl, ?_, blk_off k3 hW (by omega)⟩⟩
    exact grown_past (gtrans' (below_some B1) g3) (by omega) hW
  have HV := Lib.hid hV
  clear hV bV h0 h1 lg h hr hn hm hnm hi he hs
  go_enter Tryd.func27, Tryd.ntmps27
  go_wp2_with (first
    | (rw [HV.out])
    | (go_at_call 35; ((with_reducible refine C.out.mono ?_); rintro e w1 ⟨rfl, n1⟩; have C1 := Lib.hid n1; clear n1))
    | (go_at_call 45; ((with_reducible refine C1.out.mono ?_); rintro e w3 ⟨D, k, d, rfl, k3, f1⟩; have r0 := k3.cell 0; have r1 := k3.cell 1; have r2 := k3.cell 2; have e0 := k3.frozen 0; have e1 := k3.frozen 1; have e2 := k3.frozen 2; have l3 := Blk.lt k3; have K3 := Lib.hid k3; have F1 := Lib.hid f1; clear k3 f1)))
  have hb4 := blk3 (x := .int .i64 3) (y := .int .i64 li) (z := .slice D k d) K3.out
  have p0 := hb4.cell 0
  have p1 := hb4.cell 1
  have p2 := hb4.cell 2
  exact bodyPost_ret (v := .tuple #[.agg #[.int .i64 3, .int .i64 li, .slice D k d], .int .i64 0]) (by simp [results, Tryd.results27, go_sem, p0, p1, p2]) rfl (F1.out _ (gset3 _ _ _ _ _))
end Go.Proofs.YtdijgmijnoiliaaDoor
