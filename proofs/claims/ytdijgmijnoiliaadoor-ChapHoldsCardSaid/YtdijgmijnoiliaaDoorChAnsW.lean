/-
  tetherref13.right, Answer (written by gen_chrans.py).
  The law ChapAnswers: the walk.
-/
import Derived.Test.YtdijgmijnoiliaaDoorChTop
import Derived.Test.YtdijgmijnoiliaaDoorChRRead
import Derived.Test.YtdijgmijnoiliaaDoorSeRFind
import Derived.Test.YtdijgmijnoiliaaDoorMdRefResp
import Derived.Test.YtdijgmijnoiliaaDoorChKnown
import Derived.Test.YtdijgmijnoiliaaDoorSame
namespace Go.Proofs.YtdijgmijnoiliaaDoor
open Go.RowKit Go.Shelf
set_option maxRecDepth 100000
set_option maxHeartbeats 1000000
set_option linter.unusedSimpArgs false
set_option linter.unusedVariables false

theorem rresp_dig (id : Int) (x : ByteArray) (A : Option Addr) (n c B : Nat) (l : List UInt8) (w : World) (h0 : 0 ≤ id) (h1 : id ≤ 255) (hr : Rd w B A n l) (hB : B ≤ w.heap.size) (hnil : A = none → c = 0) (hm : n ≤ 35184372088832) (hx : x.size ≤ 35184372088832) :
    Calls Tryd.prog 24 #[.int .i64 id, .string x, .slice A n c] w fun e w' => e = .returned (.tuple #[.agg ((digL id x l).map cellOf).toArray, .int .i64 0]) ∧ Below w.heap.size w w' := by
  have h := rresp_ok id x A n c B l w h0 h1 hr hB hnil hm hx
  rw [partB_bytes] at h
  exact h
theorem right_dig (id : Int) (x : ByteArray) (A : Option Addr) (n c B : Nat) (l : List UInt8) (w : World) (h0 : 0 ≤ id) (h1 : id ≤ 255) (hr : Rd w B A n l) (hB : B ≤ w.heap.size) (hnil : A = none → c = 0) (hm : n ≤ 35184372088832) (hx : x.size ≤ 35184372088832) :
    Calls Tryd.prog 39 #[.int .i64 id, .string x, .slice A n c] w fun e w' => ∃ D k d, e = .returned (.slice D k d) ∧ Own w' w.heap.size (.slice D k d) (digL id x l) ∧ Below w.heap.size w w' := by
  have RS := rresp_dig id x A n c B l w h0 h1 hr hB hnil hm hx
  obtain ⟨dg, hdg⟩ : ∃ dg, digL id x l = dg := ⟨_, rfl⟩
  have hD : dg.length = 16 := by rw [← hdg]; exact digL_length _ _ _
  rw [hdg] at RS ⊢
  obtain ⟨d0, d1, d2, d3, d4, d5, d6, d7, d8, d9, d10, d11, d12, d13, d14, d15, rfl⟩ := list16' dg hD
  have C : Hid (Calls Tryd.prog 24 #[.int .i64 id, .string x, .slice A n c] w fun e w1 => e = .returned (.tuple #[.agg #[.int .u8 (d0.toNat : Int), .int .u8 (d1.toNat : Int), .int .u8 (d2.toNat : Int), .int .u8 (d3.toNat : Int), .int .u8 (d4.toNat : Int), .int .u8 (d5.toNat : Int), .int .u8 (d6.toNat : Int), .int .u8 (d7.toNat : Int), .int .u8 (d8.toNat : Int), .int .u8 (d9.toNat : Int), .int .u8 (d10.toNat : Int), .int .u8 (d11.toNat : Int), .int .u8 (d12.toNat : Int), .int .u8 (d13.toNat : Int), .int .u8 (d14.toNat : Int), .int .u8 (d15.toNat : Int)], .int .i64 0]) ∧ ∃ V, w1.alloc (.cells #[.int .u8 (d0.toNat : Int), .int .u8 (d1.toNat : Int), .int .u8 (d2.toNat : Int), .int .u8 (d3.toNat : Int), .int .u8 (d4.toNat : Int), .int .u8 (d5.toNat : Int), .int .u8 (d6.toNat : Int), .int .u8 (d7.toNat : Int), .int .u8 (d8.toNat : Int), .int .u8 (d9.toNat : Int), .int .u8 (d10.toNat : Int), .int .u8 (d11.toNat : Int), .int .u8 (d12.toNat : Int), .int .u8 (d13.toNat : Int), .int .u8 (d14.toNat : Int), .int .u8 (d15.toNat : Int)] 47) = V ∧
      ∃ D k d w2, (Builtin.append_ #[22, 22] 22 #[.slice none 0 0, .slice (some ⟨w1.heap.size, 0, none⟩) 16 16]).run Tryd.prog V = .ok (.slice D k d) w2 ∧ Own w2 w.heap.size (.slice D k d) [d0, d1, d2, d3, d4, d5, d6, d7, d8, d9, d10, d11, d12, d13, d14, d15] ∧ Below w.heap.size w w2) := by
    refine RS.mono ?_
    rintro e w1 ⟨rfl, b1⟩
    refine ⟨rfl, ?_⟩
    obtain ⟨V, h15⟩ : ∃ V, w1.alloc (.cells #[.int .u8 (d0.toNat : Int), .int .u8 (d1.toNat : Int), .int .u8 (d2.toNat : Int), .int .u8 (d3.toNat : Int), .int .u8 (d4.toNat : Int), .int .u8 (d5.toNat : Int), .int .u8 (d6.toNat : Int), .int .u8 (d7.toNat : Int), .int .u8 (d8.toNat : Int), .int .u8 (d9.toNat : Int), .int .u8 (d10.toNat : Int), .int .u8 (d11.toNat : Int), .int .u8 (d12.toNat : Int), .int .u8 (d13.toNat : Int), .int .u8 (d14.toNat : Int), .int .u8 (d15.toNat : Int)] 47) = V := ⟨_, rfl⟩
    have b15 : Below w1.heap.size w1 V := by rw [← h15]; exact (Below.refl _ _).alloc (Nat.le_refl _) _
    have n15 : Blk V w1.heap.size 47 ([d0, d1, d2, d3, d4, d5, d6, d7, d8, d9, d10, d11, d12, d13, d14, d15].map cellOf) := by rw [← h15]; exact heap_alloc_new w1 _
    have r15 : Rd V V.heap.size (some ⟨w1.heap.size, 0, none⟩) 16 [d0, d1, d2, d3, d4, d5, d6, d7, d8, d9, d10, d11, d12, d13, d14, d15] := by
      refine ⟨rfl, fun _ => ⟨w1.heap.size, 0, rfl, Blk.lt n15, fun j hj => ?_⟩⟩
      rw [Nat.zero_add, n15.cell, cells_at _ j (by simpa using hj)]
    have BV := step_to b1 b15
    obtain ⟨v', w2, R, o2, g2, b2⟩ := append_run (Own.nil V V.heap.size) 16 r15 (fun h => nomatch h) (by simp) (Nat.le_refl _)
    obtain ⟨D, k, d, rfl⟩ : ∃ D k d, v' = .slice D k d := by
      rcases o2.form with ⟨e, _⟩ | ⟨g, cap, e, _⟩
      · exact ⟨_, _, _, e⟩
      · exact ⟨_, _, _, e⟩
    rw [List.nil_append] at o2
    have g3 : Below w.heap.size w w2 := BV.grown g2 BV.size (fun g e => by simp [Value.ownBlock] at e)
    refine ⟨V, h15, D, k, d, w2, R, ⟨o2.1, ?_⟩, g3⟩
    have hle := BV.size
    rcases o2.2 with h | ⟨g', cap', cur, e1, e2, e3⟩
    · exact .inl h
    · exact .inr ⟨g', cap', cur, e1, by omega, e3⟩
  clear RS hdg hD hr hB hnil hm hx
  go_enter Tryd.func39, Tryd.ntmps39
  go_wp2_with (first
    | (go_at_call 24; ((with_reducible refine C.out.mono ?_); rintro e w1 ⟨rfl, V, hV, D, k, d, w2, hR, fo, fb⟩; have HV := Lib.hid hV; have R2 := Lib.hid hR; have FO := Lib.hid fo; have FB := Lib.hid fb; clear hV hR fo fb C))
    | (rw [HV.out])
    | (at_builtin; refine wpList_appT rfl (.tmp 17) (.tmp 18) #[22, 22] rfl _ _ rfl rfl _ _ R2.out ?_))
  go_ret
  exact ⟨D, k, d, rfl, FO.out, FB.out⟩
theorem rfindR_box {w w1 : World} {B : Nat} {ss : List Sec} {o : Option Nat} {e : Ending} (h : RFindR w B ss o e w1) : ∃ s1 s2 E m k b, e = .returned (.tuple #[.agg #[.string s1, .string s2, .string (wdS ss o), .slice E m k], .bool b]) ∧ Below w.heap.size w w1 ∧ (b = false → wdB ss o = false) := by
  obtain ⟨h1, h2⟩ := h
  cases o with
  | none => exact ⟨_, _, _, _, _, _, h2, h1, fun _ => rfl⟩
  | some i =>
    obtain ⟨x, E, m, k, hx, rfl, _⟩ := h2
    have e : wdS ss (some i) = x.wd := by unfold wdS; simp [hx]
    exact ⟨x.cl, x.sv, E, m, k, true, by rw [e], h1, fun e => by cases e⟩
theorem ranswer_any (code id : Int) (A : Option Addr) (n c B : Nat) (l : List UInt8) (name remote : ByteArray) (E : Option Addr) (m me BS : Nat) (ss : List Sec) (w : World) (hr : Rd w B A n l) (hB : B ≤ w.heap.size) (hc : n ≤ c) (hnil : A = none → c = 0) (hn : n ≤ 140737488355328) (hnm : name.size ≤ maxLen) (hs : SecRd w BS E m ss) (hBS : BS ≤ w.heap.size) :
    Calls Tryd.prog 20 #[.agg #[.int .i64 code, .int .i64 id, .slice A n c], .string name, .string remote, .slice E m me] w (PktZ w 2 id (asL id l name remote ss) (anE code id l name remote ss)) := by
  obtain ⟨V, hV, bV, h0, h1⟩ : ∃ V, (w.alloc (.cells #[.int .i64 code, .int .i64 id, .slice A n c] 24)).alloc (.cells #[.int .i64 0, .int .i64 0, .slice none 0 0] 24) = V ∧ Below w.heap.size w V ∧ Blk V w.heap.size 24 [.int .i64 code, .int .i64 id, .slice A n c] ∧ Blk V (w.heap.size + 1) 24 [.int .i64 0, .int .i64 0, .slice none 0 0] := by
    refine ⟨_, rfl, ((Below.refl _ _).alloc (Nat.le_refl _) _).alloc (by simp) _, (Below.heap_alloc _ _ _ (by simp)).trans (heap_alloc_new w _), ?_⟩
    have h := heap_alloc_new (w.alloc (.cells #[.int .i64 code, .int .i64 id, .slice A n c] 24)) (.cells #[.int .i64 0, .int .i64 0, .slice none 0 0] 24)
    rw [World.size_alloc] at h
    exact h
  have x0 := h0.cell 0
  have x1 := h0.cell 1
  have x2 := h0.cell 2
  have HV := Lib.hid hV
  have FB : ∀ W er, Below w.heap.size w W → anE code id l name remote ss = er → er ≠ 0 → PktZ w 2 id (asL id l name remote ss) (anE code id l name remote ss) (.returned (.tuple #[.agg #[.int .i64 0, .int .i64 0, .slice none 0 0], .int .i64 er])) (((W.setCell ⟨w.heap.size + 1, 0, none⟩ (.int .i64 0)).setCell ⟨w.heap.size + 1, 1, none⟩ (.int .i64 0)).setCell ⟨w.heap.size + 1, 2, none⟩ (.slice none 0 0)) := fun W er hb he h0 => by
    rw [he]
    exact pktZ_no h0 (below_row hb (gset3 _ _ _ _ _) (by omega))
  by_cases hcode : code = 1
  case neg =>
    have he : anE code id l name remote ss = 90 := if_pos hcode
    have F1 := Lib.hid (FB V 90 bV he (by decide))
    have r0 := h1.cell 0
    have r1 := h1.cell 1
    have r2 := h1.cell 2
    have g0 := h1.frozen 0
    have g1 := h1.frozen 1
    have g2 := h1.frozen 2
    have lr := Blk.lt h1
    have hb4 := blk3 (x := .int .i64 0) (y := .int .i64 0) (z := .slice none 0 0) h1
    have p0 := hb4.cell 0
    have p1 := hb4.cell 1
    have p2 := hb4.cell 2
    have c1 : (code != 1) = true := by simpa using hcode
    clear FB bV h0 h1 hV hr hB he hs hBS hb4 hcode
    go_enter Tryd.func20, Tryd.ntmps20
    go_wp2_with (rw [HV.out])
    exact bodyPost_ret (v := .tuple #[.agg #[.int .i64 0, .int .i64 0, .slice none 0 0], .int .i64 90]) (by simp [results, Tryd.results20, go_sem, p0, p1, p2]) rfl F1.out
  subst hcode
  have hAN : anE 1 id l name remote ss = asE id l name remote ss := if_neg (by omega)
  have hRE : rrE 1 id l = rvE id l := if_neg (by omega)
  have RD := rread_any 1 id A n c B l V (hr.below (bV.mono hB)) (Nat.le_trans hB bV.size) hc hnil hn
  unfold RRR at RD
  rw [hRE] at RD
  have NM := Lib.hid (fun W => rname_any name W hnm)
  by_cases hre : rvE id l = 0
  case neg =>
    have he : anE 1 id l name remote ss = rvE id l := hAN.trans (if_pos hre)
    have C : Hid (Calls Tryd.prog 17 #[.agg #[.int .i64 1, .int .i64 id, .slice A n c]] V fun e w1 => ∃ D k d s0, ∃ er : Int, e = .returned (.tuple #[.slice D k d, .string s0, .int .i64 er]) ∧ (er != 0) = true ∧ Blk w1 (w.heap.size + 1) 24 [.int .i64 0, .int .i64 0, .slice none 0 0] ∧
        PktZ w 2 id (asL id l name remote ss) (anE 1 id l name remote ss) (.returned (.tuple #[.agg #[.int .i64 0, .int .i64 0, .slice none 0 0], .int .i64 er])) (((w1.setCell ⟨w.heap.size + 1, 0, none⟩ (.int .i64 0)).setCell ⟨w.heap.size + 1, 1, none⟩ (.int .i64 0)).setCell ⟨w.heap.size + 1, 2, none⟩ (.slice none 0 0))) := by
      refine RD.mono ?_
      rintro e w1 ⟨b1, D, k, d, rfl, -⟩
      exact ⟨D, k, d, _, _, rfl, by simpa using hre, past_same h1 b1, FB w1 _ (step_to bV b1) he hre⟩
    clear FB RD bV h0 h1 hV hr hB hre he hs hBS hAN hRE
    go_enter Tryd.func20, Tryd.ntmps20
    go_wp2_with (first
      | (rw [HV.out])
      | (go_at_call 17; ((with_reducible refine C.out.mono ?_); rintro e w1 ⟨D, k, d, s0, er, rfl, e1, k1, f1⟩; have r0 := k1.cell 0; have r1 := k1.cell 1; have r2 := k1.cell 2; have g0 := k1.frozen 0; have g1 := k1.frozen 1; have g2 := k1.frozen 2; have lr := Blk.lt k1; have K1 := Lib.hid k1; have F1 := Lib.hid f1; clear f1 k1)))
    have hb4 := blk3 (x := .int .i64 0) (y := .int .i64 0) (z := .slice none 0 0) K1.out
    have p0 := hb4.cell 0
    have p1 := hb4.cell 1
    have p2 := hb4.cell 2
    exact bodyPost_ret (v := .tuple #[.agg #[.int .i64 0, .int .i64 0, .slice none 0 0], .int .i64 er]) (by simp [results, Tryd.results20, go_sem, p0, p1, p2]) rfl F1.out
  obtain ⟨i0, i1⟩ := rvE_id hre
  obtain ⟨s0, hs0⟩ : ∃ s0, rvS l = s0 := ⟨_, rfl⟩
  have RDok : Calls Tryd.prog 17 #[.agg #[.int .i64 1, .int .i64 id, .slice A n c]] V fun e w1 => ∃ D k d, e = .returned (.tuple #[.slice D k d, .string s0, .int .i64 0]) ∧ Below V.heap.size V w1 ∧ Own w1 V.heap.size (.slice D k d) (rvV l) := by
    refine RD.mono ?_
    rintro e w1 ⟨b1, D, k, d, rfl, o1⟩
    rw [if_pos hre] at o1
    exact ⟨D, k, d, by rw [if_pos hre, hs0, hre], b1, o1⟩
  cases hb : nameB name
  case false =>
    have he : anE 1 id l name remote ss = 60 := hAN.trans (by unfold asE; rw [if_neg (by rw [hre]; simp), if_pos hb])
    have C : Hid (Calls Tryd.prog 17 #[.agg #[.int .i64 1, .int .i64 id, .slice A n c]] V fun e w1 => ∃ D k d, e = .returned (.tuple #[.slice D k d, .string s0, .int .i64 0]) ∧ Blk w1 (w.heap.size + 1) 24 [.int .i64 0, .int .i64 0, .slice none 0 0] ∧
        PktZ w 2 id (asL id l name remote ss) (anE 1 id l name remote ss) (.returned (.tuple #[.agg #[.int .i64 0, .int .i64 0, .slice none 0 0], .int .i64 60])) (((w1.setCell ⟨w.heap.size + 1, 0, none⟩ (.int .i64 0)).setCell ⟨w.heap.size + 1, 1, none⟩ (.int .i64 0)).setCell ⟨w.heap.size + 1, 2, none⟩ (.slice none 0 0))) := by
      refine RDok.mono ?_
      rintro e w1 ⟨D, k, d, rfl, b1, o1⟩
      exact ⟨D, k, d, rfl, past_same h1 b1, FB w1 _ (step_to bV b1) he (by decide)⟩
    rw [hb] at NM
    clear FB RD RDok bV h0 h1 hV hr hB hre he hs hBS hAN hRE hb hs0
    go_enter Tryd.func20, Tryd.ntmps20
    go_wp2_with (first
      | (rw [HV.out])
      | (go_at_call 17; ((with_reducible refine C.out.mono ?_); rintro e w1 ⟨D, k, d, rfl, k1, f1⟩; have r0 := k1.cell 0; have r1 := k1.cell 1; have r2 := k1.cell 2; have g0 := k1.frozen 0; have g1 := k1.frozen 1; have g2 := k1.frozen 2; have lr := Blk.lt k1; have K1 := Lib.hid k1; have F1 := Lib.hid f1; clear f1 k1))
      | (go_at_call 33; ((with_reducible refine (NM.out _).mono ?_); rintro e w' ⟨rfl, rfl⟩)))
    have hb4 := blk3 (x := .int .i64 0) (y := .int .i64 0) (z := .slice none 0 0) K1.out
    have p0 := hb4.cell 0
    have p1 := hb4.cell 1
    have p2 := hb4.cell 2
    exact bodyPost_ret (v := .tuple #[.agg #[.int .i64 0, .int .i64 0, .slice none 0 0], .int .i64 60]) (by simp [results, Tryd.results20, go_sem, p0, p1, p2]) rfl F1.out
  rw [hb] at NM
  obtain ⟨srv, hsrv⟩ : ∃ srv, srvOf remote l = srv := ⟨_, rfl⟩
  have hrt : (remote.toList.isEmpty = true ∧ srv = s0) ∨ (remote.toList.isEmpty = false ∧ srv = remote) := by
    rw [← hsrv, ← hs0]
    unfold srvOf
    rcases Nat.eq_zero_or_pos remote.size with h | h
    · exact .inl ⟨str_nil h, by rw [if_pos h]⟩
    · exact .inr ⟨str_ne h, by rw [if_neg (by omega)]⟩
  have hnm64 : name.size ≤ 64 := by simp [nameB] at hb; exact hb.2.1
  obtain ⟨wd, hwd⟩ : ∃ wd, wdS ss (bst ss name srv) = wd := ⟨_, rfl⟩
  -- behind what is read: the word
  have WC : Calls Tryd.prog 17 #[.agg #[.int .i64 1, .int .i64 id, .slice A n c]] V fun e w1 => ∃ D k d, e = .returned (.tuple #[.slice D k d, .string s0, .int .i64 0]) ∧
      Calls Tryd.prog 23 #[.slice E m me, .string name, .string srv] w1 fun e w2 => ∃ s1 s2 F1 m1 k1 b, e = .returned (.tuple #[.agg #[.string s1, .string s2, .string wd, .slice F1 m1 k1], .bool b]) ∧ (b = false → wdB ss (bst ss name srv) = false) ∧
        ∃ V2, w2.alloc (.cells #[.string s1, .string s2, .string wd, .slice F1 m1 k1] 44) = V2 ∧ Blk V2 w2.heap.size 44 [.string s1, .string s2, .string wd, .slice F1 m1 k1] ∧ w.heap.size + 1 < w2.heap.size ∧ Below V.heap.size V V2 ∧ Own V2 V.heap.size (.slice D k d) (rvV l) := by
    refine RDok.mono ?_
    rintro e w1 ⟨D, k, d, rfl, b1, o1⟩
    have B1 := step_to bV b1
    refine ⟨D, k, d, rfl, (rfind_any E m me BS ss name srv w1 (hs.below B1 hBS) (Nat.le_trans hBS B1.size)).mono ?_⟩
    intro e w2 hh
    obtain ⟨s1, s2, F1, m1, k1, b, rfl, b2, hbf⟩ := rfindR_box hh
    have b3 := (Below.refl w2.heap.size w2).alloc (Nat.le_refl _) (.cells #[.string s1, .string s2, .string wd, .slice F1 m1 k1] 44)
    have n2 := heap_alloc_new w2 (.cells #[.string s1, .string s2, .string wd, .slice F1 m1 k1] 44)
    refine ⟨s1, s2, F1, m1, k1, b, by rw [hwd], hbf, _, rfl, n2, ?_, step_to (step_to b1 b2) b3, (o1.later b2).later b3⟩
    have := Blk.lt (past_same (past_same h1 b1) b2)
    omega
  cases hwb : wdB ss (bst ss name srv)
  case false =>
    have he : anE 1 id l name remote ss = 5 := hAN.trans (by unfold asE; rw [if_neg (by rw [hre]; simp), if_neg (by rw [hb]; simp), hsrv, if_pos hwb])
    have hwe : wd.toList.isEmpty = true := by
      unfold wdB at hwb
      rw [hwd] at hwb
      exact str_nil (by have := of_decide_eq_false hwb; omega)
    have C : Hid (Calls Tryd.prog 17 #[.agg #[.int .i64 1, .int .i64 id, .slice A n c]] V fun e w1 => ∃ D k d, e = .returned (.tuple #[.slice D k d, .string s0, .int .i64 0]) ∧
        Calls Tryd.prog 23 #[.slice E m me, .string name, .string srv] w1 fun e w2 => ∃ s1 s2 F1 m1 k1 b, e = .returned (.tuple #[.agg #[.string s1, .string s2, .string wd, .slice F1 m1 k1], .bool b]) ∧
        ∃ V2, w2.alloc (.cells #[.string s1, .string s2, .string wd, .slice F1 m1 k1] 44) = V2 ∧ Blk V2 w2.heap.size 44 [.string s1, .string s2, .string wd, .slice F1 m1 k1] ∧ Blk V2 (w.heap.size + 1) 24 [.int .i64 0, .int .i64 0, .slice none 0 0] ∧
        PktZ w 2 id (asL id l name remote ss) (anE 1 id l name remote ss) (.returned (.tuple #[.agg #[.int .i64 0, .int .i64 0, .slice none 0 0], .int .i64 5])) (((V2.setCell ⟨w.heap.size + 1, 0, none⟩ (.int .i64 0)).setCell ⟨w.heap.size + 1, 1, none⟩ (.int .i64 0)).setCell ⟨w.heap.size + 1, 2, none⟩ (.slice none 0 0))) := by
      refine WC.mono ?_
      rintro e w1 ⟨D, k, d, rfl, hw⟩
      refine ⟨D, k, d, rfl, hw.mono ?_⟩
      rintro e w2 ⟨s1, s2, F1, m1, k1, b, rfl, -, V2, hV2, n2, -, bv, -⟩
      exact ⟨s1, s2, F1, m1, k1, b, rfl, V2, hV2, n2, past_same h1 bv, FB V2 _ (step_to bV bv) he (by decide)⟩
    clear FB RD RDok WC bV h0 h1 hV hr hB hre he hs hBS hAN hRE hb hwb hs0 hsrv hnm64 hwd
    rcases hrt with ⟨hr1, rfl⟩ | ⟨hr1, rfl⟩
    all_goals
      go_enter Tryd.func20, Tryd.ntmps20
      go_upto_region 11 with (first
        | (rw [HV.out])
        | (go_at_call 17; ((with_reducible refine C.out.mono ?_); rintro e w1 ⟨D, k, d, rfl, n1⟩; have C1 := Lib.hid n1; clear n1 C))
        | (go_at_call 33; ((with_reducible refine (NM.out _).mono ?_); rintro e w' ⟨rfl, rfl⟩))
        | (go_at_call 23; ((with_reducible refine C1.out.mono ?_); rintro e w2 ⟨s1, s2, F2, m1, q1, b, rfl, V2, hV2, n2, k1, f1⟩; have HV2 := Lib.hid hV2; have y0 := n2.cell 0; have y1 := n2.cell 1; have y2 := n2.cell 2; have y3 := n2.cell 3; clear hV2 n2 C1; have r0 := k1.cell 0; have r1 := k1.cell 1; have r2 := k1.cell 2; have g0 := k1.frozen 0; have g1 := k1.frozen 1; have g2 := k1.frozen 2; have lr := Blk.lt k1; have K1 := Lib.hid k1; have F1 := Lib.hid f1; clear f1 k1))
        | (rw [HV2.out]))
      rcases b with _ | _
      all_goals
        go_wp2
        have hb4 := blk3 (x := .int .i64 0) (y := .int .i64 0) (z := .slice none 0 0) K1.out
        have p0 := hb4.cell 0
        have p1 := hb4.cell 1
        have p2 := hb4.cell 2
        exact bodyPost_ret (v := .tuple #[.agg #[.int .i64 0, .int .i64 0, .slice none 0 0], .int .i64 5]) (by simp [results, Tryd.results20, go_sem, p0, p1, p2]) rfl F1.out
  have he : anE 1 id l name remote ss = 0 := hAN.trans (by unfold asE; rw [if_neg (by rw [hre]; simp), if_neg (by rw [hb]; simp), hsrv, if_neg (by rw [hwb]; simp)])
  have hwz : wd.size ≤ 64 := by rw [← hwd]; exact wdS_size
  have hwe : wd.toList.isEmpty = false := by
    unfold wdB at hwb
    rw [hwd] at hwb
    exact str_ne (of_decide_eq_true hwb)
  have hL : asL id l name remote ss = mkL (digL id wd (rvV l)) name := by unfold asL; rw [hsrv, hwd]
  rw [he, hL]
  have hvl : (rvV l).length ≤ 255 := by
    unfold rvV
    rw [List.length_take]
    have := rvN_lt l
    omega
  have mk0 : mkE 2 id 16 name = 0 := by
    unfold mkE
    have : idB id = true := by simp [idB]; omega
    rw [if_neg (by rw [this]; simp), if_neg (by omega), if_neg (by rw [hb]; simp)]
  have hD := digL_length id wd (rvV l)
  obtain ⟨dg, hdg⟩ : ∃ dg, digL id wd (rvV l) = dg := ⟨_, rfl⟩
  have C : Hid (Calls Tryd.prog 17 #[.agg #[.int .i64 1, .int .i64 id, .slice A n c]] V fun e w1 => ∃ D k d, e = .returned (.tuple #[.slice D k d, .string s0, .int .i64 0]) ∧
      Calls Tryd.prog 23 #[.slice E m me, .string name, .string srv] w1 fun e w2 => ∃ s1 s2 F1 m1 k1, e = .returned (.tuple #[.agg #[.string s1, .string s2, .string wd, .slice F1 m1 k1], .bool true]) ∧
      ∃ V2, w2.alloc (.cells #[.string s1, .string s2, .string wd, .slice F1 m1 k1] 44) = V2 ∧ Blk V2 w2.heap.size 44 [.string s1, .string s2, .string wd, .slice F1 m1 k1] ∧ Blk V2 w.heap.size 24 [.int .i64 1, .int .i64 id, .slice A n c] ∧ w.heap.size + 1 < w2.heap.size ∧
        ∀ W, Below V2.heap.size V2 W → Calls Tryd.prog 39 #[.int .i64 id, .string wd, .slice D k d] W fun e w3 => ∃ D2 k2 d2, e = .returned (.slice D2 k2 d2) ∧ Blk w3 w2.heap.size 44 [.string s1, .string s2, .string wd, .slice F1 m1 k1] ∧ Blk w3 w.heap.size 24 [.int .i64 1, .int .i64 id, .slice A n c] ∧
          ∀ W2, Below w3.heap.size w3 W2 → Calls Tryd.prog 9 #[.int .i64 2, .int .i64 id, .slice D2 k2 d2, .string name] W2 fun e w4 => ∃ D' k' d', e = .returned (.tuple #[.agg #[.int .i64 2, .int .i64 id, .slice D' k' d'], .int .i64 0]) ∧ Blk w4 w2.heap.size 44 [.string s1, .string s2, .string wd, .slice F1 m1 k1] ∧ Blk w4 w.heap.size 24 [.int .i64 1, .int .i64 id, .slice A n c] ∧ Blk w4 (w.heap.size + 1) 24 [.int .i64 0, .int .i64 0, .slice none 0 0] ∧
            PktZ w 2 id (mkL dg name) 0 (.returned (.tuple #[.agg #[.int .i64 2, .int .i64 id, .slice D' k' d'], .int .i64 0])) (((w4.setCell ⟨w.heap.size + 1, 0, none⟩ (.int .i64 2)).setCell ⟨w.heap.size + 1, 1, none⟩ (.int .i64 id)).setCell ⟨w.heap.size + 1, 2, none⟩ (.slice D' k' d'))) := by
    refine WC.mono ?_
    rintro e w1 ⟨D, k, d, rfl, hw⟩
    refine ⟨D, k, d, rfl, hw.mono ?_⟩
    rintro e w2 ⟨s1, s2, F1, m1, k1, b, rfl, hbf, V2, hV2, n2, hlt, bv, o2⟩
    have hbt : b = true := by
      cases b
      · rw [hwb] at hbf; exact absurd (hbf rfl) (by simp)
      · rfl
    subst hbt
    refine ⟨s1, s2, F1, m1, k1, rfl, V2, hV2, n2, past_same h0 bv, hlt, fun W bW => ?_⟩
    have rd := own_rd (o2.later bW)
    have hk : k ≤ 255 := by rw [← rd.1.1]; exact hvl
    refine (right_dig id wd D k d W.heap.size (rvV l) W i0 i1 rd.1 (Nat.le_refl _) rd.2.2 (by omega) (by omega)).mono ?_
    rw [hdg]
    rw [hdg] at hD
    rintro e w3 ⟨D2, k2, d2, rfl, o3, b3⟩
    have bw3 := step_to bW b3
    refine ⟨D2, k2, d2, rfl, past_same n2 bw3, past_same (past_same h0 bv) bw3, fun W2 bW2 => ?_⟩
    have bw4 := step_to bw3 bW2
    have rd2 := own_rd (o3.later bW2)
    have hk2 : k2 = 16 := by rw [← rd2.1.1]; exact hD
    subst hk2
    have MK := rmake_any 2 id D2 16 d2 W2.heap.size dg name W2 rd2.1 (Nat.le_refl _) rd2.2.2 (by omega) hnm
    rw [mk0] at MK
    refine MK.mono ?_
    rintro e w4 ⟨b4, D', k', d', rfl, o4⟩
    have bw5 := step_to bw4 b4
    have BV5 := step_to (step_to bV bv) bw5
    have gg := gset3 w4 (w.heap.size + 1) (.int .i64 2) (.int .i64 id) (.slice D' k' d')
    refine ⟨D', k', d', rfl, past_same n2 bw5, past_same (past_same h0 bv) bw5, past_same (past_same h1 bv) bw5, below_row BV5 gg (by omega), D', k', d', rfl, ?_⟩
    have hsz2 : w.heap.size + 1 < W2.heap.size := by
      have := Blk.lt (past_same (past_same h1 bv) bw4)
      omega
    have hne : (Value.slice D' k' d').ownBlock = none ∨ (Value.slice D' k' d').ownBlock ≠ some (w.heap.size + 1) := .inr fun e => by
      have := (o4.block _ e).1
      omega
    have h6 := o4.grown gg hne
    refine ⟨h6.1, ?_⟩
    rcases h6.2 with h | ⟨g', cap', cur, e1, e2, e3⟩
    · exact .inl h
    · exact .inr ⟨g', cap', cur, e1, by omega, e3⟩
  rw [hdg]
  clear FB RD RDok WC bV h0 h1 hV hr hB hre he hs hBS hAN hRE hb hwb hs0 hsrv hnm64 hwd hL hvl mk0 hD hdg hwz i0 i1
  rcases hrt with ⟨hr1, rfl⟩ | ⟨hr1, rfl⟩
  all_goals
    go_enter Tryd.func20, Tryd.ntmps20
    go_upto_region 13 with (first
      | (rw [HV.out])
      | (go_at_call 17; ((with_reducible refine C.out.mono ?_); rintro e w1 ⟨D, k, d, rfl, n1⟩; have C1 := Lib.hid n1; clear n1 C))
      | (go_at_call 33; ((with_reducible refine (NM.out _).mono ?_); rintro e w' ⟨rfl, rfl⟩))
      | (go_at_call 23; ((with_reducible refine C1.out.mono ?_); rintro e w2 ⟨s1, s2, F2, m1, q1, rfl, V2, hV2, n2, n3, hlt, f1⟩; have HV2 := Lib.hid hV2; have y0 := n2.cell 0; have y1 := n2.cell 1; have y2 := n2.cell 2; have y3 := n2.cell 3; have z1 := n3.cell 1; have tn1 : w2.heap.size ≠ w.heap.size + 1 := Nat.ne_of_gt hlt; have tn2 : w.heap.size + 1 ≠ w2.heap.size := Nat.ne_of_lt hlt; have HA := Lib.hid (Below.refl V2.heap.size V2); have HA1 : Hid (Below V2.heap.size V2 V2.drew) := below_drewS (Below.refl V2.heap.size V2) 1; have C2 := Lib.hid f1; clear hV2 n2 n3 f1 C1))
      | (rw [HV2.out]))
    go_region_held3 (fun w' => w'.cell? ⟨w.heap.size, 1, none⟩ = some (.int .i64 id) ∧ w'.cell? ⟨w2.heap.size, 2, none⟩ = some (.string wd)) (go_keep) (first
      | (go_at_call 39; ((with_reducible first | refine (C2.out _ HA1.out).mono ?_ | refine (C2.out _ HA.out).mono ?_); rintro e w3 ⟨D2, k2, d2, rfl, n2, n3, f1⟩; have u2 := n2.cell 2; have u1 := n3.cell 1; have HB := Lib.hid (Below.refl w3.heap.size w3); have HB1 : Hid (Below w3.heap.size w3 w3.drew) := below_drewS (Below.refl w3.heap.size w3) 1; have C3 := Lib.hid f1; clear n2 n3 f1))
      | (go_at_call 9; ((with_reducible first | refine (C3.out _ HB.out).mono ?_ | refine (C3.out _ HB1.out).mono ?_); rintro e w4 ⟨D', k', d', rfl, n2, n3, k1, f1⟩; have v2 := n2.cell 2; have v1 := n3.cell 1; clear n2 n3; have r0 := k1.cell 0; have r1 := k1.cell 1; have r2 := k1.cell 2; have g0 := k1.frozen 0; have g1 := k1.frozen 1; have g2 := k1.frozen 2; have lr := Blk.lt k1; have K1 := Lib.hid k1; have F1 := Lib.hid f1; clear f1 k1)))
    all_goals
      go_wp2
      have hb4 := blk3 (x := .int .i64 2) (y := .int .i64 id) (z := .slice D' k' d') K1.out
      have p0 := hb4.cell 0
      have p1 := hb4.cell 1
      have p2 := hb4.cell 2
      exact bodyPost_ret (v := .tuple #[.agg #[.int .i64 2, .int .i64 id, .slice D' k' d'], .int .i64 0]) (by simp [results, Tryd.results20, go_sem, p0, p1, p2]) rfl F1.out
end Go.Proofs.YtdijgmijnoiliaaDoor
namespace Go.Proofs.YtdijgmijnoiliaaDoor
open Go.RowKit Go.Shelf
set_option maxRecDepth 100000
set_option maxHeartbeats 1000000
set_option linter.unusedSimpArgs false
set_option linter.unusedVariables false

theorem samePacket_yes (D F : Option Addr) (n c d B : Nat) (l : List UInt8) (C I : Int) (w : World) (hr : Rd w B D n l) (hq : Rd w B F n l) (hB : B ≤ w.heap.size) (hm : n ≤ 140737488355328) :
    Calls Tryd.prog 10 #[.agg #[.int .i64 C, .int .i64 I, .slice D n c], .agg #[.int .i64 C, .int .i64 I, .slice F n d]] w fun e w' => e = .returned (.bool true) ∧ Below w.heap.size w w' := by
  have hb2 : Below w.heap.size w ((w.alloc (.cells #[.int .i64 C, .int .i64 I, .slice D n c] 24)).alloc (.cells #[.int .i64 C, .int .i64 I, .slice F n d] 24)) := ((Below.refl _ _).alloc (Nat.le_refl _) _).alloc (by simp) _
  have SM := Lib.hid (same_yes D F n c d l _ B (hr.below (hb2.mono hB)) (hq.below (hb2.mono hB)) (by unfold maxLen; omega))
  have HB := Lib.hid hb2
  have heq : ∀ z : Int, (z == z) = true := by simp
  clear hb2 hr hq
  go_enter Tryd.func10, Tryd.ntmps10
  go_wp2_with (go_at_call 15; ((with_reducible refine SM.out.mono ?_); rintro e w' ⟨rfl, k, rfl⟩))
  go_ret
  exact ⟨rfl, below_drewN HB.out _⟩
/-- what a packet of the call's own is -/
def PkO (w : World) (Ca Ia er : Int) (L : List UInt8) (e : Ending) (w' : World) : Prop :=
  ∃ D k d, e = .returned (.tuple #[.agg #[.int .i64 Ca, .int .i64 Ia, .slice D k d], .int .i64 er]) ∧ Below w.heap.size w w' ∧ Own w' w.heap.size (.slice D k d) L
theorem pkO_of {w w' : World} {code id er : Int} {l : List UInt8} {e : Ending} (h : PktZ w code id l er e w') : PkO w (if er = 0 then code else 0) (if er = 0 then id else 0) er (if er = 0 then l else []) e w' := by
  obtain ⟨b, D, k, d, rfl, o⟩ := h
  exact ⟨D, k, d, rfl, b, o⟩
theorem chapanswers_walk (C I : Int) (A : Option Addr) (n c : Nat) (l : List UInt8) (name remote : ByteArray) (E : Option Addr) (m me : Nat) (ss : List Sec) (w : World) (hr : Rd w w.heap.size A n l) (hnil : A = none → c = 0) (hc : n ≤ c) (hn : c ≤ 140737488351232) (hnm : name.size ≤ maxLen) (hrm : remote.size ≤ maxLen) (hs : SecRd w w.heap.size E m ss) (hK : TabK w) (hS : TabS w) :
    Calls Tryd.prog 4 #[.agg #[.int .i64 C, .int .i64 I, .slice A n c], .string name, .string remote, .slice E m me] w fun e w' => e = .returned (.bool true) ∧ Below w.heap.size w w' := by
  obtain ⟨V, hV⟩ : ∃ V, w.alloc (.cells #[.int .i64 C, .int .i64 I, .slice A n c] 24) = V := ⟨_, rfl⟩
  have bV : Below w.heap.size w V := by rw [← hV]; exact (Below.refl _ _).alloc (Nat.le_refl _) _
  have h0 : Blk V w.heap.size 24 [.int .i64 C, .int .i64 I, .slice A n c] := by rw [← hV]; exact heap_alloc_new w _
  have x0 := h0.cell 0
  have x1 := h0.cell 1
  have x2 := h0.cell 2
  have HV := Lib.hid hV
  obtain ⟨er, her⟩ : ∃ er, anE C I l name remote ss = er := ⟨_, rfl⟩
  obtain ⟨L, hL⟩ : ∃ L, (if er = 0 then asL I l name remote ss else []) = L := ⟨_, rfl⟩
  obtain ⟨Ca, hCa⟩ : ∃ Ca : Int, (if er = 0 then 2 else 0) = Ca := ⟨_, rfl⟩
  obtain ⟨Ia, hIa⟩ : ∃ Ia : Int, (if er = 0 then I else 0) = Ia := ⟨_, rfl⟩
  have CC : Hid (Calls Tryd.prog 19 #[.agg #[.int .i64 C, .int .i64 I, .slice A n c], .string name, .string remote, .slice E m me] V fun e w1 => ∃ D1 k1 d1, e = .returned (.tuple #[.agg #[.int .i64 Ca, .int .i64 Ia, .slice D1 k1 d1], .int .i64 er]) ∧
      ∃ V1, w1.alloc (.cells #[.int .i64 Ca, .int .i64 Ia, .slice D1 k1 d1] 24) = V1 ∧ Blk V1 w.heap.size 24 [.int .i64 C, .int .i64 I, .slice A n c] ∧
      Calls Tryd.prog 20 #[.agg #[.int .i64 C, .int .i64 I, .slice A n c], .string name, .string remote, .slice E m me] V1 fun e w2 => ∃ D2 k2 d2, e = .returned (.tuple #[.agg #[.int .i64 Ca, .int .i64 Ia, .slice D2 k2 d2], .int .i64 er]) ∧
      ∃ V2, w2.alloc (.cells #[.int .i64 Ca, .int .i64 Ia, .slice D2 k2 d2] 24) = V2 ∧ Blk V2 w1.heap.size 24 [.int .i64 Ca, .int .i64 Ia, .slice D1 k1 d1] ∧ Blk V2 w2.heap.size 24 [.int .i64 Ca, .int .i64 Ia, .slice D2 k2 d2] ∧
      Calls Tryd.prog 10 #[.agg #[.int .i64 Ca, .int .i64 Ia, .slice D1 k1 d1], .agg #[.int .i64 Ca, .int .i64 Ia, .slice D2 k2 d2]] V2 fun e w3 => e = .returned (.bool true) ∧
      Calls Tryd.prog 18 #[] w3 fun e w4 => e = .returned (.bool true) ∧ Below w.heap.size w w4) := by
    have h1 := canswer_any C I A n c w.heap.size l name remote E m me w.heap.size ss V (hr.below bV) bV.size (by omega) hnm hrm (hs.below bV (Nat.le_refl _)) bV.size (hK.kept bV) (hS.kept bV)
    rw [her] at h1
    refine h1.mono ?_
    intro e w1 hh
    have hp := pkO_of hh
    rw [hL, hCa, hIa] at hp
    obtain ⟨D1, k1, d1, rfl, b1, o1⟩ := hp
    have b2 := (Below.refl w1.heap.size w1).alloc (Nat.le_refl _) (.cells #[.int .i64 Ca, .int .i64 Ia, .slice D1 k1 d1] 24)
    have n2 := heap_alloc_new w1 (.cells #[.int .i64 Ca, .int .i64 Ia, .slice D1 k1 d1] 24)
    obtain ⟨V1, hV1⟩ : ∃ V1, w1.alloc (.cells #[.int .i64 Ca, .int .i64 Ia, .slice D1 k1 d1] 24) = V1 := ⟨_, rfl⟩
    rw [hV1] at b2 n2
    have n2 : Blk V1 w1.heap.size 24 [.int .i64 Ca, .int .i64 Ia, .slice D1 k1 d1] := n2
    have B2 := step_to (step_to bV b1) b2
    refine ⟨D1, k1, d1, rfl, V1, hV1, past_same (past_same h0 b1) b2, ?_⟩
    have h2 := ranswer_any C I A n c w.heap.size l name remote E m me w.heap.size ss V1 (hr.below B2) B2.size hc hnil (by omega) hnm (hs.below B2 (Nat.le_refl _)) B2.size
    rw [her] at h2
    refine h2.mono ?_
    intro e w2 hh
    have hp := pkO_of hh
    rw [hL, hCa, hIa] at hp
    obtain ⟨D2, k2, d2, rfl, b3, o2⟩ := hp
    have b4 := (Below.refl w2.heap.size w2).alloc (Nat.le_refl _) (.cells #[.int .i64 Ca, .int .i64 Ia, .slice D2 k2 d2] 24)
    have n4 := heap_alloc_new w2 (.cells #[.int .i64 Ca, .int .i64 Ia, .slice D2 k2 d2] 24)
    obtain ⟨V2, hV2⟩ : ∃ V2, w2.alloc (.cells #[.int .i64 Ca, .int .i64 Ia, .slice D2 k2 d2] 24) = V2 := ⟨_, rfl⟩
    rw [hV2] at b4 n4
    have b34 := step_to b3 b4
    have B4 := step_to B2 b34
    refine ⟨D2, k2, d2, rfl, V2, hV2, past_same n2 b34, n4, ?_⟩
    have r1 := own_rd ((o1.later b2).later b34)
    have r2 := own_rd (o2.later b4)
    have e1 := r1.1.1
    have e2 := r2.1.1
    subst e1
    have e3 : L.length = k2 := e2
    subst e3
    have hlen : L.length ≤ 140737488355328 := by
      rw [← hL]
      split
      · unfold asL mkL
        rw [List.length_append, List.length_append, digL_length]
        have : name.data.toList.length = name.size := Array.length_toList
        have hz : er = 0 → name.size ≤ 64 := fun h0 => by
          have hh : anE C I l name remote ss = 0 := her.trans h0
          unfold anE asE at hh
          split at hh
          · exact absurd hh (by decide)
          · split at hh
            · rename_i h; exact absurd hh h
            · split at hh
              · exact absurd hh (by decide)
              · rename_i h
                have hb : nameB name = true := by cases hb : nameB name; exact absurd hb h; rfl
                simp [nameB] at hb
                exact hb.2.1
        have := hz (by assumption)
        simp
        omega
      · simp
    refine (samePacket_yes D1 D2 L.length d1 d2 V2.heap.size L Ca Ia V2 r1.1 r2.1 (Nat.le_refl _) hlen).mono ?_
    rintro e w3 ⟨rfl, b5⟩
    have B5 := step_to B4 b5
    refine ⟨rfl, (known_any w3 (hK.kept B5) (hS.kept B5)).mono ?_⟩
    rintro e w4 ⟨rfl, b6⟩
    exact ⟨rfl, step_to B5 b6⟩
  have heq : ∀ z : Int, (z == z) = true := by simp
  clear hV bV h0 hr hnil hc hn hnm hrm hs hK hS her hL hCa hIa
  go_enter Tryd.func4, Tryd.ntmps4
  go_wp2_with (first
    | (rw [HV.out])
    | (go_at_call 19; ((with_reducible refine CC.out.mono ?_); rintro e w1 ⟨D1, k1, d1, rfl, V1, hV1, n2, n1⟩; have HV1 := Lib.hid hV1; have y0 := n2.cell 0; have y1 := n2.cell 1; have y2 := n2.cell 2; have C1 := Lib.hid n1; clear hV1 n1 n2))
    | (rw [HV1.out])
    | (go_at_call 20; ((with_reducible refine C1.out.mono ?_); rintro e w2 ⟨D2, k2, d2, rfl, V2, hV2, n2, n3, n1⟩; have HV2 := Lib.hid hV2; have z0 := n2.cell 0; have z1 := n2.cell 1; have z2 := n2.cell 2; have u0 := n3.cell 0; have u1 := n3.cell 1; have u2 := n3.cell 2; have C2 := Lib.hid n1; clear hV2 n1 n2 n3))
    | (rw [HV2.out])
    | (go_at_call 10; ((with_reducible refine C2.out.mono ?_); rintro e w3 ⟨rfl, n1⟩; have C3 := Lib.hid n1; clear n1))
    | (go_at_call 18; ((with_reducible refine C3.out.mono ?_); rintro e w4 ⟨rfl, b4⟩; have F := Lib.hid b4; clear b4)))
  go_ret
  exact ⟨rfl, F.out⟩
end Go.Proofs.YtdijgmijnoiliaaDoor
