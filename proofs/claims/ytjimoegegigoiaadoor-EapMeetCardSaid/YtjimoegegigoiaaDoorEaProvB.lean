/-
  tetherref14.Write of names and of proofs (written by gen_earw.py).
  The law EapProves: an authenticator accepts just behind the digest (written by gen_eaprv.py).
  The law EapProves: behind a name (written by gen_eaprv2.py).
-/
import Derived.Test.YtjimoegegigoiaaDoorEaAwake
import Derived.Test.YtjimoegegigoiaaDoorSeRFind
namespace Go.Proofs.YtjimoegegigoiaaDoor
open Go.RowKit Go.Shelf
set_option maxRecDepth 100000
set_option maxHeartbeats 1000000
set_option linter.unusedSimpArgs false
set_option linter.unusedVariables false

theorem byteNumber_any (z : Int) (w : World) : Calls Tryd.prog 45 #[.int .i64 z] w fun e w' => e = .returned (.bool (idB z)) ∧ w = w' := by
  unfold idB
  by_cases h0 : 0 ≤ z
  · rw [decide_eq_true h0]
    by_cases h1 : z ≤ 255
    · rw [decide_eq_true h1]
      go_enter Tryd.func45, Tryd.ntmps45
      go_wp2
      go_ret
      exact ⟨rfl, rfl⟩
    · rw [decide_eq_false h1]
      go_enter Tryd.func45, Tryd.ntmps45
      go_wp2
      go_ret
      exact ⟨rfl, rfl⟩
  · rw [decide_eq_false h0]
    go_enter Tryd.func45, Tryd.ntmps45
    go_wp2
    go_ret
    exact ⟨rfl, rfl⟩
theorem rwrite_id (I : Int) (t : ByteArray) (w : World) (hi : idB I = true) (hm : t.size ≤ 140737488351232) :
    Calls Tryd.prog 15 #[.agg #[.int .i64 2, .int .i64 I, .int .i64 1, .slice none 0 0, .string t]] w (PktZ w 2 I (dtL 2 1 [] t) (if 16380 < 1 + t.size then 4 else 0)) := by
  obtain ⟨V, hV, bV, m0, p0⟩ := alloc_two w #[.int .i64 2, .int .i64 I, .int .i64 1, .slice none 0 0, .string t] #[.int .i64 0, .int .i64 0, .slice none 0 0] 30 24
  have hm0 : Blk V w.heap.size 30 [.int .i64 2, .int .i64 I, .int .i64 1, .slice none 0 0, .string t] := m0
  have hp0 : Blk V (w.heap.size + 1) 24 [.int .i64 0, .int .i64 0, .slice none 0 0] := p0
  have i0 := hm0.cell 0
  have i1 := hm0.cell 1
  have i2 := hm0.cell 2
  have i3 := hm0.cell 3
  have i4 := hm0.cell 4
  have lm := Blk.lt hm0
  have HV := Lib.hid hV
  have BN := Lib.hid (fun z W => byteNumber_any z W)
  obtain ⟨V1, hV1⟩ : ∃ V1, V.alloc (.cells #[.int .u8 1] 5) = V1 := ⟨_, rfl⟩
  have bV1 : Below V.heap.size V V1 := by rw [← hV1]; exact (Below.refl _ _).alloc (Nat.le_refl _) _
  have o1 : Own V1 V.heap.size (.slice (some ⟨V.heap.size, 0, none⟩) 1 1) [1] := by rw [← hV1]; exact own_one V V.heap.size 1 1 rfl (Nat.le_refl _)
  have hm1 := past_blk hm0 bV1
  have hp1 := past_blk hp0 bV1
  have k0 := hm1.cell 0
  have k2 := hm1.cell 2
  have k3 := hm1.cell 3
  have k4 := hm1.cell 4
  have lm1 := Blk.lt hm1
  have HV1 := Lib.hid hV1
  have sV := bV.size
  have hmI : (t.size : Int) ≤ 140737488351232 := by omega
  have BI : Hid (∀ W, Calls Tryd.prog 45 #[.int .i64 I] W fun e w' => e = .returned (.bool true) ∧ W = w') := fun W => by have := byteNumber_any I W; rw [hi] at this; exact this
  have B1 : Hid (∀ W, Calls Tryd.prog 45 #[.int .i64 1] W fun e w' => e = .returned (.bool true) ∧ W = w') := fun W => byteNumber_any 1 W
  by_cases hs : 16380 < 1 + t.size
  · rw [if_pos hs]
    have hsI : (16380 : Int) < 1 + (t.size : Int) := by omega
    have r0 := hp1.cell 0
    have e0 := hp1.frozen 0
    have r1 := hp1.cell 1
    have e1 := hp1.frozen 1
    have r2 := hp1.cell 2
    have e2 := hp1.frozen 2
    have lr := Blk.lt hp1
    have hb4 := blk3 (x := .int .i64 0) (y := .int .i64 0) (z := .slice none 0 0) hp1
    have p0 := hb4.cell 0
    have p1 := hb4.cell 1
    have p2 := hb4.cell 2
    have FN : Hid (PktZ w 2 I (dtL 2 1 [] t) 4 (.returned (.tuple #[.agg #[.int .i64 0, .int .i64 0, .slice none 0 0], .int .i64 4])) (((V1.setCell ⟨w.heap.size + 1, 0, none⟩ (.int .i64 0)).setCell ⟨w.heap.size + 1, 1, none⟩ (.int .i64 0)).setCell ⟨w.heap.size + 1, 2, none⟩ (.slice none 0 0))) := pktZ_no (by decide) (below_row (step_to bV bV1) (gset3 _ _ _ _ _) (by omega))
    clear hs hb4 hp1 hm1 o1 bV1 hV1 BN hm0 hp0 m0 hV bV hi hm sV
    go_enter Tryd.func15, Tryd.ntmps15
    go_wp2_with (first
      | (rw [HV.out])
      | (rw [HV1.out])
      | (go_at_call 45; ((with_reducible refine (BI.out _).mono ?_); rintro e w' ⟨rfl, rfl⟩))
      | (go_at_call 45; ((with_reducible refine (B1.out _).mono ?_); rintro e w' ⟨rfl, rfl⟩)))
    exact bodyPost_ret (v := .tuple #[.agg #[.int .i64 0, .int .i64 0, .slice none 0 0], .int .i64 4]) (by simp [results, Tryd.results15, go_sem, p0, p1, p2]) rfl FN.out
  · rw [if_neg hs]
    have hsI : ¬ (16380 : Int) < 1 + (t.size : Int) := by omega
    obtain ⟨v2, w2, R2, o2, g2, -⟩ := append_run o1 0 (A := none) (n := 0) (B := 0) (m := []) Rd.nil (fun _ => rfl) (by simp) bV1.size
    have B2 : Below V.heap.size V w2 := bV1.grown g2 bV1.size (fun q e => (o1.block q e).1)
    have hm2 := past_blk hm0 B2
    have x4 := hm2.cell 4
    obtain ⟨v3, w3, R3, o3, g3⟩ := append_str o2 t (by simp; omega) B2.size
    have B3 : Below V.heap.size V w3 := B2.grown g3 B2.size (fun q e => (o2.block q e).1)
    obtain ⟨D2, q2, d2, rfl⟩ := own_sliced o2
    obtain ⟨D, k, d, rfl⟩ := own_sliced o3
    have hm3 := past_blk hm0 B3
    have hp3 := past_blk hp0 B3
    have y0 := hm3.cell 0
    have y1 := hm3.cell 1
    have gg := gset3 w3 (w.heap.size + 1) (.int .i64 2) (.int .i64 I) (.slice D k d)
    have FN : Hid (PktZ w 2 I (dtL 2 1 [] t) 0 (.returned (.tuple #[.agg #[.int .i64 2, .int .i64 I, .slice D k d], .int .i64 0])) (((w3.setCell ⟨w.heap.size + 1, 0, none⟩ (.int .i64 2)).setCell ⟨w.heap.size + 1, 1, none⟩ (.int .i64 I)).setCell ⟨w.heap.size + 1, 2, none⟩ (.slice D k d))) := by
      refine ⟨below_row (step_to bV B3) gg (by omega), D, k, d, rfl, ?_⟩
      exact eown_wide (o3.grown gg (own_apart o3 hp3 (by decide))) (by omega)
    have r0 := hp3.cell 0
    have e0 := hp3.frozen 0
    have r1 := hp3.cell 1
    have e1 := hp3.frozen 1
    have r2 := hp3.cell 2
    have e2 := hp3.frozen 2
    have lr := Blk.lt hp3
    have hb4 := blk3 (x := .int .i64 2) (y := .int .i64 I) (z := .slice D k d) hp3
    have p0 := hb4.cell 0
    have p1 := hb4.cell 1
    have p2 := hb4.cell 2
    have R2H := Lib.hid R2
    have R3H := Lib.hid R3
    clear hs hb4 hp1 hm1 o1 bV1 hV1 BN hm0 hp0 m0 hV bV hi hm sV R2 R3 o2 o3 g2 g3 B2 B3 hm2 hm3 hp3 gg
    go_enter Tryd.func15, Tryd.ntmps15
    go_wp2_with (first
      | (rw [HV.out])
      | (rw [HV1.out])
      | (go_at_call 45; ((with_reducible refine (BI.out _).mono ?_); rintro e w' ⟨rfl, rfl⟩))
      | (go_at_call 45; ((with_reducible refine (B1.out _).mono ?_); rintro e w' ⟨rfl, rfl⟩))
      | (at_builtin; refine wpList_appT rfl (.tmp 121) (.tmp 123) #[22, 22] rfl _ _ rfl rfl _ _ R2H.out ?_)
      | (at_builtin; refine wpList_appT rfl (.tmp 125) (.tmp 127) #[22, 9] rfl _ _ rfl rfl _ _ R3H.out ?_))
    exact bodyPost_ret (v := .tuple #[.agg #[.int .i64 2, .int .i64 I, .slice D k d], .int .i64 0]) (by simp [results, Tryd.results15, go_sem, p0, p1, p2]) rfl FN.out
theorem rwrite_pf (I : Int) (A : Option Addr) (n c B : Nat) (l : List UInt8) (w : World) (hr : Rd w B A n l) (hB : B ≤ w.heap.size) (hnil : A = none → c = 0) (h1 : 1 ≤ n) (h2 : n ≤ 255) :
    Calls Tryd.prog 15 #[.agg #[.int .i64 2, .int .i64 I, .int .i64 4, .slice A n c, .string ⟨#[]⟩]] w (PktZ w 2 I (dtL 2 4 l ⟨#[]⟩) (if idB I = false then 1 else 0)) := by
  have hl := hr.1
  obtain ⟨V, hV, bV, m0, p0⟩ := alloc_two w #[.int .i64 2, .int .i64 I, .int .i64 4, .slice A n c, .string ⟨#[]⟩] #[.int .i64 0, .int .i64 0, .slice none 0 0] 30 24
  have hm0 : Blk V w.heap.size 30 [.int .i64 2, .int .i64 I, .int .i64 4, .slice A n c, .string ⟨#[]⟩] := m0
  have hp0 : Blk V (w.heap.size + 1) 24 [.int .i64 0, .int .i64 0, .slice none 0 0] := p0
  have i0 := hm0.cell 0
  have i1 := hm0.cell 1
  have i2 := hm0.cell 2
  have i3 := hm0.cell 3
  have i4 := hm0.cell 4
  have lm := Blk.lt hm0
  have HV := Lib.hid hV
  have BN := Lib.hid (fun z W => byteNumber_any z W)
  cases hi : idB I
  · rw [if_pos rfl]
    have BI : Hid (∀ W, Calls Tryd.prog 45 #[.int .i64 I] W fun e w' => e = .returned (.bool false) ∧ W = w') := fun W => by have := byteNumber_any I W; rw [hi] at this; exact this
    have r0 := hp0.cell 0
    have e0 := hp0.frozen 0
    have r1 := hp0.cell 1
    have e1 := hp0.frozen 1
    have r2 := hp0.cell 2
    have e2 := hp0.frozen 2
    have lr := Blk.lt hp0
    have hb4 := blk3 (x := .int .i64 0) (y := .int .i64 0) (z := .slice none 0 0) hp0
    have p0 := hb4.cell 0
    have p1 := hb4.cell 1
    have p2 := hb4.cell 2
    have FN : Hid (PktZ w 2 I (dtL 2 4 l ⟨#[]⟩) 1 (.returned (.tuple #[.agg #[.int .i64 0, .int .i64 0, .slice none 0 0], .int .i64 1])) (((V.setCell ⟨w.heap.size + 1, 0, none⟩ (.int .i64 0)).setCell ⟨w.heap.size + 1, 1, none⟩ (.int .i64 0)).setCell ⟨w.heap.size + 1, 2, none⟩ (.slice none 0 0))) := pktZ_no (by decide) (below_row bV (gset3 _ _ _ _ _) (by omega))
    clear hb4 BN hm0 hp0 m0 hV bV hi hr hB hnil h1 h2 hl
    go_enter Tryd.func15, Tryd.ntmps15
    go_wp2_with (first
      | (rw [HV.out])
      | (go_at_call 45; ((with_reducible refine (BI.out _).mono ?_); rintro e w' ⟨rfl, rfl⟩)))
    exact bodyPost_ret (v := .tuple #[.agg #[.int .i64 0, .int .i64 0, .slice none 0 0], .int .i64 1]) (by simp [results, Tryd.results15, go_sem, p0, p1, p2]) rfl FN.out
  rw [if_neg (by simp)]
  have BI : Hid (∀ W, Calls Tryd.prog 45 #[.int .i64 I] W fun e w' => e = .returned (.bool true) ∧ W = w') := fun W => by have := byteNumber_any I W; rw [hi] at this; exact this
  have B4 : Hid (∀ W, Calls Tryd.prog 45 #[.int .i64 4] W fun e w' => e = .returned (.bool true) ∧ W = w') := fun W => byteNumber_any 4 W
  obtain ⟨V1, hV1⟩ : ∃ V1, V.alloc (.cells #[.int .u8 4] 5) = V1 := ⟨_, rfl⟩
  have bV1 : Below V.heap.size V V1 := by rw [← hV1]; exact (Below.refl _ _).alloc (Nat.le_refl _) _
  have o1 : Own V1 V.heap.size (.slice (some ⟨V.heap.size, 0, none⟩) 1 1) [4] := by rw [← hV1]; exact own_one V V.heap.size 4 4 rfl (Nat.le_refl _)
  have hm1 := past_blk hm0 bV1
  have hp1 := past_blk hp0 bV1
  have k0 := hm1.cell 0
  have k2 := hm1.cell 2
  have k3 := hm1.cell 3
  have k4 := hm1.cell 4
  have lm1 := Blk.lt hm1
  have HV1 := Lib.hid hV1
  have sV := bV.size
  have n8 : IntKind.u8.wrap (n : Int) = n := by rw [IntKind.wrap_u8']; omega
  obtain ⟨V2, hV2⟩ : ∃ V2, V1.alloc (.cells #[.int .u8 (n : Int)] 5) = V2 := ⟨_, rfl⟩
  have bV2 : Below V1.heap.size V1 V2 := by rw [← hV2]; exact (Below.refl _ _).alloc (Nat.le_refl _) _
  have oN : Own V2 V1.heap.size (.slice (some ⟨V1.heap.size, 0, none⟩) 1 1) [UInt8.ofNat n] := by rw [← hV2]; exact own_one V1 V1.heap.size _ (n : Int) (by simp; omega) (Nat.le_refl _)
  have bV12 : Below V.heap.size V V2 := step_to bV1 bV2
  have o1' : Own V2 V.heap.size (.slice (some ⟨V.heap.size, 0, none⟩) 1 1) [4] := o1.later bV2
  obtain ⟨v2, w2, R2, o2, g2, -⟩ := append_run o1' 1 (own_rd oN).1 (fun e => by cases e) (by simp) bV12.size
  have B2 : Below V.heap.size V w2 := bV12.grown g2 bV12.size (fun q e => (o1'.block q e).1)
  have hm2 := past_blk hm0 B2
  have x3 := hm2.cell 3
  have x4 := hm2.cell 4
  obtain ⟨v3, w3, R3, o3, g3, -⟩ := append_run o2 c ((hr.below (bV.mono hB)).below (B2.mono (Nat.le_trans hB sV))) hnil (by simp; omega) B2.size
  have B3 : Below V.heap.size V w3 := B2.grown g3 B2.size (fun q e => (o2.block q e).1)
  have hm3 := past_blk hm0 B3
  have y4 := hm3.cell 4
  obtain ⟨v4, w4, R4, o4, g4⟩ := append_str o3 ⟨#[]⟩ (by simp [hl]; have : (⟨#[]⟩ : ByteArray).size = 0 := rfl; omega) B3.size
  have B4' : Below V.heap.size V w4 := B3.grown g4 B3.size (fun q e => (o3.block q e).1)
  obtain ⟨E2, d2, hv2⟩ : ∃ E d, v2 = .slice E 2 d := by
    rcases o2.form with ⟨e, h⟩ | ⟨g', cap, e, _⟩
    · simp at h
    · exact ⟨_, _, e⟩
  subst hv2
  obtain ⟨D3, q3, d3, rfl⟩ := own_sliced o3
  obtain ⟨D, k, d, rfl⟩ := own_sliced o4
  have hm4 := past_blk hm0 B4'
  have hp4 := past_blk hp0 B4'
  have z0 := hm4.cell 0
  have z1 := hm4.cell 1
  have gg := gset3 w4 (w.heap.size + 1) (.int .i64 2) (.int .i64 I) (.slice D k d)
  have FN : Hid (PktZ w 2 I (dtL 2 4 l ⟨#[]⟩) 0 (.returned (.tuple #[.agg #[.int .i64 2, .int .i64 I, .slice D k d], .int .i64 0])) (((w4.setCell ⟨w.heap.size + 1, 0, none⟩ (.int .i64 2)).setCell ⟨w.heap.size + 1, 1, none⟩ (.int .i64 I)).setCell ⟨w.heap.size + 1, 2, none⟩ (.slice D k d))) := by
    refine ⟨below_row (step_to bV B4') gg (by omega), D, k, d, rfl, ?_⟩
    have h := eown_wide (o4.grown gg (own_apart o4 hp4 (by decide))) (show w.heap.size ≤ V.heap.size by omega)
    rw [if_pos rfl, pf_list 2 (by decide), hl]
    exact h
  have r0 := hp4.cell 0
  have e0 := hp4.frozen 0
  have r1 := hp4.cell 1
  have e1 := hp4.frozen 1
  have r2 := hp4.cell 2
  have e2 := hp4.frozen 2
  have lr := Blk.lt hp4
  have hb4 := blk3 (x := .int .i64 2) (y := .int .i64 I) (z := .slice D k d) hp4
  have p0 := hb4.cell 0
  have p1 := hb4.cell 1
  have p2 := hb4.cell 2
  have HV2 := Lib.hid hV2
  have R2H := Lib.hid R2
  have R3H := Lib.hid R3
  have R4H := Lib.hid R4
  have n1 : ¬ (n : Int) < 1 := by omega
  have n2 : ¬ (255 : Int) < (n : Int) := by omega
  have n3 : (n : Int) ≤ 255 := by omega
  have lm2 := Blk.lt hm2
  clear hb4 hp1 hm1 o1 bV1 hV1 BN hm0 hp0 m0 hV bV hi sV R2 R3 R4 o2 o3 o4 g2 g3 g4 B2 B3 B4' hm2 hm3 hm4 hp4 gg hr hB hnil h1 h2 hl bV2 hV2 oN bV12 o1'
  go_enter Tryd.func15, Tryd.ntmps15
  go_wp2_with (first
    | (rw [HV.out])
    | (rw [HV1.out])
    | (rw [HV2.out])
    | (go_at_call 45; ((with_reducible refine (BI.out _).mono ?_); rintro e w' ⟨rfl, rfl⟩))
    | (go_at_call 45; ((with_reducible refine (B4.out _).mono ?_); rintro e w' ⟨rfl, rfl⟩))
    | (at_builtin; refine wpList_appT rfl (.tmp 102) (.tmp 107) #[22, 22] rfl _ _ rfl rfl _ _ R2H.out ?_)
    | (at_builtin; refine wpList_appT rfl (.tmp 121) (.tmp 123) #[22, 22] rfl _ _ rfl rfl _ _ R3H.out ?_)
    | (at_builtin; refine wpList_appT rfl (.tmp 125) (.tmp 127) #[22, 9] rfl _ _ rfl rfl _ _ R4H.out ?_))
  exact bodyPost_ret (v := .tuple #[.agg #[.int .i64 2, .int .i64 I, .slice D k d], .int .i64 0]) (by simp [results, Tryd.results15, go_sem, p0, p1, p2]) rfl FN.out
end Go.Proofs.YtjimoegegigoiaaDoor
namespace Go.Proofs.YtjimoegegigoiaaDoor
open Go.RowKit Go.Shelf
set_option maxRecDepth 100000
set_option maxHeartbeats 2000000
set_option linter.unusedSimpArgs false
set_option linter.unusedVariables false

theorem rfindR_box {w w1 : World} {B : Nat} {ss : List Sec} {o : Option Nat} {e : Ending} (h : RFindR w B ss o e w1) : ∃ s1 s2 E m k b, e = .returned (.tuple #[.agg #[.string s1, .string s2, .string (wdS ss o), .slice E m k], .bool b]) ∧ Below w.heap.size w w1 := by
  obtain ⟨h1, h2⟩ := h
  cases o with
  | none => exact ⟨_, _, _, _, _, _, h2, h1⟩
  | some i =>
    obtain ⟨x, E, m, k, hx, rfl, _⟩ := h2
    have e : wdS ss (some i) = x.wd := by unfold wdS; simp [hx]
    exact ⟨x.cl, x.sv, E, m, k, true, by rw [e], h1⟩
theorem name_le {s : ByteArray} (h : nameB s = true) : s.size ≤ 64 := by
  simp [nameB] at h
  exact h.2.1
def s2g (name server : ByteArray) (chal : List UInt8) : SvS := ⟨2, 1, 2, dtL 1 4 chal server, 1, name, ⟨#[]⟩⟩
theorem pr_one (name : ByteArray) : tkE s1 2 1 (dtL 2 1 [] name) = 0 ∧ tkT (dtL 2 1 [] name) = name ∧ rdT 2 (dtL 2 1 [] name) = 1 := by
  obtain ⟨h1, h2, h3⟩ := id_read 2 1 (by decide) (by decide) (by decide) name
  refine ⟨?_, ?_, h1⟩
  · unfold tkE
    rw [h2, if_neg (by decide), if_neg (by decide), if_neg (by decide), if_neg (by decide)]
  · unfold tkT
    rw [h1, h3]
theorem pr_no (ss : List Sec) (name server : ByteArray) (n : Nat) (chal : List UInt8) (h : ¬ (knB ss server name = true ∧ chB n = true)) : tkS ss server s1 (dtL 2 1 [] name) n chal = fnS s1 4 ⟨#[]⟩ ∧ tkC ss server s1 (dtL 2 1 [] name) n = 4 := by
  obtain ⟨_, h2, h3⟩ := pr_one name
  have hA : tkA ss server s1 (dtL 2 1 [] name) n = false := by
    unfold tkA
    rw [h2]
    exact decide_eq_false fun hc => h ⟨hc.2.2.1, hc.2.2.2⟩
  have hP : tkP ss server s1 (dtL 2 1 [] name) = false := by
    unfold tkP
    rw [h3]
    exact decide_eq_false fun hc => absurd hc.1 (by decide)
  unfold tkS tkC
  rw [hA, hP]
  exact ⟨rfl, rfl⟩
theorem pr_yes (ss : List Sec) (name server : ByteArray) (n : Nat) (chal : List UInt8) (hk : knB ss server name = true) (hc : chB n = true) : tkS ss server s1 (dtL 2 1 [] name) n chal = s2g name server chal ∧ tkC ss server s1 (dtL 2 1 [] name) n = 1 ∧ tkI ss server s1 (dtL 2 1 [] name) n = 2 := by
  obtain ⟨_, h2, h3⟩ := pr_one name
  have hA : tkA ss server s1 (dtL 2 1 [] name) n = true := by
    unfold tkA
    rw [h2]
    exact decide_eq_true ⟨h3, rfl, hk, hc⟩
  unfold tkS tkC tkI
  rw [hA, if_pos rfl, if_pos rfl, if_pos rfl, h2]
  exact ⟨rfl, rfl, rfl⟩
theorem pq_ch (name server : ByteArray) (chal : List UInt8) (h1 : 1 ≤ chal.length) (h2 : chal.length ≤ 255) : rdE (s2g name server chal).lc (s2g name server chal).li (s2g name server chal).L = 0 ∧ chOf (s2g name server chal) = chal := by
  obtain ⟨a1, a2, a3, a4⟩ := pf_read 1 2 (by decide) (by decide) (by decide) chal server h1 h2
  refine ⟨a2, ?_⟩
  unfold chOf
  show krV 1 (rdT 1 (dtL 1 4 chal server)) (rdR 1 (dtL 1 4 chal server)) = chal
  rw [a1, a3]
theorem pq_bad (name server : ByteArray) (chal : List UInt8) : tkE (s2g name server chal) 0 0 [] = 90 := by
  unfold tkE
  rw [if_pos (by decide)]
  decide
theorem pq_far (name server : ByteArray) (chal P : List UInt8) (id : Int) (hi : idB id = true) (h1 : 1 ≤ P.length) (h2 : P.length ≤ 255) (hn : id ≠ 2) : tkE (s2g name server chal) 2 id (dtL 2 4 P ⟨#[]⟩) = 1 := by
  obtain ⟨a1, a2, a3, a4⟩ := pf_read 2 id (by decide) (by decide) hi P ⟨#[]⟩ h1 h2
  unfold tkE
  have hw2 : wtB (s2g name server chal) = true := rfl
  have hli : (s2g name server chal).li = 2 := rfl
  rw [a2, hw2, hli, if_neg (by decide), if_neg (by decide), if_neg (by decide), if_pos hn]
theorem pq_near (ss : List Sec) (name server : ByteArray) (chal P : List UInt8) (c1 : 1 ≤ chal.length) (c2 : chal.length ≤ 255) (h1 : 1 ≤ P.length) (h2 : P.length ≤ 255) (hw : wdB ss (bst ss name server) = true) : tkE (s2g name server chal) 2 2 (dtL 2 4 P ⟨#[]⟩) = 0 ∧
    (P = digL 2 (wdS ss (bst ss name server)) chal → tkS ss server (s2g name server chal) (dtL 2 4 P ⟨#[]⟩) 0 [] = fnS (s2g name server chal) 3 name ∧ tkC ss server (s2g name server chal) (dtL 2 4 P ⟨#[]⟩) 0 = 3) ∧
    (P ≠ digL 2 (wdS ss (bst ss name server)) chal → tkS ss server (s2g name server chal) (dtL 2 4 P ⟨#[]⟩) 0 [] = fnS (s2g name server chal) 4 ⟨#[]⟩ ∧ tkC ss server (s2g name server chal) (dtL 2 4 P ⟨#[]⟩) 0 = 4) := by
  obtain ⟨a1, a2, a3, a4⟩ := pf_read 2 2 (by decide) (by decide) (by decide) P ⟨#[]⟩ h1 h2
  have hA : tkA ss server (s2g name server chal) (dtL 2 4 P ⟨#[]⟩) 0 = false := by
    unfold tkA
    rw [a1]
    exact decide_eq_false fun hc => absurd hc.1 (by decide)
  have hV : tkV (dtL 2 4 P ⟨#[]⟩) = P := by unfold tkV; rw [a1, a3]
  have hB : pvB ss server (s2g name server chal) (chOf (s2g name server chal)) (tkV (dtL 2 4 P ⟨#[]⟩)) = decide (P = digL 2 (wdS ss (bst ss name server)) chal) := by
    rw [hV, (pq_ch name server chal c1 c2).2]
    unfold pvB
    show (wdB ss (bst ss name server) && decide (P = digL 2 (wdS ss (bst ss name server)) chal)) = _
    rw [hw]
    rfl
  refine ⟨?_, fun h => ?_, fun h => ?_⟩
  · unfold tkE
    have hw2 : wtB (s2g name server chal) = true := rfl
    have hli : (s2g name server chal).li = 2 := rfl
    rw [a2, hw2, hli, if_neg (by decide), if_neg (by decide), if_neg (by decide), if_neg (by decide)]
  · have hP : tkP ss server (s2g name server chal) (dtL 2 4 P ⟨#[]⟩) = true := by
      unfold tkP
      rw [hB]
      exact decide_eq_true ⟨a1, rfl, decide_eq_true h⟩
    unfold tkS tkC
    rw [hA, hP]
    exact ⟨rfl, rfl⟩
  · have hP : tkP ss server (s2g name server chal) (dtL 2 4 P ⟨#[]⟩) = false := by
      unfold tkP
      rw [hB]
      exact decide_eq_false fun hc => h (of_decide_eq_true hc.2.2)
    unfold tkS tkC
    rw [hA, hP]
    exact ⟨rfl, rfl⟩
theorem eapproves_none (name server : ByteArray) (A2 : Option Addr) (n2 c2 : Nat) (A3 : Option Addr) (n3 c3 : Nat) (A4 : Option Addr) (n4 c4 : Nat) (id : Int) (ss : List Sec) (chal prf : List UInt8) (w : World) (hn0 : name.size ≤ 140737488351232) (hn1 : server.size ≤ 140737488351232) (hs : SecRd w w.heap.size A2 n2 ss) (hr3 : Rd w w.heap.size A3 n3 chal) (z3 : A3 = none → c3 = 0) (q3 : n3 ≤ 140737488351232) (hr4 : Rd w w.heap.size A4 n4 prf) (z4 : A4 = none → c4 = 0) (q4 : n4 ≤ 140737488351232) (hK : TabK w) (hS : TabS w) (hno : ¬ (nameB server = true ∧ (chk ss).1 = 0)) : Calls Tryd.prog 4 #[.string name, .string server, .slice A2 n2 c2, .slice A3 n3 c3, .slice A4 n4 c4, .int .i64 id] w fun e w' => e = .returned (.bool true) ∧ Below w.heap.size w w' := by
  have C0 : Hid (Calls Tryd.prog 19 #[.string server, .slice A2 n2 c2, .int .i64 5] w fun e w1 => ∃ er z, er ≠ 0 ∧ e = .returned (.tuple #[.pointer none, .int .i64 er, .int .i64 z]) ∧ Calls Tryd.prog 18 #[] w1 fun e w' => e = .returned (.bool true) ∧ Below w.heap.size w w') := by
    refine (newServer_any server 5 A2 n2 c2 w.heap.size ss w (by unfold maxLen; omega) hs (Nat.le_refl _) hK hS).mono ?_
    rintro e w1 ⟨b1, h⟩
    have AW : Calls Tryd.prog 18 #[] w1 fun e w' => e = .returned (.bool true) ∧ Below w.heap.size w w' := (awake_any w1 (hK.kept b1) (hS.kept b1)).mono fun e w' hh => ⟨hh.1, step_to b1 hh.2⟩
    rcases h with ⟨h, rfl⟩ | ⟨-, h, rfl⟩ | ⟨-, -, h, rfl⟩ | ⟨h1, -, h2, -⟩
    · exact ⟨_, _, by decide, rfl, AW⟩
    · exact ⟨_, _, by decide, rfl, AW⟩
    · exact ⟨_, _, h, rfl, AW⟩
    · exact absurd ⟨h1, h2⟩ hno
  clear hs hr3 z3 q3 hr4 z4 q4 hK hS hno hn0 hn1
  go_enter Tryd.func4, Tryd.ntmps4
  go_wp2_with (first
    | (go_at_call 19; ((with_reducible refine C0.out.mono ?_); rintro e w1 ⟨er, z, hz, rfl, n1⟩; have C1 := Lib.hid n1; have hz1 : (er != 0) = true := (by simpa using hz); clear n1 hz))
    | (go_at_call 18; ((with_reducible refine C1.out.mono ?_); rintro e w9 ⟨rfl, b4⟩; have F := Lib.hid b4; clear b4)))
  go_ret
  exact ⟨rfl, F.out⟩
theorem eapproves_big (name server : ByteArray) (A2 : Option Addr) (n2 c2 : Nat) (A3 : Option Addr) (n3 c3 : Nat) (A4 : Option Addr) (n4 c4 : Nat) (id : Int) (ss : List Sec) (chal prf : List UInt8) (w : World) (hn0 : name.size ≤ 140737488351232) (hn1 : server.size ≤ 140737488351232) (hs : SecRd w w.heap.size A2 n2 ss) (hr3 : Rd w w.heap.size A3 n3 chal) (z3 : A3 = none → c3 = 0) (q3 : n3 ≤ 140737488351232) (hr4 : Rd w w.heap.size A4 n4 prf) (z4 : A4 = none → c4 = 0) (q4 : n4 ≤ 140737488351232) (hK : TabK w) (hS : TabS w) (hsv : nameB server = true) (hck : (chk ss).1 = 0) (hbig : 16380 < 1 + name.size) : Calls Tryd.prog 4 #[.string name, .string server, .slice A2 n2 c2, .slice A3 n3 c3, .slice A4 n4 c4, .int .i64 id] w fun e w' => e = .returned (.bool true) ∧ Below w.heap.size w w' := by
  have C0 : Hid (Calls Tryd.prog 19 #[.string server, .slice A2 n2 c2, .int .i64 5] w fun e w1 => ∃ g, e = .returned (.tuple #[.pointer (some ⟨g, 0, none⟩), .int .i64 0, .int .i64 0]) ∧
      Calls Tryd.prog 20 #[.pointer (some ⟨g, 0, none⟩)] w1 fun e w2 => ∃ D1 k1 d1, e = .returned (.tuple #[.agg #[.int .i64 1, .int .i64 1, .slice D1 k1 d1], .int .i64 0]) ∧ ∃ V2, w2.alloc (.cells #[.int .i64 1, .int .i64 1, .slice D1 k1 d1] 24) = V2 ∧ Blk V2 w2.heap.size 24 [.int .i64 1, .int .i64 1, .slice D1 k1 d1] ∧
      Calls Tryd.prog 15 #[.agg #[.int .i64 2, .int .i64 1, .int .i64 1, .slice none 0 0, .string name]] V2 fun e w3 => ∃ D k d, e = .returned (.tuple #[.agg #[.int .i64 0, .int .i64 0, .slice D k d], .int .i64 4]) ∧ ∃ V3, w3.alloc (.cells #[.int .i64 0, .int .i64 0, .slice D k d] 24) = V3 ∧
      Calls Tryd.prog 18 #[] V3 fun e w' => e = .returned (.bool true) ∧ Below w.heap.size w w') := by
    refine (newServer_any server 5 A2 n2 c2 w.heap.size ss w (by unfold maxLen; omega) hs (Nat.le_refl _) hK hS).mono ?_
    rintro e w1 ⟨b1, ⟨h, -⟩ | ⟨-, h, -⟩ | ⟨-, -, h, -⟩ | ⟨-, -, -, g, tb, l1, l1', rfl, hs1⟩⟩
    · rw [hsv] at h; cases h
    · cases h
    · exact absurd hck h
    refine ⟨g, rfl, ?_⟩
    have z1 := b1.size
    have lg1 := hs1.lt
    refine (start_any w.heap.size g tb server 5 ss sv0 w1 hs1 (by decide) (by decide)).mono ?_
    rintro e w2 ⟨v, rfl, D1, k1, d1, hv, o1, G2, hs2, _⟩
    rw [ex_s1] at hs2 hv
    injection hv with hv
    subst hv
    have B2 := below_row b1 G2 (by omega)
    obtain ⟨V2, hV2⟩ : ∃ V2, w2.alloc (.cells #[.int .i64 1, .int .i64 1, .slice D1 k1 d1] 24) = V2 := ⟨_, rfl⟩
    have bV2 : Below w2.heap.size w2 V2 := by rw [← hV2]; exact (Below.refl _ _).alloc (Nat.le_refl _) _
    have nV2 : Blk V2 w2.heap.size 24 [.int .i64 1, .int .i64 1, .slice D1 k1 d1] := by rw [← hV2]; exact heap_alloc_new w2 _
    have BV2 := step_to B2 bV2
    have hsV2 := hs2.later bV2
    have z2 := G2.size
    have z2' := bV2.size
    refine ⟨D1, k1, d1, rfl, V2, hV2, nV2, ?_⟩
    have RW := rwrite_id 1 name V2 (by decide) (by omega)
    rw [if_pos hbig] at RW
    refine RW.mono ?_
    rintro e w3 ⟨b3, D, k, d, he, o3⟩
    rw [if_neg (by decide), if_neg (by decide)] at he
    have bA : Below w3.heap.size w3 (w3.alloc (.cells #[.int .i64 0, .int .i64 0, .slice D k d] 24)) := (Below.refl _ _).alloc (Nat.le_refl _) _
    have BA := step_to (step_to BV2 b3) bA
    exact ⟨D, k, d, he, _, rfl, (awake_any _ (hK.kept BA) (hS.kept BA)).mono fun e w' hh => ⟨hh.1, step_to BA hh.2⟩⟩
  clear hs hr3 z3 q3 hr4 z4 q4 hK hS hn0 hn1 hsv hck hbig
  go_enter Tryd.func4, Tryd.ntmps4
  go_upto_region 8 with (first
    | (go_at_call 19; ((with_reducible refine C0.out.mono ?_); rintro e w1 ⟨g, rfl, n1⟩; have C1 := Lib.hid n1; clear n1))
    | (go_at_call 20; ((with_reducible refine C1.out.mono ?_); rintro e w2 ⟨D1, k1, d1, rfl, V2, hV2, p2, n1⟩; have HV2 := Lib.hid hV2; have x0 := p2.cell 0; have x1 := p2.cell 1; have x2 := p2.cell 2; have C2 := Lib.hid n1; clear hV2 p2 n1))
    | (rw [HV2.out])
    | (go_at_call 15; ((with_reducible refine C2.out.mono ?_); rintro e w3 ⟨D, k, d, rfl, V3, hV3, n1⟩; have HV3 := Lib.hid hV3; have C3 := Lib.hid n1; clear hV3 n1)))
  rw [HV3.out]
  go_wp2_with (go_at_call 18; ((with_reducible refine C3.out.mono ?_); rintro e w9 ⟨rfl, b4⟩; have F := Lib.hid b4; clear b4))
  go_ret
  exact ⟨rfl, F.out⟩
end Go.Proofs.YtjimoegegigoiaaDoor
namespace Go.Proofs.YtjimoegegigoiaaDoor
open Go.RowKit Go.Shelf
set_option maxRecDepth 100000
set_option maxHeartbeats 2000000
set_option linter.unusedSimpArgs false
set_option linter.unusedVariables false

theorem eapproves_who (name server : ByteArray) (A2 : Option Addr) (n2 c2 : Nat) (A3 : Option Addr) (n3 c3 : Nat) (A4 : Option Addr) (n4 c4 : Nat) (id : Int) (ss : List Sec) (chal prf : List UInt8) (w : World) (hn0 : name.size ≤ 140737488351232) (hn1 : server.size ≤ 140737488351232) (hs : SecRd w w.heap.size A2 n2 ss) (hr3 : Rd w w.heap.size A3 n3 chal) (z3 : A3 = none → c3 = 0) (q3 : n3 ≤ 140737488351232) (hr4 : Rd w w.heap.size A4 n4 prf) (z4 : A4 = none → c4 = 0) (q4 : n4 ≤ 140737488351232) (hK : TabK w) (hS : TabS w) (hsv : nameB server = true) (hck : (chk ss).1 = 0) (hbig : ¬ 16380 < 1 + name.size) (hno : ¬ (knB ss server name = true ∧ chB n3 = true)) : Calls Tryd.prog 4 #[.string name, .string server, .slice A2 n2 c2, .slice A3 n3 c3, .slice A4 n4 c4, .int .i64 id] w fun e w' => e = .returned (.bool true) ∧ Below w.heap.size w w' := by
  have RN := Lib.hid (fun W => rname_any name W (by unfold maxLen; omega))
  obtain ⟨wd, hwd⟩ : ∃ wd, wdS ss (bst ss name server) = wd := ⟨_, rfl⟩
  obtain ⟨y, hy⟩ : ∃ y, tkI ss server s1 (dtL 2 1 [] name) n3 = y := ⟨_, rfl⟩
  have C0 : Hid (Calls Tryd.prog 19 #[.string server, .slice A2 n2 c2, .int .i64 5] w fun e w1 => ∃ g, e = .returned (.tuple #[.pointer (some ⟨g, 0, none⟩), .int .i64 0, .int .i64 0]) ∧
      Calls Tryd.prog 20 #[.pointer (some ⟨g, 0, none⟩)] w1 fun e w2 => ∃ D1 k1 d1, e = .returned (.tuple #[.agg #[.int .i64 1, .int .i64 1, .slice D1 k1 d1], .int .i64 0]) ∧ ∃ V2, w2.alloc (.cells #[.int .i64 1, .int .i64 1, .slice D1 k1 d1] 24) = V2 ∧ Blk V2 w2.heap.size 24 [.int .i64 1, .int .i64 1, .slice D1 k1 d1] ∧
      Calls Tryd.prog 15 #[.agg #[.int .i64 2, .int .i64 1, .int .i64 1, .slice none 0 0, .string name]] V2 fun e w3 => ∃ Dp kp dp, e = .returned (.tuple #[.agg #[.int .i64 2, .int .i64 1, .slice Dp kp dp], .int .i64 0]) ∧ ∃ V3, w3.alloc (.cells #[.int .i64 2, .int .i64 1, .slice Dp kp dp] 24) = V3 ∧ Blk V3 w3.heap.size 24 [.int .i64 2, .int .i64 1, .slice Dp kp dp] ∧
      Calls Tryd.prog 21 #[.pointer (some ⟨g, 0, none⟩), .agg #[.int .i64 2, .int .i64 1, .slice Dp kp dp], .slice A3 n3 c3] V3 fun e w4 => ∃ D4 k4 d4, e = .returned (.tuple #[.agg #[.int .i64 4, .int .i64 y, .slice D4 k4 d4], .bool true, .int .i64 0]) ∧ ∃ V4, w4.alloc (.cells #[.int .i64 4, .int .i64 y, .slice D4 k4 d4] 24) = V4 ∧ Blk V4 w4.heap.size 24 [.int .i64 4, .int .i64 y, .slice D4 k4 d4] ∧
      Calls Tryd.prog 22 #[.slice A2 n2 c2, .string name, .string server] V4 fun e w5 => ∃ a1 a2 E m k b, e = .returned (.tuple #[.agg #[.string a1, .string a2, .string wd, .slice E m k], .bool b]) ∧ ∃ V5, w5.alloc (.cells #[.string a1, .string a2, .string wd, .slice E m k] 50) = V5 ∧ Blk V5 w5.heap.size 50 [.string a1, .string a2, .string wd, .slice E m k] ∧ Blk V5 w4.heap.size 24 [.int .i64 4, .int .i64 y, .slice D4 k4 d4] ∧ (Calls Tryd.prog 24 #[.pointer (some ⟨g, 0, none⟩)] V5 fun e w' => e = .returned (.int .i64 4) ∧ V5 = w') ∧ Calls Tryd.prog 18 #[] V5 fun e w' => e = .returned (.bool true) ∧ Below w.heap.size w w') := by
    refine (newServer_any server 5 A2 n2 c2 w.heap.size ss w (by unfold maxLen; omega) hs (Nat.le_refl _) hK hS).mono ?_
    rintro e w1 ⟨b1, ⟨h, -⟩ | ⟨-, h, -⟩ | ⟨-, -, h, -⟩ | ⟨-, -, -, g, tb, l1, l1', rfl, hs1⟩⟩
    · rw [hsv] at h; cases h
    · cases h
    · exact absurd hck h
    refine ⟨g, rfl, ?_⟩
    have z1 := b1.size
    have lg1 := hs1.lt
    refine (start_any w.heap.size g tb server 5 ss sv0 w1 hs1 (by decide) (by decide)).mono ?_
    rintro e w2 ⟨v, rfl, D1, k1, d1, hv, o1, G2, hs2, _⟩
    rw [ex_s1] at hs2 hv
    injection hv with hv
    subst hv
    have B2 := below_row b1 G2 (by omega)
    obtain ⟨V2, hV2⟩ : ∃ V2, w2.alloc (.cells #[.int .i64 1, .int .i64 1, .slice D1 k1 d1] 24) = V2 := ⟨_, rfl⟩
    have bV2 : Below w2.heap.size w2 V2 := by rw [← hV2]; exact (Below.refl _ _).alloc (Nat.le_refl _) _
    have nV2 : Blk V2 w2.heap.size 24 [.int .i64 1, .int .i64 1, .slice D1 k1 d1] := by rw [← hV2]; exact heap_alloc_new w2 _
    have BV2 := step_to B2 bV2
    have hsV2 := hs2.later bV2
    have z2 := G2.size
    have z2' := bV2.size
    refine ⟨D1, k1, d1, rfl, V2, hV2, nV2, ?_⟩
    have RW := rwrite_id 1 name V2 (by decide) (by omega)
    rw [if_neg hbig] at RW
    refine RW.mono ?_
    rintro e w3 ⟨b3, Dp, kp, dp, he, op⟩
    simp only [if_true] at he op
    obtain ⟨V3, hV3⟩ : ∃ V3, w3.alloc (.cells #[.int .i64 2, .int .i64 1, .slice Dp kp dp] 24) = V3 := ⟨_, rfl⟩
    have bV3 : Below w3.heap.size w3 V3 := by rw [← hV3]; exact (Below.refl _ _).alloc (Nat.le_refl _) _
    have nV3 : Blk V3 w3.heap.size 24 [.int .i64 2, .int .i64 1, .slice Dp kp dp] := by rw [← hV3]; exact heap_alloc_new w3 _
    have BV3 := step_to (step_to BV2 b3) bV3
    have hsV3 := (hsV2.later b3).later bV3
    have rp := own_rd (op.later bV3)
    have hlp : (dtL 2 1 [] name).length = 1 + name.size := by
      unfold dtL
      rw [if_neg (by decide), if_pos rfl, List.length_append]
      have : name.data.toList.length = name.size := Array.length_toList
      rw [this]
      rfl
    have hkp : kp ≤ 16380 := by rw [← rp.1.1, hlp]; omega
    have z3' := b3.size
    have z3'' := bV3.size
    refine ⟨Dp, kp, dp, he, V3, hV3, nV3, ?_⟩
    have ST := stake_any w.heap.size g tb server 5 ss s1 1 Dp kp dp V3.heap.size (dtL 2 1 [] name) A3 n3 c3 w.heap.size chal V3 hsV3 ⟨by decide, by decide, by decide⟩ (name_le hsv) rp.1 (Nat.le_refl _) (by omega) (hr3.below BV3) BV3.size z3 (fun e => absurd e (by decide)) (pr_one name).1
    obtain ⟨t1, t2⟩ := pr_no ss name server n3 chal hno
    rw [t1, t2, hy] at ST
    refine ST.mono ?_
    rintro e w4 ⟨D4, k4, d4, rfl, o4, G4, hs4⟩
    have B4 := below_row BV3 G4 (by omega)
    obtain ⟨V4, hV4⟩ : ∃ V4, w4.alloc (.cells #[.int .i64 4, .int .i64 y, .slice D4 k4 d4] 24) = V4 := ⟨_, rfl⟩
    have bV4 : Below w4.heap.size w4 V4 := by rw [← hV4]; exact (Below.refl _ _).alloc (Nat.le_refl _) _
    have nV4 : Blk V4 w4.heap.size 24 [.int .i64 4, .int .i64 y, .slice D4 k4 d4] := by rw [← hV4]; exact heap_alloc_new w4 _
    have BV4 := step_to B4 bV4
    have hsV4 := hs4.later bV4
    have z4' := G4.size
    have z4'' := bV4.size
    refine ⟨D4, k4, d4, rfl, V4, hV4, nV4, ?_⟩
    refine (rfind_any A2 n2 c2 w.heap.size ss name server V4 (hs.below BV4 (Nat.le_refl _)) BV4.size).mono ?_
    intro e w5 hf
    obtain ⟨a1, a2, E, m, k, b, rfl, b5⟩ := rfindR_box hf
    rw [hwd]
    obtain ⟨V5, hV5⟩ : ∃ V5, w5.alloc (.cells #[.string a1, .string a2, .string wd, .slice E m k] 50) = V5 := ⟨_, rfl⟩
    have bV5 : Below w5.heap.size w5 V5 := by rw [← hV5]; exact (Below.refl _ _).alloc (Nat.le_refl _) _
    have nV5 : Blk V5 w5.heap.size 50 [.string a1, .string a2, .string wd, .slice E m k] := by rw [← hV5]; exact heap_alloc_new w5 _
    have b45 := step_to b5 bV5
    have BV5 := step_to BV4 b45
    have hsV5 := hsV4.later b45
    have z5 := b45.size
    refine ⟨a1, a2, E, m, k, b, rfl, V5, hV5, nV5, past_same nV4 b45, ?_⟩
    exact ⟨sstate_any _ _ _ _ _ _ _ V5 hsV5, (awake_any _ (hK.kept BV5) (hS.kept BV5)).mono fun e w' hh => ⟨hh.1, step_to BV5 hh.2⟩⟩
  have way : nameB name = false ∨ (nameB name = true ∧ wd = ⟨#[]⟩) ∨ (nameB name = true ∧ wd.toList.isEmpty = false ∧ (n3 : Int) < 1) ∨ (nameB name = true ∧ wd.toList.isEmpty = false ∧ ¬ (n3 : Int) < 1 ∧ 255 < (n3 : Int)) := by
    cases hn : nameB name
    · exact .inl rfl
    · refine .inr ?_
      rcases Nat.eq_zero_or_pos wd.size with h0 | h0
      · refine .inl ⟨rfl, ?_⟩
        have : wd.data.size = 0 := h0
        cases wd with
        | mk d =>
          have : d = #[] := by simpa using this
          rw [this]
      · refine .inr ?_
        have he := str_ne h0
        have hwb : wdB ss (bst ss name server) = true := by unfold wdB; rw [hwd]; simpa using h0
        by_cases h1 : (n3 : Int) < 1
        · exact .inl ⟨rfl, he, h1⟩
        · refine .inr ⟨rfl, he, h1, ?_⟩
          by_cases h2 : (255 : Int) < (n3 : Int)
          · exact h2
          · exfalso
            apply hno
            unfold knB chB
            rw [hwb, hn, decide_eq_true (by omega), decide_eq_true (by omega)]
            exact ⟨rfl, rfl⟩
  clear hs hr3 z3 q3 hr4 z4 q4 hK hS hn0 hn1 hsv hck hbig hno hwd hy
  rcases way with hw | ⟨hw, rfl⟩ | ⟨hw, h1, h2⟩ | ⟨hw, h1, h2, h3⟩
  all_goals
    rw [hw] at RN
    clear hw
    go_enter Tryd.func4, Tryd.ntmps4
    go_wp2_with (first
      | (go_at_call 19; ((with_reducible refine C0.out.mono ?_); rintro e w1 ⟨g, rfl, n1⟩; have C1 := Lib.hid n1; clear n1))
      | (go_at_call 20; ((with_reducible refine C1.out.mono ?_); rintro e w2 ⟨D1, k1, d1, rfl, V2, hV2, p2, n1⟩; have HV2 := Lib.hid hV2; have x0 := p2.cell 0; have x1 := p2.cell 1; have x2 := p2.cell 2; have C2 := Lib.hid n1; clear hV2 p2 n1))
      | (rw [HV2.out])
      | (go_at_call 15; ((with_reducible refine C2.out.mono ?_); rintro e w3 ⟨Dp, kp, dp, rfl, V3, hV3, p3, n1⟩; have HV3 := Lib.hid hV3; have y0 := p3.cell 0; have y1 := p3.cell 1; have y2 := p3.cell 2; have C3 := Lib.hid n1; clear hV3 p3 n1))
      | (rw [HV3.out])
      | (go_at_call 21; ((with_reducible refine C3.out.mono ?_); rintro e w4 ⟨D4, k4, d4, rfl, V4, hV4, p4, n1⟩; have HV4 := Lib.hid hV4; have C4 := Lib.hid n1; clear hV4 p4 n1))
      | (rw [HV4.out])
      | (go_at_call 22; ((with_reducible refine C4.out.mono ?_); rintro e w5 ⟨a1, a2, E, m, k, b, rfl, V5, hV5, ps, pb, n1⟩; have HV5 := Lib.hid hV5; have s2 := ps.cell 2; have b0 := pb.cell 0; have b1 := pb.cell 1; have C5 := Lib.hid n1; clear hV5 ps pb n1))
      | (rw [HV5.out])
      | (go_at_call 23; ((with_reducible refine (RN.out _).mono ?_); rintro e w' ⟨rfl, rfl⟩))
      | (go_at_call 24; ((with_reducible refine C5.out.1.mono ?_); rintro e w' ⟨rfl, rfl⟩))
      | (go_at_call 18; ((with_reducible refine C5.out.2.mono ?_); rintro e w9 ⟨rfl, b4⟩; have F := Lib.hid b4; clear b4)))
    go_ret
    exact ⟨rfl, F.out⟩
end Go.Proofs.YtjimoegegigoiaaDoor
