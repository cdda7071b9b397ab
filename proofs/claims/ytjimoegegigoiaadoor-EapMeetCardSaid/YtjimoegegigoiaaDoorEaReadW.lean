/-
  eap: a message's kinds read what stands behind the type (written by gen_earead.py).
  eap: wishes and proofs are read (written by gen_earead.py).
  eap: the read of a message's kind (written by gen_eareadw.py).
  eap.Read of any packet (written by gen_eareadw.py).
-/
import Derived.Test.YtjimoegegigoiaaDoorEaWriteW
namespace Go.Proofs.YtjimoegegigoiaaDoor
open Go.RowKit Go.Shelf
set_option maxRecDepth 100000
set_option maxHeartbeats 800000
set_option linter.unusedSimpArgs false
set_option linter.unusedVariables false

theorem blk5 {W : World} {g t : Nat} {a b c d e x y z u v : Value} (h : Blk W g t [a, b, c, d, e]) : Blk (((((W.setCell ⟨g, 0, none⟩ x).setCell ⟨g, 1, none⟩ y).setCell ⟨g, 2, none⟩ z).setCell ⟨g, 3, none⟩ u).setCell ⟨g, 4, none⟩ v) g t [x, y, z, u, v] := ((((h.set_ 0 x).set_ 1 y).set_ 2 z).set_ 3 u).set_ 4 v
theorem gset5 (w : World) (g : Nat) (a b c d e : Value) : w.grownBy (((((w.setCell ⟨g, 0, none⟩ a).setCell ⟨g, 1, none⟩ b).setCell ⟨g, 2, none⟩ c).setCell ⟨g, 3, none⟩ d).setCell ⟨g, 4, none⟩ e) (some g) :=
  gtrans' (gtrans' (gset3 _ _ _ _ _) (gset' _ _ _ _)) (gset' _ _ _ _)
theorem off_new {a b c : World} {g z : Nat} (h : a.grownBy b (some g)) (k : b.grownBy c (some z)) (hz : a.heap.size ≤ z) : a.grownBy c (some g) :=
  only_then h k fun q e => by injection e with e; exact .inr (by omega)
/-- what is read: the message, or what went wrong -/
def MrR (w : World) (g : Nat) (C I T : Int) (val : List UInt8) (s : ByteArray) (er : Int) (e : Ending) (w' : World) : Prop :=
  w.grownBy w' (some g) ∧ ∃ D k d, e = .returned (.tuple #[msV C I T D k d s, .int .i64 er]) ∧ Own w' w.heap.size (.slice D k d) val
theorem tk_all (r : List UInt8) : tkOut r 0 r.length = r := by
  have : tkErr r 0 r.length = 0 := by
    unfold tkErr
    rw [if_neg (by simp), if_neg (by omega), if_neg (by omega)]
  unfold tkOut
  rw [if_pos this, Int.toNat_natCast, List.take_length]
theorem rest_c {V : World} {B g : Nat} {r : List UInt8} (h : OctAt V B g r 0) : Calls Tryd.prog 170 #[.pointer (some ⟨g, 0, none⟩)] V fun e w5 => ∃ D k d, e = .returned (.slice D k d) ∧ (convert 22 9 (.slice D k d)).run Tryd.prog w5 = .ok (.string (strOf r)) w5 ∧ V.grownBy w5 (some g) ∧ Own w5 V.heap.size (.slice D k d) r := by
  refine (rest_any B g r 0 V h).mono ?_
  rintro e w5 ⟨v, rfl, o5, _, g5⟩
  rw [tk_all] at o5
  obtain ⟨D', d', hv, hrd⟩ : ∃ D' d', v = .slice D' r.length d' ∧ Rd w5 w5.heap.size D' r.length r := by
    rcases o5.form with ⟨e, h⟩ | ⟨g', cap, e, _⟩
    · exact ⟨none, 0, by rw [e, h]; rfl, by rw [h]; exact Rd.nil⟩
    · subst e
      have := o5.rd rfl _ (Nat.le_refl _)
      rw [List.take_length] at this
      exact ⟨_, _, rfl, this⟩
  subst hv
  exact ⟨D', _, d', rfl, conv_run hrd d', g5, o5⟩
theorem own_off {W W' : World} {base z : Nat} {v : Value} {l : List UInt8} (h : Own W base v l) (k : W.grownBy W' (some z)) (hz : z < base) : Own W' base v l :=
  h.grown k (by
    rcases hq : v.ownBlock with _ | q
    · exact .inl rfl
    · exact .inr (by have := (h.block q hq).1; intro e; injection e with e; omega))
theorem vread_any (C I T : Int) (A : Option Addr) (n c : Nat) (t : ByteArray) (B g : Nat) (r : List UInt8) (w : World) (hO : OctAt w B g r 0) (hg : g < w.heap.size) (hA : A = none) (hn : n = 0) (hc : c = 0) :
    Calls Tryd.prog 165 #[msV C I T A n c t, .pointer (some ⟨g, 0, none⟩)] w (MrR w g  (if r.length = 0 then C else 0) (if r.length = 0 then I else 0) (if r.length = 0 then T else 0) [] (if r.length = 0 then t else ⟨#[]⟩) (if r.length = 0 then 0 else 3)) := by
  obtain ⟨V1, hV1⟩ : ∃ V1, w.alloc (.cells #[.int .i64 C, .int .i64 I, .int .i64 T, .slice A n c, .string t] 119) = V1 := ⟨_, rfl⟩
  have bV1 : Below w.heap.size w V1 := by rw [← hV1]; exact (Below.refl _ _).alloc (Nat.le_refl _) _
  have hm1 : Blk V1 w.heap.size 119 [.int .i64 C, .int .i64 I, .int .i64 T, .slice A n c, .string t] := by rw [← hV1]; exact heap_alloc_new w _
  obtain ⟨V, hV⟩ : ∃ V, V1.alloc (.cells #[.int .i64 0, .int .i64 0, .int .i64 0, .slice none 0 0, .string ⟨#[]⟩] 26) = V := ⟨_, rfl⟩
  have bV : Below V1.heap.size V1 V := by rw [← hV]; exact (Below.refl _ _).alloc (Nat.le_refl _) _
  have h0 : Blk V V1.heap.size 26 [.int .i64 0, .int .i64 0, .int .i64 0, .slice none 0 0, .string ⟨#[]⟩] := by rw [← hV]; exact heap_alloc_new V1 _
  have hm2 := past_blk hm1 bV
  have s1 := bV1.size
  have l1 := Blk.lt hm1
  have BV := step_to bV1 bV
  have OV := hO.later BV
  have m0 := hm2.cell 0
  have m1 := hm2.cell 1
  have m2 := hm2.cell 2
  have m3 := hm2.cell 3
  have m4 := hm2.cell 4
  have HV1 := Lib.hid hV1
  have HV := Lib.hid hV
  subst hA hn hc
  have LF := Lib.hid (left_any B g r 0 V OV)
  have GV : w.grownBy V (some g) := only_of_below BV _
  by_cases hz : r.length = 0
  · simp only [if_pos hz]
    rw [hz] at LF
    have FN : Hid (MrR w g C I T [] t 0 (.returned (.tuple #[msV C I T none 0 0 t, .int .i64 0])) (((((V.setCell ⟨V1.heap.size, 0, none⟩ (.int .i64 C)).setCell ⟨V1.heap.size, 1, none⟩ (.int .i64 I)).setCell ⟨V1.heap.size, 2, none⟩ (.int .i64 T)).setCell ⟨V1.heap.size, 3, none⟩ (.slice none 0 0)).setCell ⟨V1.heap.size, 4, none⟩ (.string t))) := ⟨off_new GV (gset5 _ _ _ _ _ _ _) s1, none, 0, 0, rfl, Own.nil _ _⟩
    have r0 := h0.cell 0
    have e0 := h0.frozen 0
    have r1 := h0.cell 1
    have e1 := h0.frozen 1
    have r2 := h0.cell 2
    have e2 := h0.frozen 2
    have r3 := h0.cell 3
    have e3 := h0.frozen 3
    have r4 := h0.cell 4
    have e4 := h0.frozen 4
    have lr := Blk.lt h0
    have hb5 := blk5 (x := .int .i64 C) (y := .int .i64 I) (z := .int .i64 T) (u := .slice none 0 0) (v := .string t) h0
    have p0 := hb5.cell 0
    have p1 := hb5.cell 1
    have p2 := hb5.cell 2
    have p3 := hb5.cell 3
    have p4 := hb5.cell 4
    clear hV1 bV1 hm1 hV bV h0 hm2 s1 l1 BV OV hO GV hb5 hz
    go_enter Tryd.func165, Tryd.ntmps165
    go_wp2_with (first
      | (rw [HV1.out])
      | (rw [HV.out])
      | (go_at_call 161; ((with_reducible refine LF.out.mono ?_); rintro e w' ⟨rfl, rfl⟩)))
    exact bodyPost_ret (v := .tuple #[msV C I T none 0 0 t, .int .i64 0]) (by simp [results, Tryd.results165, go_sem, p0, p1, p2, p3, p4]) rfl FN.out
  · simp only [if_neg hz]
    obtain ⟨N, hN⟩ : ∃ N : Int, (r.length : Int) = N := ⟨_, rfl⟩
    have hp : 0 < N := by omega
    rw [hN] at LF
    clear hN
    have FN : Hid (MrR w g 0 0 0 [] ⟨#[]⟩ 3 (.returned (.tuple #[msV 0 0 0 none 0 0 ⟨#[]⟩, .int .i64 3])) (((((V.setCell ⟨V1.heap.size, 0, none⟩ (.int .i64 0)).setCell ⟨V1.heap.size, 1, none⟩ (.int .i64 0)).setCell ⟨V1.heap.size, 2, none⟩ (.int .i64 0)).setCell ⟨V1.heap.size, 3, none⟩ (.slice none 0 0)).setCell ⟨V1.heap.size, 4, none⟩ (.string ⟨#[]⟩))) := ⟨off_new GV (gset5 _ _ _ _ _ _ _) s1, none, 0, 0, rfl, Own.nil _ _⟩
    have r0 := h0.cell 0
    have e0 := h0.frozen 0
    have r1 := h0.cell 1
    have e1 := h0.frozen 1
    have r2 := h0.cell 2
    have e2 := h0.frozen 2
    have r3 := h0.cell 3
    have e3 := h0.frozen 3
    have r4 := h0.cell 4
    have e4 := h0.frozen 4
    have lr := Blk.lt h0
    have hb5 := blk5 (x := .int .i64 0) (y := .int .i64 0) (z := .int .i64 0) (u := .slice none 0 0) (v := .string ⟨#[]⟩) h0
    have p0 := hb5.cell 0
    have p1 := hb5.cell 1
    have p2 := hb5.cell 2
    have p3 := hb5.cell 3
    have p4 := hb5.cell 4
    clear hV1 bV1 hm1 hV bV h0 hm2 s1 l1 BV OV hO GV hb5 hz
    go_enter Tryd.func165, Tryd.ntmps165
    go_wp2_with (first
      | (rw [HV1.out])
      | (rw [HV.out])
      | (go_at_call 161; ((with_reducible refine LF.out.mono ?_); rintro e w' ⟨rfl, rfl⟩)))
    exact bodyPost_ret (v := .tuple #[msV 0 0 0 none 0 0 ⟨#[]⟩, .int .i64 3]) (by simp [results, Tryd.results165, go_sem, p0, p1, p2, p3, p4]) rfl FN.out
theorem wread_any (C I T : Int) (A : Option Addr) (n c : Nat) (t : ByteArray) (B g : Nat) (r : List UInt8) (w : World) (hO : OctAt w B g r 0) (hg : g < w.heap.size) (hA : A = none) (hn : n = 0) (hc : c = 0) :
    Calls Tryd.prog 169 #[msV C I T A n c t, .pointer (some ⟨g, 0, none⟩)] w (MrR w g  C I T [] (strOf r) 0) := by
  obtain ⟨V1, hV1⟩ : ∃ V1, w.alloc (.cells #[.int .i64 C, .int .i64 I, .int .i64 T, .slice A n c, .string t] 120) = V1 := ⟨_, rfl⟩
  have bV1 : Below w.heap.size w V1 := by rw [← hV1]; exact (Below.refl _ _).alloc (Nat.le_refl _) _
  have hm1 : Blk V1 w.heap.size 120 [.int .i64 C, .int .i64 I, .int .i64 T, .slice A n c, .string t] := by rw [← hV1]; exact heap_alloc_new w _
  obtain ⟨V, hV⟩ : ∃ V, V1.alloc (.cells #[.int .i64 0, .int .i64 0, .int .i64 0, .slice none 0 0, .string ⟨#[]⟩] 26) = V := ⟨_, rfl⟩
  have bV : Below V1.heap.size V1 V := by rw [← hV]; exact (Below.refl _ _).alloc (Nat.le_refl _) _
  have h0 : Blk V V1.heap.size 26 [.int .i64 0, .int .i64 0, .int .i64 0, .slice none 0 0, .string ⟨#[]⟩] := by rw [← hV]; exact heap_alloc_new V1 _
  have hm2 := past_blk hm1 bV
  have s1 := bV1.size
  have l1 := Blk.lt hm1
  have BV := step_to bV1 bV
  have OV := hO.later BV
  have m0 := hm2.cell 0
  have m1 := hm2.cell 1
  have m2 := hm2.cell 2
  have m3 := hm2.cell 3
  have m4 := hm2.cell 4
  have HV1 := Lib.hid hV1
  have HV := Lib.hid hV
  subst hA hn hc
  have CF : Hid (Calls Tryd.prog 170 #[.pointer (some ⟨g, 0, none⟩)] V fun e w5 => ∃ D k d, e = .returned (.slice D k d) ∧ (convert 22 9 (.slice D k d)).run Tryd.prog w5 = .ok (.string (strOf r)) w5 ∧ Blk w5 w.heap.size 120 [.int .i64 C, .int .i64 I, .int .i64 T, .slice none 0 0, .string t] ∧ Blk w5 V1.heap.size 26 [.int .i64 0, .int .i64 0, .int .i64 0, .slice none 0 0, .string ⟨#[]⟩] ∧ MrR w g C I T [] (strOf r) 0 (.returned (.tuple #[msV C I T none 0 0 (strOf r), .int .i64 0])) ((((((w5.setCell ⟨w.heap.size, 4, none⟩ (.string (strOf r))).setCell ⟨V1.heap.size, 0, none⟩ (.int .i64 C)).setCell ⟨V1.heap.size, 1, none⟩ (.int .i64 I)).setCell ⟨V1.heap.size, 2, none⟩ (.int .i64 T)).setCell ⟨V1.heap.size, 3, none⟩ (.slice none 0 0)).setCell ⟨V1.heap.size, 4, none⟩ (.string (strOf r)))) := by
    refine (rest_c OV).mono ?_
    rintro e w5 ⟨D, k, d, rfl, hcv, g5, ho⟩
    have G5 : w.grownBy w5 (some g) := only_then (only_of_below BV (some g)) g5 (fun q e => .inl e)
    have G6 := off_new G5 (gset' w5 w.heap.size 4 (.string (strOf r))) (Nat.le_refl _)
    have l0 := Blk.lt h0
    refine ⟨D, k, d, rfl, hcv, blk_off hm2 g5 (by omega), blk_off h0 g5 (by omega), off_new G6 (gset5 _ _ _ _ _ _ _) s1, none, 0, 0, rfl, Own.nil _ _⟩
  clear hV1 bV1 hm1 hV bV h0 hm2 s1 BV OV hO
  go_enter Tryd.func169, Tryd.ntmps169
  go_wp2_with (first
    | (rw [HV1.out])
    | (rw [HV.out]))
  refine CF.out.mono ?_
  rintro e w5 ⟨D, k, d, rfl, hcv, hb, hz, FN⟩
  have FNH := Lib.hid FN
  clear FN
  have hb6 := hb.set_ 4 (.string (strOf r))
  have hr6 := blk_off hz (gset' w5 w.heap.size 4 (.string (strOf r))) (Nat.ne_of_gt l1)
  clear m0 m1 m2 m3 m4
  have n0 := hb.cell 0
  have n1 := hb.cell 1
  have n2 := hb.cell 2
  have n3 := hb.cell 3
  have n4 := hb.cell 4
  have f4 := hb.frozen 4
  have lb := Blk.lt hb
  have m0 := hb6.cell 0
  have m1 := hb6.cell 1
  have m2 := hb6.cell 2
  have m3 := hb6.cell 3
  have m4 := hb6.cell 4
  have r0 := hr6.cell 0
  have e0 := hr6.frozen 0
  have r1 := hr6.cell 1
  have e1 := hr6.frozen 1
  have r2 := hr6.cell 2
  have e2 := hr6.frozen 2
  have r3 := hr6.cell 3
  have e3 := hr6.frozen 3
  have r4 := hr6.cell 4
  have e4 := hr6.frozen 4
  have lr := Blk.lt hr6
  have hb5 := blk5 (x := .int .i64 C) (y := .int .i64 I) (z := .int .i64 T) (u := .slice none 0 0) (v := .string (strOf r)) hr6
  have p0 := hb5.cell 0
  have p1 := hb5.cell 1
  have p2 := hb5.cell 2
  have p3 := hb5.cell 3
  have p4 := hb5.cell 4
  clear hb6 hr6 hb5 hb hz CF
  go_wp2
  exact bodyPost_ret (v := .tuple #[msV C I T none 0 0 (strOf r), .int .i64 0]) (by simp [results, Tryd.results169, go_sem, p0, p1, p2, p3, p4]) rfl FNH.out
theorem sread_any (C I T : Int) (A : Option Addr) (n c : Nat) (t : ByteArray) (B g : Nat) (r : List UInt8) (w : World) (hO : OctAt w B g r 0) (hg : g < w.heap.size) :
    Calls Tryd.prog 179 #[msV C I T A n c t, .pointer (some ⟨g, 0, none⟩)] w (MrR w g  C I T r t 0) := by
  obtain ⟨V1, hV1⟩ : ∃ V1, w.alloc (.cells #[.int .i64 C, .int .i64 I, .int .i64 T, .slice A n c, .string t] 126) = V1 := ⟨_, rfl⟩
  have bV1 : Below w.heap.size w V1 := by rw [← hV1]; exact (Below.refl _ _).alloc (Nat.le_refl _) _
  have hm1 : Blk V1 w.heap.size 126 [.int .i64 C, .int .i64 I, .int .i64 T, .slice A n c, .string t] := by rw [← hV1]; exact heap_alloc_new w _
  obtain ⟨V, hV⟩ : ∃ V, V1.alloc (.cells #[.int .i64 0, .int .i64 0, .int .i64 0, .slice none 0 0, .string ⟨#[]⟩] 26) = V := ⟨_, rfl⟩
  have bV : Below V1.heap.size V1 V := by rw [← hV]; exact (Below.refl _ _).alloc (Nat.le_refl _) _
  have h0 : Blk V V1.heap.size 26 [.int .i64 0, .int .i64 0, .int .i64 0, .slice none 0 0, .string ⟨#[]⟩] := by rw [← hV]; exact heap_alloc_new V1 _
  have hm2 := past_blk hm1 bV
  have s1 := bV1.size
  have l1 := Blk.lt hm1
  have BV := step_to bV1 bV
  have OV := hO.later BV
  have m0 := hm2.cell 0
  have m1 := hm2.cell 1
  have m2 := hm2.cell 2
  have m3 := hm2.cell 3
  have m4 := hm2.cell 4
  have HV1 := Lib.hid hV1
  have HV := Lib.hid hV
  have CF : Hid (Calls Tryd.prog 170 #[.pointer (some ⟨g, 0, none⟩)] V fun e w5 => ∃ D k d, e = .returned (.slice D k d) ∧ (convert 22 9 (.slice D k d)).run Tryd.prog w5 = .ok (.string (strOf r)) w5 ∧ Blk w5 w.heap.size 126 [.int .i64 C, .int .i64 I, .int .i64 T, .slice A n c, .string t] ∧ Blk w5 V1.heap.size 26 [.int .i64 0, .int .i64 0, .int .i64 0, .slice none 0 0, .string ⟨#[]⟩] ∧ MrR w g C I T r t 0 (.returned (.tuple #[msV C I T D k d t, .int .i64 0])) ((((((w5.setCell ⟨w.heap.size, 3, none⟩ (.slice D k d)).setCell ⟨V1.heap.size, 0, none⟩ (.int .i64 C)).setCell ⟨V1.heap.size, 1, none⟩ (.int .i64 I)).setCell ⟨V1.heap.size, 2, none⟩ (.int .i64 T)).setCell ⟨V1.heap.size, 3, none⟩ (.slice D k d)).setCell ⟨V1.heap.size, 4, none⟩ (.string t))) := by
    refine (rest_c OV).mono ?_
    rintro e w5 ⟨D, k, d, rfl, hcv, g5, ho⟩
    have G5 : w.grownBy w5 (some g) := only_then (only_of_below BV (some g)) g5 (fun q e => .inl e)
    have G6 := off_new G5 (gset' w5 w.heap.size 3 (.slice D k d)) (Nat.le_refl _)
    have l0 := Blk.lt h0
    refine ⟨D, k, d, rfl, hcv, blk_off hm2 g5 (by omega), blk_off h0 g5 (by omega), off_new G6 (gset5 _ _ _ _ _ _ _) s1, D, k, d, rfl, ?_⟩
    have h6 := own_off ho (gset' w5 w.heap.size 3 (.slice D k d)) (by omega)
    have h7 := own_off h6 (gset5 _ V1.heap.size (.int .i64 C) (.int .i64 I) (.int .i64 T) (.slice D k d) (.string t)) (by omega)
    exact eown_wide h7 BV.size
  clear hV1 bV1 hm1 hV bV h0 hm2 s1 BV OV hO
  go_enter Tryd.func179, Tryd.ntmps179
  go_wp2_with (first
    | (rw [HV1.out])
    | (rw [HV.out]))
  refine CF.out.mono ?_
  rintro e w5 ⟨D, k, d, rfl, hcv, hb, hz, FN⟩
  have FNH := Lib.hid FN
  clear FN
  have hb6 := hb.set_ 3 (.slice D k d)
  have hr6 := blk_off hz (gset' w5 w.heap.size 3 (.slice D k d)) (Nat.ne_of_gt l1)
  clear m0 m1 m2 m3 m4
  have n0 := hb.cell 0
  have n1 := hb.cell 1
  have n2 := hb.cell 2
  have n3 := hb.cell 3
  have n4 := hb.cell 4
  have f3 := hb.frozen 3
  have lb := Blk.lt hb
  have m0 := hb6.cell 0
  have m1 := hb6.cell 1
  have m2 := hb6.cell 2
  have m3 := hb6.cell 3
  have m4 := hb6.cell 4
  have r0 := hr6.cell 0
  have e0 := hr6.frozen 0
  have r1 := hr6.cell 1
  have e1 := hr6.frozen 1
  have r2 := hr6.cell 2
  have e2 := hr6.frozen 2
  have r3 := hr6.cell 3
  have e3 := hr6.frozen 3
  have r4 := hr6.cell 4
  have e4 := hr6.frozen 4
  have lr := Blk.lt hr6
  have hb5 := blk5 (x := .int .i64 C) (y := .int .i64 I) (z := .int .i64 T) (u := .slice D k d) (v := .string t) hr6
  have p0 := hb5.cell 0
  have p1 := hb5.cell 1
  have p2 := hb5.cell 2
  have p3 := hb5.cell 3
  have p4 := hb5.cell 4
  clear hb6 hr6 hb5 hb hz CF
  go_wp2
  exact bodyPost_ret (v := .tuple #[msV C I T D k d t, .int .i64 0]) (by simp [results, Tryd.results179, go_sem, p0, p1, p2, p3, p4]) rfl FNH.out
end Go.Proofs.YtjimoegegigoiaaDoor
namespace Go.Proofs.YtjimoegegigoiaaDoor
open Go.RowKit Go.Shelf
set_option maxRecDepth 100000
set_option maxHeartbeats 800000
set_option linter.unusedSimpArgs false
set_option linter.unusedVariables false

/-- how long a value is said to be -/
def rvN (l : List UInt8) : Nat := (l.headD 0).toNat
def rvV (l : List UInt8) : List UInt8 := (l.drop 1).take (rvN l)
def rvS (l : List UInt8) : ByteArray := strOf (l.drop (1 + rvN l))
theorem strOf_size (l : List UInt8) : (strOf l).size = l.length := by
  simp [strOf, strOfNums, ByteArray.size]
theorem rvN_lt (l : List UInt8) : rvN l < 256 := (l.headD 0).toNat_lt
/-- what went wrong with the bytes -/
def octE (l : List UInt8) : Int := if l.length < 1 ∨ l.length - 1 < rvN l then 8 else 0
def octZ (l : List UInt8) : Int := if l.length < 1 then 0 else rvN l
theorem oct_facts (l : List UInt8) : nmVal l 0 1 = octZ l ∧ tkErr (nmRest l 0 1) (nmErr l 0 1) (octZ l) = octE l ∧ (octE l = 0 → tkOut (nmRest l 0 1) (nmErr l 0 1) (octZ l) = rvV l ∧ tkRest (nmRest l 0 1) (nmErr l 0 1) (octZ l) = l.drop (1 + rvN l) ∧ 1 ≤ l.length) := by
  cases l with
  | nil => refine ⟨by decide, by decide, fun h => absurd h (by decide)⟩
  | cons c r =>
    have hN : rvN (c :: r) = c.toNat := rfl
    have e1 : nmErr (c :: r) 0 1 = 0 := by
      unfold nmErr
      rw [if_neg (by simp), if_neg (by omega), if_neg (by simp; omega)]
    have e2 : nmRest (c :: r) 0 1 = r := by unfold nmRest; rw [if_pos e1]; rfl
    have e3 : nmVal (c :: r) 0 1 = c.toNat := by
      unfold nmVal
      rw [if_pos e1]
      show num (c :: r) 1 = _
      simp [num, byteAt]
    have e4 : octZ (c :: r) = c.toNat := by unfold octZ; rw [if_neg (by simp)]; rfl
    rw [e1, e2, e3, e4]
    refine ⟨rfl, ?_, fun h => ?_⟩
    · unfold tkErr octE
      rw [hN, if_neg (by simp), if_neg (by omega)]
      simp only [List.length_cons]
      by_cases h : r.length < c.toNat
      · rw [if_pos (by omega), if_pos (by omega)]
      · rw [if_neg (by omega), if_neg (by omega)]
    · have h2 : tkErr r 0 c.toNat = 0 := by
        unfold octE at h
        unfold tkErr
        rw [hN] at h
        simp only [List.length_cons] at h
        by_cases h3 : r.length < c.toNat
        · rw [if_pos (by omega)] at h; cases h
        · rw [if_neg (by simp), if_neg (by omega), if_neg (by omega)]
      unfold tkOut tkRest rvV
      rw [if_pos h2, if_pos h2, hN]
      refine ⟨by simp, ?_, by simp⟩
      rw [Nat.add_comm, List.drop_succ_cons]
      simp
theorem OctAt.newer {w w' : World} {B g : Nat} {r : List UInt8} {e : Int} {row : Option Nat} (h : OctAt w B g r e) (hG : w.grownBy w' row) (hr : ∀ q, row = some q → B ≤ q) : OctAt w' B g r e := ⟨h.1.newer hG hr, h.2⟩
theorem iread_one (C I T : Int) (A : Option Addr) (n c : Nat) (t : ByteArray) (B g : Nat) (r : List UInt8) (w : World) (hO : OctAt w B g r 0) (hg : g < w.heap.size) (hC : C = 1) :
    Calls Tryd.prog 173 #[msV C I T A n c t, .pointer (some ⟨g, 0, none⟩)] w (MrR w g  0 0 0 [] ⟨#[]⟩ 90) := by
  obtain ⟨V1, hV1⟩ : ∃ V1, w.alloc (.cells #[.int .i64 C, .int .i64 I, .int .i64 T, .slice A n c, .string t] 124) = V1 := ⟨_, rfl⟩
  have bV1 : Below w.heap.size w V1 := by rw [← hV1]; exact (Below.refl _ _).alloc (Nat.le_refl _) _
  have hm1 : Blk V1 w.heap.size 124 [.int .i64 C, .int .i64 I, .int .i64 T, .slice A n c, .string t] := by rw [← hV1]; exact heap_alloc_new w _
  obtain ⟨V, hV⟩ : ∃ V, V1.alloc (.cells #[.int .i64 0, .int .i64 0, .int .i64 0, .slice none 0 0, .string ⟨#[]⟩] 26) = V := ⟨_, rfl⟩
  have bV : Below V1.heap.size V1 V := by rw [← hV]; exact (Below.refl _ _).alloc (Nat.le_refl _) _
  have h0 : Blk V V1.heap.size 26 [.int .i64 0, .int .i64 0, .int .i64 0, .slice none 0 0, .string ⟨#[]⟩] := by rw [← hV]; exact heap_alloc_new V1 _
  have hm2 := past_blk hm1 bV
  have s1 := bV1.size
  have l1 := Blk.lt hm1
  have BV := step_to bV1 bV
  have OV := hO.later BV
  have m0 := hm2.cell 0
  have m1 := hm2.cell 1
  have m2 := hm2.cell 2
  have m3 := hm2.cell 3
  have m4 := hm2.cell 4
  have HV1 := Lib.hid hV1
  have HV := Lib.hid hV
  subst hC
  have GV : w.grownBy V (some g) := only_of_below BV _
  have FN : Hid (MrR w g 0 0 0 [] ⟨#[]⟩ 90 (.returned (.tuple #[msV 0 0 0 none 0 0 ⟨#[]⟩, .int .i64 90])) (((((V.setCell ⟨V1.heap.size, 0, none⟩ (.int .i64 0)).setCell ⟨V1.heap.size, 1, none⟩ (.int .i64 0)).setCell ⟨V1.heap.size, 2, none⟩ (.int .i64 0)).setCell ⟨V1.heap.size, 3, none⟩ (.slice none 0 0)).setCell ⟨V1.heap.size, 4, none⟩ (.string ⟨#[]⟩))) := ⟨off_new GV (gset5 _ _ _ _ _ _ _) s1, none, 0, 0, rfl, Own.nil _ _⟩
  have r0 := h0.cell 0
  have e0 := h0.frozen 0
  have r1 := h0.cell 1
  have e1 := h0.frozen 1
  have r2 := h0.cell 2
  have e2 := h0.frozen 2
  have r3 := h0.cell 3
  have e3 := h0.frozen 3
  have r4 := h0.cell 4
  have e4 := h0.frozen 4
  have lr := Blk.lt h0
  have hb5 := blk5 (x := .int .i64 0) (y := .int .i64 0) (z := .int .i64 0) (u := .slice none 0 0) (v := .string ⟨#[]⟩) h0
  have p0 := hb5.cell 0
  have p1 := hb5.cell 1
  have p2 := hb5.cell 2
  have p3 := hb5.cell 3
  have p4 := hb5.cell 4
  clear hV1 bV1 hm1 hV bV h0 hm2 s1 l1 BV OV hO GV hb5
  go_enter Tryd.func173, Tryd.ntmps173
  go_wp2_with (first
    | (rw [HV1.out])
    | (rw [HV.out])
)
  exact bodyPost_ret (v := .tuple #[msV 0 0 0 none 0 0 ⟨#[]⟩, .int .i64 90]) (by simp [results, Tryd.results173, go_sem, p0, p1, p2, p3, p4]) rfl FN.out
theorem iread_none (C I T : Int) (A : Option Addr) (n c : Nat) (t : ByteArray) (B g : Nat) (r : List UInt8) (w : World) (hO : OctAt w B g r 0) (hg : g < w.heap.size) (hC : C ≠ 1) (hz0 : r.length = 0) :
    Calls Tryd.prog 173 #[msV C I T A n c t, .pointer (some ⟨g, 0, none⟩)] w (MrR w g  0 0 0 [] ⟨#[]⟩ 8) := by
  obtain ⟨V1, hV1⟩ : ∃ V1, w.alloc (.cells #[.int .i64 C, .int .i64 I, .int .i64 T, .slice A n c, .string t] 124) = V1 := ⟨_, rfl⟩
  have bV1 : Below w.heap.size w V1 := by rw [← hV1]; exact (Below.refl _ _).alloc (Nat.le_refl _) _
  have hm1 : Blk V1 w.heap.size 124 [.int .i64 C, .int .i64 I, .int .i64 T, .slice A n c, .string t] := by rw [← hV1]; exact heap_alloc_new w _
  obtain ⟨V, hV⟩ : ∃ V, V1.alloc (.cells #[.int .i64 0, .int .i64 0, .int .i64 0, .slice none 0 0, .string ⟨#[]⟩] 26) = V := ⟨_, rfl⟩
  have bV : Below V1.heap.size V1 V := by rw [← hV]; exact (Below.refl _ _).alloc (Nat.le_refl _) _
  have h0 : Blk V V1.heap.size 26 [.int .i64 0, .int .i64 0, .int .i64 0, .slice none 0 0, .string ⟨#[]⟩] := by rw [← hV]; exact heap_alloc_new V1 _
  have hm2 := past_blk hm1 bV
  have s1 := bV1.size
  have l1 := Blk.lt hm1
  have BV := step_to bV1 bV
  have OV := hO.later BV
  have m0 := hm2.cell 0
  have m1 := hm2.cell 1
  have m2 := hm2.cell 2
  have m3 := hm2.cell 3
  have m4 := hm2.cell 4
  have HV1 := Lib.hid hV1
  have HV := Lib.hid hV
  have c1 : (C == 1) = false := by simpa using hC
  have LF := Lib.hid (left_any B g r 0 V OV)
  rw [hz0] at LF
  have GV : w.grownBy V (some g) := only_of_below BV _
  have FN : Hid (MrR w g 0 0 0 [] ⟨#[]⟩ 8 (.returned (.tuple #[msV 0 0 0 none 0 0 ⟨#[]⟩, .int .i64 8])) (((((V.setCell ⟨V1.heap.size, 0, none⟩ (.int .i64 0)).setCell ⟨V1.heap.size, 1, none⟩ (.int .i64 0)).setCell ⟨V1.heap.size, 2, none⟩ (.int .i64 0)).setCell ⟨V1.heap.size, 3, none⟩ (.slice none 0 0)).setCell ⟨V1.heap.size, 4, none⟩ (.string ⟨#[]⟩))) := ⟨off_new GV (gset5 _ _ _ _ _ _ _) s1, none, 0, 0, rfl, Own.nil _ _⟩
  have r0 := h0.cell 0
  have e0 := h0.frozen 0
  have r1 := h0.cell 1
  have e1 := h0.frozen 1
  have r2 := h0.cell 2
  have e2 := h0.frozen 2
  have r3 := h0.cell 3
  have e3 := h0.frozen 3
  have r4 := h0.cell 4
  have e4 := h0.frozen 4
  have lr := Blk.lt h0
  have hb5 := blk5 (x := .int .i64 0) (y := .int .i64 0) (z := .int .i64 0) (u := .slice none 0 0) (v := .string ⟨#[]⟩) h0
  have p0 := hb5.cell 0
  have p1 := hb5.cell 1
  have p2 := hb5.cell 2
  have p3 := hb5.cell 3
  have p4 := hb5.cell 4
  clear hV1 bV1 hm1 hV bV h0 hm2 s1 l1 BV OV hO GV hb5 hz0 hC
  go_enter Tryd.func173, Tryd.ntmps173
  go_wp2_with (first
    | (rw [HV1.out])
    | (rw [HV.out])
    | (go_at_call 161; ((with_reducible refine LF.out.mono ?_); rintro e w' ⟨rfl, rfl⟩)))
  exact bodyPost_ret (v := .tuple #[msV 0 0 0 none 0 0 ⟨#[]⟩, .int .i64 8]) (by simp [results, Tryd.results173, go_sem, p0, p1, p2, p3, p4]) rfl FN.out
theorem iread_ok (C I T : Int) (A : Option Addr) (n c : Nat) (t : ByteArray) (B g : Nat) (r : List UInt8) (w : World) (hO : OctAt w B g r 0) (hg : g < w.heap.size) (hC : C ≠ 1) (hz0 : r.length ≠ 0) :
    Calls Tryd.prog 173 #[msV C I T A n c t, .pointer (some ⟨g, 0, none⟩)] w (MrR w g  C I T r t 0) := by
  obtain ⟨V1, hV1⟩ : ∃ V1, w.alloc (.cells #[.int .i64 C, .int .i64 I, .int .i64 T, .slice A n c, .string t] 124) = V1 := ⟨_, rfl⟩
  have bV1 : Below w.heap.size w V1 := by rw [← hV1]; exact (Below.refl _ _).alloc (Nat.le_refl _) _
  have hm1 : Blk V1 w.heap.size 124 [.int .i64 C, .int .i64 I, .int .i64 T, .slice A n c, .string t] := by rw [← hV1]; exact heap_alloc_new w _
  obtain ⟨V, hV⟩ : ∃ V, V1.alloc (.cells #[.int .i64 0, .int .i64 0, .int .i64 0, .slice none 0 0, .string ⟨#[]⟩] 26) = V := ⟨_, rfl⟩
  have bV : Below V1.heap.size V1 V := by rw [← hV]; exact (Below.refl _ _).alloc (Nat.le_refl _) _
  have h0 : Blk V V1.heap.size 26 [.int .i64 0, .int .i64 0, .int .i64 0, .slice none 0 0, .string ⟨#[]⟩] := by rw [← hV]; exact heap_alloc_new V1 _
  have hm2 := past_blk hm1 bV
  have s1 := bV1.size
  have l1 := Blk.lt hm1
  have BV := step_to bV1 bV
  have OV := hO.later BV
  have m0 := hm2.cell 0
  have m1 := hm2.cell 1
  have m2 := hm2.cell 2
  have m3 := hm2.cell 3
  have m4 := hm2.cell 4
  have HV1 := Lib.hid hV1
  have HV := Lib.hid hV
  have c1 : (C == 1) = false := by simpa using hC
  have LF := Lib.hid (left_any B g r 0 V OV)
  obtain ⟨N, hN⟩ : ∃ N : Int, (r.length : Int) = N := ⟨_, rfl⟩
  have c2 : (N == 0) = false := by
    rw [← hN]
    simp
    exact fun h => hz0 (by rw [h]; rfl)
  rw [hN] at LF
  have CF : Hid (Calls Tryd.prog 170 #[.pointer (some ⟨g, 0, none⟩)] V fun e w5 => ∃ D k d, e = .returned (.slice D k d) ∧ (convert 22 9 (.slice D k d)).run Tryd.prog w5 = .ok (.string (strOf r)) w5 ∧ Blk w5 w.heap.size 124 [.int .i64 C, .int .i64 I, .int .i64 T, .slice A n c, .string t] ∧ Blk w5 V1.heap.size 26 [.int .i64 0, .int .i64 0, .int .i64 0, .slice none 0 0, .string ⟨#[]⟩] ∧ MrR w g C I T r t 0 (.returned (.tuple #[msV C I T D k d t, .int .i64 0])) ((((((w5.setCell ⟨w.heap.size, 3, none⟩ (.slice D k d)).setCell ⟨V1.heap.size, 0, none⟩ (.int .i64 C)).setCell ⟨V1.heap.size, 1, none⟩ (.int .i64 I)).setCell ⟨V1.heap.size, 2, none⟩ (.int .i64 T)).setCell ⟨V1.heap.size, 3, none⟩ (.slice D k d)).setCell ⟨V1.heap.size, 4, none⟩ (.string t))) := by
    refine (rest_c OV).mono ?_
    rintro e w5 ⟨D, k, d, rfl, hcv, g5, ho⟩
    have G5 : w.grownBy w5 (some g) := only_then (only_of_below BV (some g)) g5 (fun q e => .inl e)
    have G6 := off_new G5 (gset' w5 w.heap.size 3 (.slice D k d)) (Nat.le_refl _)
    have l0 := Blk.lt h0
    refine ⟨D, k, d, rfl, hcv, blk_off hm2 g5 (by omega), blk_off h0 g5 (by omega), off_new G6 (gset5 _ _ _ _ _ _ _) s1, D, k, d, rfl, ?_⟩
    have h6 := own_off ho (gset' w5 w.heap.size 3 (.slice D k d)) (by omega)
    have h7 := own_off h6 (gset5 _ V1.heap.size (.int .i64 C) (.int .i64 I) (.int .i64 T) (.slice D k d) (.string t)) (by omega)
    exact eown_wide h7 BV.size
  clear hV1 bV1 hm1 hV bV h0 hm2 s1 BV OV hO hC hz0 hN
  go_enter Tryd.func173, Tryd.ntmps173
  go_wp2_with (first
    | (rw [HV1.out])
    | (rw [HV.out])
    | (go_at_call 161; ((with_reducible refine LF.out.mono ?_); rintro e w' ⟨rfl, rfl⟩)))
  refine CF.out.mono ?_
  rintro e w5 ⟨D, k, d, rfl, hcv, hb, hz, FN⟩
  have FNH := Lib.hid FN
  clear FN
  have hb6 := hb.set_ 3 (.slice D k d)
  have hr6 := blk_off hz (gset' w5 w.heap.size 3 (.slice D k d)) (Nat.ne_of_gt l1)
  clear m0 m1 m2 m3 m4
  have n0 := hb.cell 0
  have n1 := hb.cell 1
  have n2 := hb.cell 2
  have n3 := hb.cell 3
  have n4 := hb.cell 4
  have f3 := hb.frozen 3
  have lb := Blk.lt hb
  have m0 := hb6.cell 0
  have m1 := hb6.cell 1
  have m2 := hb6.cell 2
  have m3 := hb6.cell 3
  have m4 := hb6.cell 4
  have r0 := hr6.cell 0
  have e0 := hr6.frozen 0
  have r1 := hr6.cell 1
  have e1 := hr6.frozen 1
  have r2 := hr6.cell 2
  have e2 := hr6.frozen 2
  have r3 := hr6.cell 3
  have e3 := hr6.frozen 3
  have r4 := hr6.cell 4
  have e4 := hr6.frozen 4
  have lr := Blk.lt hr6
  have hb5 := blk5 (x := .int .i64 C) (y := .int .i64 I) (z := .int .i64 T) (u := .slice D k d) (v := .string t) hr6
  have p0 := hb5.cell 0
  have p1 := hb5.cell 1
  have p2 := hb5.cell 2
  have p3 := hb5.cell 3
  have p4 := hb5.cell 4
  clear hb6 hr6 hb5 hb hz CF
  go_wp2
  exact bodyPost_ret (v := .tuple #[msV C I T D k d t, .int .i64 0]) (by simp [results, Tryd.results173, go_sem, p0, p1, p2, p3, p4]) rfl FNH.out
theorem pread_short (C I T : Int) (A : Option Addr) (n c : Nat) (t : ByteArray) (B g : Nat) (r : List UInt8) (w : World) (hO : OctAt w B g r 0) (hg : g < w.heap.size) (he : octE r ≠ 0) :
    Calls Tryd.prog 176 #[msV C I T A n c t, .pointer (some ⟨g, 0, none⟩)] w (MrR w g  0 0 0 [] ⟨#[]⟩ 8) := by
  obtain ⟨V1, hV1⟩ : ∃ V1, w.alloc (.cells #[.int .i64 C, .int .i64 I, .int .i64 T, .slice A n c, .string t] 125) = V1 := ⟨_, rfl⟩
  have bV1 : Below w.heap.size w V1 := by rw [← hV1]; exact (Below.refl _ _).alloc (Nat.le_refl _) _
  have hm1 : Blk V1 w.heap.size 125 [.int .i64 C, .int .i64 I, .int .i64 T, .slice A n c, .string t] := by rw [← hV1]; exact heap_alloc_new w _
  obtain ⟨V, hV⟩ : ∃ V, V1.alloc (.cells #[.int .i64 0, .int .i64 0, .int .i64 0, .slice none 0 0, .string ⟨#[]⟩] 26) = V := ⟨_, rfl⟩
  have bV : Below V1.heap.size V1 V := by rw [← hV]; exact (Below.refl _ _).alloc (Nat.le_refl _) _
  have h0 : Blk V V1.heap.size 26 [.int .i64 0, .int .i64 0, .int .i64 0, .slice none 0 0, .string ⟨#[]⟩] := by rw [← hV]; exact heap_alloc_new V1 _
  have hm2 := past_blk hm1 bV
  have s1 := bV1.size
  have l1 := Blk.lt hm1
  have BV := step_to bV1 bV
  have OV := hO.later BV
  have m0 := hm2.cell 0
  have m1 := hm2.cell 1
  have m2 := hm2.cell 2
  have m3 := hm2.cell 3
  have m4 := hm2.cell 4
  have HV1 := Lib.hid hV1
  have HV := Lib.hid hV
  obtain ⟨f1, f2, f3⟩ := oct_facts r
  have hBs := hO.1.size
  have l0 := Blk.lt h0
  have zb : 0 ≤ octZ r ∧ octZ r < 256 := by
    have := rvN_lt r
    unfold octZ
    split <;> omega
  obtain ⟨z, hz⟩ : ∃ z, octZ r = z := ⟨_, rfl⟩
  obtain ⟨oe, hoe⟩ : ∃ oe, octE r = oe := ⟨_, rfl⟩
  rw [hz] at zb
  obtain ⟨zb1, zb2⟩ := zb
  have CF : Hid (Calls Tryd.prog 42 #[.pointer (some ⟨g, 0, none⟩), .int .i64 1] V fun e w3 => e = .returned (.int .u64 z) ∧ Hid (Calls Tryd.prog 82 #[.pointer (some ⟨g, 0, none⟩), .int .i64 z] w3 fun e w4 => ∃ D k d, e = .returned (.slice D k d) ∧ Blk w4 w.heap.size 125 [.int .i64 C, .int .i64 I, .int .i64 T, .slice A n c, .string t] ∧ Blk w4 V1.heap.size 26 [.int .i64 0, .int .i64 0, .int .i64 0, .slice none 0 0, .string ⟨#[]⟩] ∧ Hid (Calls Tryd.prog 43 #[.pointer (some ⟨g, 0, none⟩)] (w4.setCell ⟨w.heap.size, 3, none⟩ (.slice D k d)) fun e w' => e = .returned (.int .i64 oe) ∧ w4.setCell ⟨w.heap.size, 3, none⟩ (.slice D k d) = w') ∧ MrR w g 0 0 0 [] ⟨#[]⟩ 8 (.returned (.tuple #[msV 0 0 0 none 0 0 ⟨#[]⟩, .int .i64 8])) ((((((w4.setCell ⟨w.heap.size, 3, none⟩ (.slice D k d)).setCell ⟨V1.heap.size, 0, none⟩ (.int .i64 0)).setCell ⟨V1.heap.size, 1, none⟩ (.int .i64 0)).setCell ⟨V1.heap.size, 2, none⟩ (.int .i64 0)).setCell ⟨V1.heap.size, 3, none⟩ (.slice none 0 0)).setCell ⟨V1.heap.size, 4, none⟩ (.string ⟨#[]⟩)))) := by
    refine (onum_any _ g 1 r 0 V OV).mono ?_
    rintro e w3 ⟨rfl, O3, g3⟩
    rw [f1, hz]
    refine ⟨rfl, Lib.hid ?_⟩
    refine (take_any _ g z _ _ w3 O3).mono ?_
    rintro e w4 ⟨v, rfl, o4, O4, g4⟩
    rw [← hz, f2] at O4
    obtain ⟨D, k, d, rfl⟩ := own_sliced o4
    have G3 : w.grownBy w3 (some g) := only_then (only_of_below BV (some g)) g3 (fun q e => .inl e)
    have G4 := gtrans' G3 g4
    have x4 := blk_off (blk_off hm2 g3 (by omega)) g4 (by omega)
    have y4 := blk_off (blk_off h0 g3 (by omega)) g4 (by omega)
    have O5 := O4.newer (gset' w4 w.heap.size 3 (.slice D k d)) (fun q e => by injection e with e; omega)
    have G5 := off_new G4 (gset' w4 w.heap.size 3 (.slice D k d)) (Nat.le_refl _)
    rw [hoe] at O5
    exact ⟨D, k, d, rfl, x4, y4, Lib.hid (err_any _ g _ _ _ O5), off_new G5 (gset5 _ _ _ _ _ _ _) s1, none, 0, 0, rfl, Own.nil _ _⟩
  have c1 : (oe != 0) = true := by rw [← hoe]; simpa using he
  clear hV1 bV1 hm1 hV bV h0 hm2 s1 BV OV hO f1 f2 hBs l0 f3 hz hoe he
  go_enter Tryd.func176, Tryd.ntmps176
  go_wp2_with (first
    | (rw [HV1.out])
    | (rw [HV.out])
    | (go_at_call 42; ((with_reducible refine CF.out.mono ?_); rintro e w3 ⟨rfl, n1⟩; have N2 := Lib.hid n1.out; clear n1))
    | (go_at_call 82; ((with_reducible refine N2.out.mono ?_); rintro e w4 ⟨D, k, d, rfl, x4, y4, EE, TL⟩; have TLH := Lib.hid TL; clear TL; clear m0 m1 m2 m3 m4; have f3 := x4.frozen 3; have lb := Blk.lt x4; have n3 := x4.cell 3; have HX := Lib.hid x4; have HY := Lib.hid y4; clear x4 y4))
    | (go_at_call 43; ((with_reducible refine EE.out.mono ?_); rintro e w' ⟨rfl, rfl⟩; have hr6 := blk_off HY.out (gset' w4 w.heap.size 3 (.slice D k d)) (Nat.ne_of_gt l1); have r0 := hr6.cell 0; have e0 := hr6.frozen 0; have r1 := hr6.cell 1; have e1 := hr6.frozen 1; have r2 := hr6.cell 2; have e2 := hr6.frozen 2; have r3 := hr6.cell 3; have e3 := hr6.frozen 3; have r4 := hr6.cell 4; have e4 := hr6.frozen 4; have lr := Blk.lt hr6; have hb5 := blk5 (x := .int .i64 0) (y := .int .i64 0) (z := .int .i64 0) (u := .slice none 0 0) (v := .string ⟨#[]⟩) hr6; have p0 := hb5.cell 0; have p1 := hb5.cell 1; have p2 := hb5.cell 2; have p3 := hb5.cell 3; have p4 := hb5.cell 4; clear hb5 hr6)))
  exact bodyPost_ret (v := .tuple #[msV 0 0 0 none 0 0 ⟨#[]⟩, .int .i64 8]) (by simp [results, Tryd.results176, go_sem, p0, p1, p2, p3, p4]) rfl TLH.out
theorem pread_zero (C I T : Int) (A : Option Addr) (n c : Nat) (t : ByteArray) (B g : Nat) (r : List UInt8) (w : World) (hO : OctAt w B g r 0) (hg : g < w.heap.size) (he : octE r = 0) (hz0 : octZ r = 0) :
    Calls Tryd.prog 176 #[msV C I T A n c t, .pointer (some ⟨g, 0, none⟩)] w (MrR w g  0 0 0 [] ⟨#[]⟩ 3) := by
  obtain ⟨V1, hV1⟩ : ∃ V1, w.alloc (.cells #[.int .i64 C, .int .i64 I, .int .i64 T, .slice A n c, .string t] 125) = V1 := ⟨_, rfl⟩
  have bV1 : Below w.heap.size w V1 := by rw [← hV1]; exact (Below.refl _ _).alloc (Nat.le_refl _) _
  have hm1 : Blk V1 w.heap.size 125 [.int .i64 C, .int .i64 I, .int .i64 T, .slice A n c, .string t] := by rw [← hV1]; exact heap_alloc_new w _
  obtain ⟨V, hV⟩ : ∃ V, V1.alloc (.cells #[.int .i64 0, .int .i64 0, .int .i64 0, .slice none 0 0, .string ⟨#[]⟩] 26) = V := ⟨_, rfl⟩
  have bV : Below V1.heap.size V1 V := by rw [← hV]; exact (Below.refl _ _).alloc (Nat.le_refl _) _
  have h0 : Blk V V1.heap.size 26 [.int .i64 0, .int .i64 0, .int .i64 0, .slice none 0 0, .string ⟨#[]⟩] := by rw [← hV]; exact heap_alloc_new V1 _
  have hm2 := past_blk hm1 bV
  have s1 := bV1.size
  have l1 := Blk.lt hm1
  have BV := step_to bV1 bV
  have OV := hO.later BV
  have m0 := hm2.cell 0
  have m1 := hm2.cell 1
  have m2 := hm2.cell 2
  have m3 := hm2.cell 3
  have m4 := hm2.cell 4
  have HV1 := Lib.hid hV1
  have HV := Lib.hid hV
  obtain ⟨f1, f2, f3⟩ := oct_facts r
  have hBs := hO.1.size
  have l0 := Blk.lt h0
  have zb : 0 ≤ octZ r ∧ octZ r < 256 := by
    have := rvN_lt r
    unfold octZ
    split <;> omega
  obtain ⟨z, hz⟩ : ∃ z, octZ r = z := ⟨_, rfl⟩
  obtain ⟨oe, hoe⟩ : ∃ oe, octE r = oe := ⟨_, rfl⟩
  rw [hz] at zb
  obtain ⟨zb1, zb2⟩ := zb
  have CF : Hid (Calls Tryd.prog 42 #[.pointer (some ⟨g, 0, none⟩), .int .i64 1] V fun e w3 => e = .returned (.int .u64 z) ∧ Hid (Calls Tryd.prog 82 #[.pointer (some ⟨g, 0, none⟩), .int .i64 z] w3 fun e w4 => ∃ D k d, e = .returned (.slice D k d) ∧ Blk w4 w.heap.size 125 [.int .i64 C, .int .i64 I, .int .i64 T, .slice A n c, .string t] ∧ Blk w4 V1.heap.size 26 [.int .i64 0, .int .i64 0, .int .i64 0, .slice none 0 0, .string ⟨#[]⟩] ∧ Hid (Calls Tryd.prog 43 #[.pointer (some ⟨g, 0, none⟩)] (w4.setCell ⟨w.heap.size, 3, none⟩ (.slice D k d)) fun e w' => e = .returned (.int .i64 oe) ∧ w4.setCell ⟨w.heap.size, 3, none⟩ (.slice D k d) = w') ∧ MrR w g 0 0 0 [] ⟨#[]⟩ 3 (.returned (.tuple #[msV 0 0 0 none 0 0 ⟨#[]⟩, .int .i64 3])) ((((((w4.setCell ⟨w.heap.size, 3, none⟩ (.slice D k d)).setCell ⟨V1.heap.size, 0, none⟩ (.int .i64 0)).setCell ⟨V1.heap.size, 1, none⟩ (.int .i64 0)).setCell ⟨V1.heap.size, 2, none⟩ (.int .i64 0)).setCell ⟨V1.heap.size, 3, none⟩ (.slice none 0 0)).setCell ⟨V1.heap.size, 4, none⟩ (.string ⟨#[]⟩)))) := by
    refine (onum_any _ g 1 r 0 V OV).mono ?_
    rintro e w3 ⟨rfl, O3, g3⟩
    rw [f1, hz]
    refine ⟨rfl, Lib.hid ?_⟩
    refine (take_any _ g z _ _ w3 O3).mono ?_
    rintro e w4 ⟨v, rfl, o4, O4, g4⟩
    rw [← hz, f2] at O4
    obtain ⟨D, k, d, rfl⟩ := own_sliced o4
    have G3 : w.grownBy w3 (some g) := only_then (only_of_below BV (some g)) g3 (fun q e => .inl e)
    have G4 := gtrans' G3 g4
    have x4 := blk_off (blk_off hm2 g3 (by omega)) g4 (by omega)
    have y4 := blk_off (blk_off h0 g3 (by omega)) g4 (by omega)
    have O5 := O4.newer (gset' w4 w.heap.size 3 (.slice D k d)) (fun q e => by injection e with e; omega)
    have G5 := off_new G4 (gset' w4 w.heap.size 3 (.slice D k d)) (Nat.le_refl _)
    rw [hoe] at O5
    exact ⟨D, k, d, rfl, x4, y4, Lib.hid (err_any _ g _ _ _ O5), off_new G5 (gset5 _ _ _ _ _ _ _) s1, none, 0, 0, rfl, Own.nil _ _⟩
  obtain rfl : oe = 0 := hoe.symm.trans he
  obtain rfl : z = 0 := hz.symm.trans hz0
  clear hV1 bV1 hm1 hV bV h0 hm2 s1 BV OV hO f1 f2 hBs l0 f3 hz hoe he hz0
  go_enter Tryd.func176, Tryd.ntmps176
  go_wp2_with (first
    | (rw [HV1.out])
    | (rw [HV.out])
    | (go_at_call 42; ((with_reducible refine CF.out.mono ?_); rintro e w3 ⟨rfl, n1⟩; have N2 := Lib.hid n1.out; clear n1))
    | (go_at_call 82; ((with_reducible refine N2.out.mono ?_); rintro e w4 ⟨D, k, d, rfl, x4, y4, EE, TL⟩; have TLH := Lib.hid TL; clear TL; clear m0 m1 m2 m3 m4; have f3 := x4.frozen 3; have lb := Blk.lt x4; have n3 := x4.cell 3; have HX := Lib.hid x4; have HY := Lib.hid y4; clear x4 y4))
    | (go_at_call 43; ((with_reducible refine EE.out.mono ?_); rintro e w' ⟨rfl, rfl⟩; have hr6 := blk_off HY.out (gset' w4 w.heap.size 3 (.slice D k d)) (Nat.ne_of_gt l1); have r0 := hr6.cell 0; have e0 := hr6.frozen 0; have r1 := hr6.cell 1; have e1 := hr6.frozen 1; have r2 := hr6.cell 2; have e2 := hr6.frozen 2; have r3 := hr6.cell 3; have e3 := hr6.frozen 3; have r4 := hr6.cell 4; have e4 := hr6.frozen 4; have lr := Blk.lt hr6; have hb5 := blk5 (x := .int .i64 0) (y := .int .i64 0) (z := .int .i64 0) (u := .slice none 0 0) (v := .string ⟨#[]⟩) hr6; have p0 := hb5.cell 0; have p1 := hb5.cell 1; have p2 := hb5.cell 2; have p3 := hb5.cell 3; have p4 := hb5.cell 4; clear hb5 hr6)))
  exact bodyPost_ret (v := .tuple #[msV 0 0 0 none 0 0 ⟨#[]⟩, .int .i64 3]) (by simp [results, Tryd.results176, go_sem, p0, p1, p2, p3, p4]) rfl TLH.out
theorem pread_ok (C I T : Int) (A : Option Addr) (n c : Nat) (t : ByteArray) (B g : Nat) (r : List UInt8) (w : World) (hO : OctAt w B g r 0) (hg : g < w.heap.size) (he : octE r = 0) (hz0 : octZ r ≠ 0) :
    Calls Tryd.prog 176 #[msV C I T A n c t, .pointer (some ⟨g, 0, none⟩)] w (MrR w g  C I T (rvV r) (rvS r) 0) := by
  obtain ⟨V1, hV1⟩ : ∃ V1, w.alloc (.cells #[.int .i64 C, .int .i64 I, .int .i64 T, .slice A n c, .string t] 125) = V1 := ⟨_, rfl⟩
  have bV1 : Below w.heap.size w V1 := by rw [← hV1]; exact (Below.refl _ _).alloc (Nat.le_refl _) _
  have hm1 : Blk V1 w.heap.size 125 [.int .i64 C, .int .i64 I, .int .i64 T, .slice A n c, .string t] := by rw [← hV1]; exact heap_alloc_new w _
  obtain ⟨V, hV⟩ : ∃ V, V1.alloc (.cells #[.int .i64 0, .int .i64 0, .int .i64 0, .slice none 0 0, .string ⟨#[]⟩] 26) = V := ⟨_, rfl⟩
  have bV : Below V1.heap.size V1 V := by rw [← hV]; exact (Below.refl _ _).alloc (Nat.le_refl _) _
  have h0 : Blk V V1.heap.size 26 [.int .i64 0, .int .i64 0, .int .i64 0, .slice none 0 0, .string ⟨#[]⟩] := by rw [← hV]; exact heap_alloc_new V1 _
  have hm2 := past_blk hm1 bV
  have s1 := bV1.size
  have l1 := Blk.lt hm1
  have BV := step_to bV1 bV
  have OV := hO.later BV
  have m0 := hm2.cell 0
  have m1 := hm2.cell 1
  have m2 := hm2.cell 2
  have m3 := hm2.cell 3
  have m4 := hm2.cell 4
  have HV1 := Lib.hid hV1
  have HV := Lib.hid hV
  obtain ⟨f1, f2, f3⟩ := oct_facts r
  have hBs := hO.1.size
  have l0 := Blk.lt h0
  have zb : 0 ≤ octZ r ∧ octZ r < 256 := by
    have := rvN_lt r
    unfold octZ
    split <;> omega
  obtain ⟨z, hz⟩ : ∃ z, octZ r = z := ⟨_, rfl⟩
  obtain ⟨oe, hoe⟩ : ∃ oe, octE r = oe := ⟨_, rfl⟩
  rw [hz] at zb
  obtain ⟨zb1, zb2⟩ := zb
  obtain ⟨f4, f5, f6⟩ := f3 he
  have CF : Hid (Calls Tryd.prog 42 #[.pointer (some ⟨g, 0, none⟩), .int .i64 1] V fun e w3 => e = .returned (.int .u64 z) ∧ Hid (Calls Tryd.prog 82 #[.pointer (some ⟨g, 0, none⟩), .int .i64 z] w3 fun e w4 => ∃ D k d, e = .returned (.slice D k d) ∧ Blk w4 w.heap.size 125 [.int .i64 C, .int .i64 I, .int .i64 T, .slice A n c, .string t] ∧ Blk w4 V1.heap.size 26 [.int .i64 0, .int .i64 0, .int .i64 0, .slice none 0 0, .string ⟨#[]⟩] ∧ Hid (Calls Tryd.prog 43 #[.pointer (some ⟨g, 0, none⟩)] (w4.setCell ⟨w.heap.size, 3, none⟩ (.slice D k d)) fun e w' => e = .returned (.int .i64 oe) ∧ w4.setCell ⟨w.heap.size, 3, none⟩ (.slice D k d) = w') ∧ Hid (Calls Tryd.prog 170 #[.pointer (some ⟨g, 0, none⟩)] (w4.setCell ⟨w.heap.size, 3, none⟩ (.slice D k d)) fun e w5 => ∃ D' k' d', e = .returned (.slice D' k' d') ∧ (convert 22 9 (.slice D' k' d')).run Tryd.prog w5 = .ok (.string (rvS r)) w5 ∧ Blk w5 w.heap.size 125 [.int .i64 C, .int .i64 I, .int .i64 T, .slice D k d, .string t] ∧ Blk w5 V1.heap.size 26 [.int .i64 0, .int .i64 0, .int .i64 0, .slice none 0 0, .string ⟨#[]⟩] ∧ MrR w g C I T (rvV r) (rvS r) 0 (.returned (.tuple #[msV C I T D k d (rvS r), .int .i64 0])) ((((((w5.setCell ⟨w.heap.size, 4, none⟩ (.string (rvS r))).setCell ⟨V1.heap.size, 0, none⟩ (.int .i64 C)).setCell ⟨V1.heap.size, 1, none⟩ (.int .i64 I)).setCell ⟨V1.heap.size, 2, none⟩ (.int .i64 T)).setCell ⟨V1.heap.size, 3, none⟩ (.slice D k d)).setCell ⟨V1.heap.size, 4, none⟩ (.string (rvS r)))))) := by
    refine (onum_any _ g 1 r 0 V OV).mono ?_
    rintro e w3 ⟨rfl, O3, g3⟩
    rw [f1, hz]
    refine ⟨rfl, Lib.hid ?_⟩
    refine (take_any _ g z _ _ w3 O3).mono ?_
    rintro e w4 ⟨v, rfl, o4, O4, g4⟩
    rw [← hz, f2] at O4
    obtain ⟨D, k, d, rfl⟩ := own_sliced o4
    have G3 : w.grownBy w3 (some g) := only_then (only_of_below BV (some g)) g3 (fun q e => .inl e)
    have G4 := gtrans' G3 g4
    have x4 := blk_off (blk_off hm2 g3 (by omega)) g4 (by omega)
    have y4 := blk_off (blk_off h0 g3 (by omega)) g4 (by omega)
    have O5 := O4.newer (gset' w4 w.heap.size 3 (.slice D k d)) (fun q e => by injection e with e; omega)
    have G5 := off_new G4 (gset' w4 w.heap.size 3 (.slice D k d)) (Nat.le_refl _)
    refine ⟨D, k, d, rfl, x4, y4, Lib.hid (by rw [hoe] at O5; exact err_any _ g _ _ _ O5), Lib.hid ?_⟩
    rw [hz] at f4
    rw [f5, he] at O5
    refine (rest_c O5).mono ?_
    rintro e w5 ⟨D', k', d', rfl, hcv, g5, o5⟩
    have x5 := blk_off (x4.set_ 3 (.slice D k d)) g5 (by omega)
    have y5 := blk_off (blk_off y4 (gset' w4 w.heap.size 3 (.slice D k d)) (by omega)) g5 (by omega)
    have G6 := gtrans' G5 g5
    have G7 := off_new G6 (gset' w5 w.heap.size 4 (.string (rvS r))) (Nat.le_refl _)
    rw [f4] at o4
    have s3 := G3.size
    have sV := bV.size
    have s33 := g3.size
    have h5 := own_off (own_off o4 (gset' w4 w.heap.size 3 (.slice D k d)) (by omega)) g5 (by omega)
    have h6 := own_off h5 (gset' w5 w.heap.size 4 (.string (rvS r))) (by omega)
    have h7 := own_off h6 (gset5 _ V1.heap.size (.int .i64 C) (.int .i64 I) (.int .i64 T) (.slice D k d) (.string (rvS r))) (by omega)
    exact ⟨D', k', d', rfl, hcv, x5, y5, off_new G7 (gset5 _ _ _ _ _ _ _) s1, D, k, d, rfl, eown_wide h7 s3⟩
  obtain rfl : oe = 0 := hoe.symm.trans he
  have c1 : (z == 0) = false := by rw [← hz]; simpa using hz0
  clear hV1 bV1 hm1 hV bV h0 hm2 s1 BV OV hO f1 f2 hBs l0 f3 f4 f5 f6 hz hoe he hz0
  go_enter Tryd.func176, Tryd.ntmps176
  go_wp2_with (first
    | (rw [HV1.out])
    | (rw [HV.out])
    | (go_at_call 42; ((with_reducible refine CF.out.mono ?_); rintro e w3 ⟨rfl, n1⟩; have N2 := Lib.hid n1.out; clear n1))
    | (go_at_call 82; ((with_reducible refine N2.out.mono ?_); rintro e w4 ⟨D, k, d, rfl, x4, y4, EE, TL⟩; have TLH := Lib.hid TL; clear TL; clear m0 m1 m2 m3 m4; have f3 := x4.frozen 3; have lb := Blk.lt x4; have n3 := x4.cell 3; have HX := Lib.hid x4; have HY := Lib.hid y4; clear x4 y4))
    | (go_at_call 43; ((with_reducible refine EE.out.mono ?_); rintro e w' ⟨rfl, rfl⟩; skip)))
  refine TLH.out.out.mono ?_
  rintro e w5 ⟨D', k', d', rfl, hcv, hb, hz, FN⟩
  have FNH := Lib.hid FN
  clear FN
  clear f3 lb n3 CF N2 EE TLH HX HY
  have hb6 := hb.set_ 4 (.string (rvS r))
  have hr6 := blk_off hz (gset' w5 w.heap.size 4 (.string (rvS r))) (Nat.ne_of_gt l1)
  have n0 := hb.cell 0
  have n1 := hb.cell 1
  have n2 := hb.cell 2
  have n3 := hb.cell 3
  have n4 := hb.cell 4
  have f4 := hb.frozen 4
  have lb := Blk.lt hb
  have m0 := hb6.cell 0
  have m1 := hb6.cell 1
  have m2 := hb6.cell 2
  have m3 := hb6.cell 3
  have m4 := hb6.cell 4
  have r0 := hr6.cell 0
  have e0 := hr6.frozen 0
  have r1 := hr6.cell 1
  have e1 := hr6.frozen 1
  have r2 := hr6.cell 2
  have e2 := hr6.frozen 2
  have r3 := hr6.cell 3
  have e3 := hr6.frozen 3
  have r4 := hr6.cell 4
  have e4 := hr6.frozen 4
  have lr := Blk.lt hr6
  have hb5 := blk5 (x := .int .i64 C) (y := .int .i64 I) (z := .int .i64 T) (u := .slice D k d) (v := .string (rvS r)) hr6
  have p0 := hb5.cell 0
  have p1 := hb5.cell 1
  have p2 := hb5.cell 2
  have p3 := hb5.cell 3
  have p4 := hb5.cell 4
  clear hb6 hr6 hb5 hb hz
  go_wp2
  exact bodyPost_ret (v := .tuple #[msV C I T D k d (rvS r), .int .i64 0]) (by simp [results, Tryd.results176, go_sem, p0, p1, p2, p3, p4]) rfl FNH.out
end Go.Proofs.YtjimoegegigoiaaDoor
namespace Go.Proofs.YtjimoegegigoiaaDoor
open Go.RowKit Go.Shelf
set_option maxRecDepth 100000
set_option maxHeartbeats 800000
set_option linter.unusedSimpArgs false
set_option linter.unusedVariables false

theorem inv_read_verdict (C I T : Int) (A : Option Addr) (n c : Nat) (t : ByteArray) (q : Value) (k : Nat) (W : World) : ((method (k + 1) 119 (msV C I T A n c t) "tether/eap.read").run Tryd.prog W).andThen (fun a w' => (callFunc a.fst #[a.snd, q]).run Tryd.prog w') = .ok (.enter 165 #[msV C I T A n c t, q]) W := by
  kernel_rfl
theorem inv_read_identity (C I T : Int) (A : Option Addr) (n c : Nat) (t : ByteArray) (q : Value) (k : Nat) (W : World) : ((method (k + 1) 122 (msV C I T A n c t) "tether/eap.read").run Tryd.prog W).andThen (fun a w' => (callFunc a.fst #[a.snd, q]).run Tryd.prog w') = .ok (.enter 169 #[msV C I T A n c t, q]) W := by
  kernel_rfl
theorem inv_read_notice (C I T : Int) (A : Option Addr) (n c : Nat) (t : ByteArray) (q : Value) (k : Nat) (W : World) : ((method (k + 1) 123 (msV C I T A n c t) "tether/eap.read").run Tryd.prog W).andThen (fun a w' => (callFunc a.fst #[a.snd, q]).run Tryd.prog w') = .ok (.enter 169 #[msV C I T A n c t, q]) W := by
  kernel_rfl
theorem inv_read_wishes (C I T : Int) (A : Option Addr) (n c : Nat) (t : ByteArray) (q : Value) (k : Nat) (W : World) : ((method (k + 1) 124 (msV C I T A n c t) "tether/eap.read").run Tryd.prog W).andThen (fun a w' => (callFunc a.fst #[a.snd, q]).run Tryd.prog w') = .ok (.enter 173 #[msV C I T A n c t, q]) W := by
  kernel_rfl
theorem inv_read_proof (C I T : Int) (A : Option Addr) (n c : Nat) (t : ByteArray) (q : Value) (k : Nat) (W : World) : ((method (k + 1) 125 (msV C I T A n c t) "tether/eap.read").run Tryd.prog W).andThen (fun a w' => (callFunc a.fst #[a.snd, q]).run Tryd.prog w') = .ok (.enter 176 #[msV C I T A n c t, q]) W := by
  kernel_rfl
theorem inv_read_strange (C I T : Int) (A : Option Addr) (n c : Nat) (t : ByteArray) (q : Value) (k : Nat) (W : World) : ((method (k + 1) 126 (msV C I T A n c t) "tether/eap.read").run Tryd.prog W).andThen (fun a w' => (callFunc a.fst #[a.snd, q]).run Tryd.prog w') = .ok (.enter 179 #[msV C I T A n c t, q]) W := by
  kernel_rfl
def krE (C T : Int) (r : List UInt8) : Int := if tyB C = false then (if r.length = 0 then 0 else 3) else if T = 1 then 0 else if T = 2 then 0 else if T = 3 then (if C = 1 then 90 else if r.length = 0 then 8 else 0) else if T = 4 then (if octE r ≠ 0 then 8 else if octZ r = 0 then 3 else 0) else 0
def krV (C T : Int) (r : List UInt8) : List UInt8 := if tyB C = false then [] else if T = 1 then [] else if T = 2 then [] else if T = 3 then r else if T = 4 then rvV r else r
def krS (C T : Int) (r : List UInt8) : ByteArray := if tyB C = false then ⟨#[]⟩ else if T = 1 then strOf r else if T = 2 then strOf r else if T = 3 then ⟨#[]⟩ else if T = 4 then rvS r else ⟨#[]⟩
def MrZ (w : World) (g : Nat) (C I T : Int) (val : List UInt8) (s : ByteArray) (er : Int) (e : Ending) (w' : World) : Prop :=
  MrR w g (if er = 0 then C else 0) (if er = 0 then I else 0) (if er = 0 then T else 0) (if er = 0 then val else []) (if er = 0 then s else ⟨#[]⟩) er e w'
theorem mrz_ok {w : World} {g : Nat} {C I T : Int} {val : List UInt8} {s : ByteArray} {e : Ending} {w' : World} (h : MrR w g C I T val s 0 e w') : MrZ w g C I T val s 0 e w' := h
theorem mrz_no {w : World} {g : Nat} {C I T : Int} {val : List UInt8} {s : ByteArray} {er : Int} {e : Ending} {w' : World} (h0 : er ≠ 0) (h : MrR w g 0 0 0 [] ⟨#[]⟩ er e w') : MrZ w g C I T val s er e w' := by
  unfold MrZ
  rw [if_neg h0, if_neg h0, if_neg h0, if_neg h0, if_neg h0]
  exact h
theorem kind_read (C I T : Int) (B g : Nat) (r : List UInt8) : ∃ F, (∀ q k W, ((method (k + 1) (knT C T) (msV C I T none 0 0 ⟨#[]⟩) "tether/eap.read").run Tryd.prog W).andThen (fun a w' => (callFunc a.fst #[a.snd, q]).run Tryd.prog w') = .ok (.enter F #[msV C I T none 0 0 ⟨#[]⟩, q]) W) ∧
    ∀ W, OctAt W B g r 0 → g < W.heap.size → Calls Tryd.prog F #[msV C I T none 0 0 ⟨#[]⟩, .pointer (some ⟨g, 0, none⟩)] W (MrZ W g C I T (krV C T r) (krS C T r) (krE C T r)) := by
  unfold knT krE krV krS
  by_cases h0 : tyB C = false
  · rw [if_pos h0, if_pos h0, if_pos h0, if_pos h0]
    refine ⟨_, inv_read_verdict C I T none 0 0 ⟨#[]⟩, fun W hO hg => ?_⟩
    have h := vread_any C I T none 0 0 ⟨#[]⟩ B g r W hO hg rfl rfl rfl
    by_cases hz : r.length = 0
    · rw [if_pos hz]
      rw [if_pos hz, if_pos hz, if_pos hz, if_pos hz, if_pos hz] at h
      exact h.mono fun e w' h => mrz_ok h
    · rw [if_neg hz]
      rw [if_neg hz, if_neg hz, if_neg hz, if_neg hz, if_neg hz] at h
      exact h.mono fun e w' h => mrz_no (by decide) h
  rw [if_neg h0, if_neg h0, if_neg h0, if_neg h0]
  by_cases h1 : T = 1
  · rw [if_pos h1, if_pos h1, if_pos h1, if_pos h1]
    exact ⟨_, inv_read_identity C I T none 0 0 ⟨#[]⟩, fun W hO hg => (wread_any C I T none 0 0 ⟨#[]⟩ B g r W hO hg rfl rfl rfl).mono fun e w' h => mrz_ok h⟩
  rw [if_neg h1, if_neg h1, if_neg h1, if_neg h1]
  by_cases h2 : T = 2
  · rw [if_pos h2, if_pos h2, if_pos h2, if_pos h2]
    exact ⟨_, inv_read_notice C I T none 0 0 ⟨#[]⟩, fun W hO hg => (wread_any C I T none 0 0 ⟨#[]⟩ B g r W hO hg rfl rfl rfl).mono fun e w' h => mrz_ok h⟩
  rw [if_neg h2, if_neg h2, if_neg h2, if_neg h2]
  by_cases h3 : T = 3
  · rw [if_pos h3, if_pos h3, if_pos h3, if_pos h3]
    refine ⟨_, inv_read_wishes C I T none 0 0 ⟨#[]⟩, fun W hO hg => ?_⟩
    by_cases hC : C = 1
    · rw [if_pos hC]
      exact (iread_one C I T none 0 0 ⟨#[]⟩ B g r W hO hg hC).mono fun e w' h => mrz_no (by decide) h
    rw [if_neg hC]
    by_cases hz : r.length = 0
    · rw [if_pos hz]
      exact (iread_none C I T none 0 0 ⟨#[]⟩ B g r W hO hg hC hz).mono fun e w' h => mrz_no (by decide) h
    · rw [if_neg hz]
      exact (iread_ok C I T none 0 0 ⟨#[]⟩ B g r W hO hg hC hz).mono fun e w' h => mrz_ok h
  rw [if_neg h3, if_neg h3, if_neg h3, if_neg h3]
  by_cases h4 : T = 4
  · rw [if_pos h4, if_pos h4, if_pos h4, if_pos h4]
    refine ⟨_, inv_read_proof C I T none 0 0 ⟨#[]⟩, fun W hO hg => ?_⟩
    by_cases he : octE r = 0
    · rw [if_neg (fun h => h he)]
      by_cases hz : octZ r = 0
      · rw [if_pos hz]
        exact (pread_zero C I T none 0 0 ⟨#[]⟩ B g r W hO hg he hz).mono fun e w' h => mrz_no (by decide) h
      · rw [if_neg hz]
        exact (pread_ok C I T none 0 0 ⟨#[]⟩ B g r W hO hg he hz).mono fun e w' h => mrz_ok h
    · rw [if_pos he]
      exact (pread_short C I T none 0 0 ⟨#[]⟩ B g r W hO hg he).mono fun e w' h => mrz_no (by decide) h
  rw [if_neg h4, if_neg h4, if_neg h4, if_neg h4]
  exact ⟨_, inv_read_strange C I T none 0 0 ⟨#[]⟩, fun W hO hg => (sread_any C I T none 0 0 ⟨#[]⟩ B g r W hO hg).mono fun e w' h => mrz_ok h⟩
end Go.Proofs.YtjimoegegigoiaaDoor
namespace Go.Proofs.YtjimoegegigoiaaDoor
open Go.RowKit Go.Shelf
set_option maxRecDepth 100000
set_option maxHeartbeats 800000
set_option linter.unusedSimpArgs false
set_option linter.unusedVariables false

theorem Rd.beside {w w' : World} {B k q t m c : Nat} {A D : Option Addr} {l : List UInt8} {x y z : Int} {s : ByteArray} (h : Rd w B A k l) (hb : Blk w q t [.int .i64 x, .int .i64 y, .int .i64 z, .slice D m c, .string s]) (hB : B ≤ w.heap.size) (hG : w.grownBy w' (some q)) : Rd w' B A k l := by
  refine ⟨h.1, fun h0 => ?_⟩
  obtain ⟨b, off, rfl, hlt, hc⟩ := h.2 h0
  have hne : b ≠ q := by
    rintro rfl
    have h1 := hc 0 h0
    rw [hb.cell] at h1
    rcases (show off = 0 ∨ off = 1 ∨ off = 2 ∨ off = 3 ∨ off = 4 ∨ 5 ≤ off by omega) with rfl | rfl | rfl | rfl | rfl | h2
    · simp at h1
    · simp at h1
    · simp at h1
    · simp at h1
    · simp at h1
    · rw [List.getElem?_eq_none (by simpa using h2)] at h1
      cases h1
  refine ⟨b, off, rfl, hlt, fun j hj => ?_⟩
  rw [World.cell?_of_block (hG.block b (by omega) (by simpa using hne))]
  exact hc j hj
theorem OctAt.beside {w w' : World} {B g q t m c : Nat} {D : Option Addr} {r : List UInt8} {e x y z : Int} {s : ByteArray} (h : OctAt w B g r e) (hb : Blk w q t [.int .i64 x, .int .i64 y, .int .i64 z, .slice D m c, .string s]) (hne : g ≠ q) (hG : w.grownBy w' (some q)) : OctAt w' B g r e := by
  obtain ⟨⟨A, k, c, hr, hrd, h1, h2, h3, h4, h5⟩, h6⟩ := h
  exact ⟨⟨A, k, c, blk_off hr hG hne, hrd.beside hb h5 hG, h1, h2, h3, h4, Nat.le_trans h5 hG.size⟩, h6⟩
def rdE (C I : Int) (l : List UInt8) : Int := if idB I = false then 1 else if cdB C = false then 90 else if tyB C = true then (if l.length < 1 then 8 else krE C (rvN l) (l.drop 1)) else krE C 0 l
def rdT (C : Int) (l : List UInt8) : Int := if tyB C = true then rvN l else 0
def rdR (C : Int) (l : List UInt8) : List UInt8 := if tyB C = true then l.drop 1 else l
/-- a message, or what went wrong -/
def EmR (w : World) (C I T : Int) (val : List UInt8) (s : ByteArray) (er : Int) (e : Ending) (w' : World) : Prop :=
  Below w.heap.size w w' ∧ ∃ D k d, e = .returned (.tuple #[msV C I T D k d s, .int .i64 er]) ∧ Own w' w.heap.size (.slice D k d) val
def EmZ (w : World) (C I T : Int) (val : List UInt8) (s : ByteArray) (er : Int) (e : Ending) (w' : World) : Prop :=
  EmR w (if er = 0 then C else 0) (if er = 0 then I else 0) (if er = 0 then T else 0) (if er = 0 then val else []) (if er = 0 then s else ⟨#[]⟩) er e w'
theorem emz_no {w : World} {C I T : Int} {val : List UInt8} {s : ByteArray} {er : Int} {w' : World} (h0 : er ≠ 0) (h : Below w.heap.size w w') : EmZ w C I T val s er (.returned (.tuple #[msV 0 0 0 none 0 0 ⟨#[]⟩, .int .i64 er])) w' := by
  unfold EmZ
  rw [if_neg h0, if_neg h0, if_neg h0, if_neg h0, if_neg h0]
  exact ⟨h, none, 0, 0, rfl, Own.nil _ _⟩
theorem num_one (l : List UInt8) : nmErr l 0 1 = (if l.length < 1 then 8 else 0) ∧ (¬ l.length < 1 → nmRest l 0 1 = l.drop 1 ∧ nmVal l 0 1 = rvN l) := by
  have he : nmErr l 0 1 = (if l.length < 1 then 8 else 0) := by
    unfold nmErr
    rw [if_neg (by simp), if_neg (by omega)]
    by_cases h : l.length < 1
    · rw [if_pos h, if_pos (by omega)]
    · rw [if_neg h, if_neg (by omega)]
  refine ⟨he, fun h => ?_⟩
  rw [if_neg h] at he
  refine ⟨by unfold nmRest; rw [if_pos he]; rfl, ?_⟩
  have := (oct_facts l).1
  rw [this]
  unfold octZ
  rw [if_neg h]
theorem eread_any (C I : Int) (A : Option Addr) (n c B : Nat) (l : List UInt8) (w : World) (hr : Rd w B A n l) (hB : B ≤ w.heap.size) (hn : n ≤ 140737488351232) :
    Calls Tryd.prog 11 #[.agg #[.int .i64 C, .int .i64 I, .slice A n c]] w (EmZ w C I (rdT C l) (krV C (rdT C l) (rdR C l)) (krS C (rdT C l) (rdR C l)) (rdE C I l)) := by
  obtain ⟨V1, hV1⟩ : ∃ V1, w.alloc (.cells #[.int .i64 C, .int .i64 I, .slice A n c] 24) = V1 := ⟨_, rfl⟩
  have bV1 : Below w.heap.size w V1 := by rw [← hV1]; exact (Below.refl _ _).alloc (Nat.le_refl _) _
  have hm1 : Blk V1 w.heap.size 24 [.int .i64 C, .int .i64 I, .slice A n c] := by rw [← hV1]; exact heap_alloc_new w _
  obtain ⟨V, hV⟩ : ∃ V, V1.alloc (.cells #[.int .i64 0, .int .i64 0, .int .i64 0, .slice none 0 0, .string ⟨#[]⟩] 26) = V := ⟨_, rfl⟩
  have bV : Below V1.heap.size V1 V := by rw [← hV]; exact (Below.refl _ _).alloc (Nat.le_refl _) _
  have h0 : Blk V V1.heap.size 26 [.int .i64 0, .int .i64 0, .int .i64 0, .slice none 0 0, .string ⟨#[]⟩] := by rw [← hV]; exact heap_alloc_new V1 _
  have hm2 := past_blk hm1 bV
  have s1 := bV1.size
  have l1 := Blk.lt hm1
  have l0 := Blk.lt h0
  have BV := step_to bV1 bV
  have k0 := hm2.cell 0
  have k1 := hm2.cell 1
  have k2 := hm2.cell 2
  have HV1 := Lib.hid hV1
  have HV := Lib.hid hV
  have BR := Lib.hid (fun W => byteRight_any I W)
  have CR := Lib.hid (fun W => codeRight_any C W)
  have TY := Lib.hid (fun W => typed_any C W)
  have BE := below_row BV (gset5 V V1.heap.size (.int .i64 0) (.int .i64 0) (.int .i64 0) (.slice none 0 0) (.string ⟨#[]⟩)) s1
  obtain ⟨val, hval⟩ : ∃ val, krV C (rdT C l) (rdR C l) = val := ⟨_, rfl⟩
  obtain ⟨s, hs⟩ : ∃ s, krS C (rdT C l) (rdR C l) = s := ⟨_, rfl⟩
  unfold rdE
  rw [hval, hs]
  cases hi : idB I
  · rw [if_pos rfl]
    rw [hi] at BR
    have FN : Hid (EmZ w C I (rdT C l) val s 1 (.returned (.tuple #[msV 0 0 0 none 0 0 ⟨#[]⟩, .int .i64 1])) (((((V.setCell ⟨V1.heap.size, 0, none⟩ (.int .i64 0)).setCell ⟨V1.heap.size, 1, none⟩ (.int .i64 0)).setCell ⟨V1.heap.size, 2, none⟩ (.int .i64 0)).setCell ⟨V1.heap.size, 3, none⟩ (.slice none 0 0)).setCell ⟨V1.heap.size, 4, none⟩ (.string ⟨#[]⟩))) := emz_no (by decide) BE
    have r0 := h0.cell 0
    have e0 := h0.frozen 0
    have r1 := h0.cell 1
    have e1 := h0.frozen 1
    have r2 := h0.cell 2
    have e2 := h0.frozen 2
    have r3 := h0.cell 3
    have e3 := h0.frozen 3
    have r4 := h0.cell 4
    have e4 := h0.frozen 4
    have lr := Blk.lt h0
    have hb5 := blk5 (x := .int .i64 0) (y := .int .i64 0) (z := .int .i64 0) (u := .slice none 0 0) (v := .string ⟨#[]⟩) h0
    have p0 := hb5.cell 0
    have p1 := hb5.cell 1
    have p2 := hb5.cell 2
    have p3 := hb5.cell 3
    have p4 := hb5.cell 4
    clear hb5 hi hV bV h0 hm2 hm1 hV1 bV1 BV BE hr s1 hval hs l0 l1
    go_enter Tryd.func11, Tryd.ntmps11
    go_wp2_with (first
      | (rw [HV1.out])
      | (rw [HV.out])
      | (go_at_call 38; ((with_reducible refine (BR.out _).mono ?_); rintro e w' ⟨rfl, rfl⟩)))
    exact bodyPost_ret (v := .tuple #[msV 0 0 0 none 0 0 ⟨#[]⟩, .int .i64 1]) (by simp [results, Tryd.results11, go_sem, p0, p1, p2, p3, p4]) rfl FN.out
  rw [if_neg (by simp)]
  rw [hi] at BR
  cases hc : cdB C
  · rw [if_pos rfl]
    rw [hc] at CR
    have FN : Hid (EmZ w C I (rdT C l) val s 90 (.returned (.tuple #[msV 0 0 0 none 0 0 ⟨#[]⟩, .int .i64 90])) (((((V.setCell ⟨V1.heap.size, 0, none⟩ (.int .i64 0)).setCell ⟨V1.heap.size, 1, none⟩ (.int .i64 0)).setCell ⟨V1.heap.size, 2, none⟩ (.int .i64 0)).setCell ⟨V1.heap.size, 3, none⟩ (.slice none 0 0)).setCell ⟨V1.heap.size, 4, none⟩ (.string ⟨#[]⟩))) := emz_no (by decide) BE
    have r0 := h0.cell 0
    have e0 := h0.frozen 0
    have r1 := h0.cell 1
    have e1 := h0.frozen 1
    have r2 := h0.cell 2
    have e2 := h0.frozen 2
    have r3 := h0.cell 3
    have e3 := h0.frozen 3
    have r4 := h0.cell 4
    have e4 := h0.frozen 4
    have lr := Blk.lt h0
    have hb5 := blk5 (x := .int .i64 0) (y := .int .i64 0) (z := .int .i64 0) (u := .slice none 0 0) (v := .string ⟨#[]⟩) h0
    have p0 := hb5.cell 0
    have p1 := hb5.cell 1
    have p2 := hb5.cell 2
    have p3 := hb5.cell 3
    have p4 := hb5.cell 4
    clear hb5 hi hc hV bV h0 hm2 hm1 hV1 bV1 BV BE hr s1 hval hs l0 l1
    go_enter Tryd.func11, Tryd.ntmps11
    go_wp2_with (first
      | (rw [HV1.out])
      | (rw [HV.out])
      | (go_at_call 38; ((with_reducible refine (BR.out _).mono ?_); rintro e w' ⟨rfl, rfl⟩))
      | (go_at_call 39; ((with_reducible refine (CR.out _).mono ?_); rintro e w' ⟨rfl, rfl⟩)))
    exact bodyPost_ret (v := .tuple #[msV 0 0 0 none 0 0 ⟨#[]⟩, .int .i64 90]) (by simp [results, Tryd.results11, go_sem, p0, p1, p2, p3, p4]) rfl FN.out
  rw [if_neg (by simp)]
  rw [hc] at CR
  obtain ⟨M, hM⟩ : ∃ M, V.alloc (.cells #[.int .i64 C, .int .i64 I, .int .i64 0, .slice none 0 0, .string ⟨#[]⟩] 26) = M := ⟨_, rfl⟩
  have bM : Below V.heap.size V M := by rw [← hM]; exact (Below.refl _ _).alloc (Nat.le_refl _) _
  have hmm : Blk M V.heap.size 26 [.int .i64 C, .int .i64 I, .int .i64 0, .slice none 0 0, .string ⟨#[]⟩] := by rw [← hM]; exact heap_alloc_new V _
  have hp := past_blk hm2 bM
  have hz := past_blk h0 bM
  have BM := step_to BV bM
  have lm := Blk.lt hmm
  have sV := bV.size
  have sM := bM.size
  have HM := Lib.hid hM
  have j2 := hp.cell 2
  have j0 := hp.cell 0
  have NR := newreader_any A n c B l M (hr.below (BM.mono hB)) (Nat.le_trans hB BM.size) (by omega)
  cases ht : tyB C
  case false =>
    rw [ht] at TY
    rw [if_neg (by simp)]
    have hT : rdT C l = 0 := by unfold rdT; rw [ht]; simp
    have hR : rdR C l = l := by unfold rdR; rw [ht]; simp
    rw [hT]
    rw [hT, hR] at hval hs
    obtain ⟨er, her⟩ : ∃ er, krE C 0 l = er := ⟨_, rfl⟩
    obtain ⟨kt, hkt⟩ : ∃ kt, knT C 0 = kt := ⟨_, rfl⟩
    rw [her]
    have CF : Hid (Calls Tryd.prog 40 #[.slice A n c] M fun e w2 => ∃ g, e = .returned (.pointer (some ⟨g, 0, none⟩)) ∧ Blk w2 w.heap.size 24 [.int .i64 C, .int .i64 I, .slice A n c] ∧ Blk w2 V.heap.size 26 [.int .i64 C, .int .i64 I, .int .i64 0, .slice none 0 0, .string ⟨#[]⟩] ∧ Hid (Calls Tryd.prog 43 #[.pointer (some ⟨g, 0, none⟩)] w2 fun e w' => e = .returned (.int .i64 0) ∧ w2 = w') ∧ Hid (Calls Tryd.prog 44 #[msV C I 0 none 0 0 ⟨#[]⟩] w2 fun e W4 => e = .returned (.iface kt (msV C I 0 none 0 0 ⟨#[]⟩)) ∧ ∃ F, (∀ q k W, ((method (k + 1) kt (msV C I 0 none 0 0 ⟨#[]⟩) "tether/eap.read").run Tryd.prog W).andThen (fun a w' => (callFunc a.fst #[a.snd, q]).run Tryd.prog w') = .ok (.enter F #[msV C I 0 none 0 0 ⟨#[]⟩, q]) W) ∧ Calls Tryd.prog F #[msV C I 0 none 0 0 ⟨#[]⟩, .pointer (some ⟨g, 0, none⟩)] W4 fun e w5 => ∃ D k d, e = .returned (.tuple #[msV (if er = 0 then C else 0) (if er = 0 then I else 0) (if er = 0 then 0 else 0) D k d (if er = 0 then s else ⟨#[]⟩), .int .i64 er]) ∧ Blk w5 V1.heap.size 26 [.int .i64 0, .int .i64 0, .int .i64 0, .slice none 0 0, .string ⟨#[]⟩] ∧ EmZ w C I 0 val s er (.returned (.tuple #[msV (if er = 0 then C else 0) (if er = 0 then I else 0) (if er = 0 then 0 else 0) D k d (if er = 0 then s else ⟨#[]⟩), .int .i64 er])) (((((w5.setCell ⟨V1.heap.size, 0, none⟩ (.int .i64 (if er = 0 then C else 0))).setCell ⟨V1.heap.size, 1, none⟩ (.int .i64 (if er = 0 then I else 0))).setCell ⟨V1.heap.size, 2, none⟩ (.int .i64 (if er = 0 then 0 else 0))).setCell ⟨V1.heap.size, 3, none⟩ (.slice D k d)).setCell ⟨V1.heap.size, 4, none⟩ (.string (if er = 0 then s else ⟨#[]⟩))))) := by
      refine NR.mono ?_
      rintro e w2 ⟨g, rfl, hg, hgl, b2, hO⟩
      have O2 := hO w2 none (World.grownBy.refl _ _) (fun q e => by cases e)
      have x2 := past_blk hmm b2
      have z2 := past_blk hz b2
      have y2 := past_blk hp b2
      have B2 := step_to BM b2
      obtain ⟨F, hF, hC⟩ := kind_read C I 0 w2.heap.size g l
      rw [hkt] at hF
      refine ⟨g, rfl, y2, x2, Lib.hid (err_any _ g l 0 w2 O2), Lib.hid ?_⟩
      have KO := ekindOf_any C I 0 none 0 0 ⟨#[]⟩ w2
      rw [hkt] at KO
      refine KO.mono ?_
      rintro e w4 ⟨rfl, rfl⟩
      have b4 : Below w2.heap.size w2 (w2.alloc (.cells #[.int .i64 C, .int .i64 I, .int .i64 0, .slice none 0 0, .string ⟨#[]⟩] 26)) := (Below.refl _ _).alloc (Nat.le_refl _) _
      generalize w2.alloc (.cells #[.int .i64 C, .int .i64 I, .int .i64 0, .slice none 0 0, .string ⟨#[]⟩] 26) = W4 at b4 ⊢
      have s4 := b4.size
      refine ⟨rfl, F, hF, ?_⟩
      have hc2 := hC W4 (O2.later b4) (by omega)
      rw [hval, hs, her] at hc2
      refine hc2.mono ?_
      rintro e w5 ⟨g5, D, k, d, rfl, ho⟩
      have B4 := step_to B2 b4
      have z5 := blk_off (past_blk z2 b4) g5 (by omega)
      refine ⟨D, k, d, rfl, z5, below_row (below_row B4 g5 (by omega)) (gset5 _ _ _ _ _ _ _) s1, D, k, d, rfl, ?_⟩
      exact eown_wide (own_off ho (gset5 _ V1.heap.size _ _ _ _ _) (by omega)) B4.size
    clear hi hc ht hV bV h0 hm2 hm1 hV1 bV1 BV BE hr hval hs hM bM hp hz BM NR her hkt hT hR k2
    go_enter Tryd.func11, Tryd.ntmps11
    go_wp2_with (first
      | (rw [HV1.out])
      | (rw [HV.out])
      | (rw [HM.out])
      | (go_at_call 38; ((with_reducible refine (BR.out _).mono ?_); rintro e w' ⟨rfl, rfl⟩))
      | (go_at_call 39; ((with_reducible refine (CR.out _).mono ?_); rintro e w' ⟨rfl, rfl⟩))
      | (go_at_call 40; ((with_reducible refine CF.out.mono ?_); rintro e w2 ⟨g, rfl, y2, x2, EE, n1⟩; have N1 := Lib.hid n1.out; clear n1; have i0 := y2.cell 0; have m0 := x2.cell 0; have m1 := x2.cell 1; have m2 := x2.cell 2; have m3 := x2.cell 3; have m4 := x2.cell 4; clear x2 y2))
      | (go_at_call 41; ((with_reducible refine (TY.out _).mono ?_); rintro e w' ⟨rfl, rfl⟩))
      | (go_at_call 43; ((with_reducible refine EE.out.mono ?_); rintro e w' ⟨rfl, rfl⟩)))
    refine N1.out.mono ?_
    rintro e W4 ⟨rfl, F, hF, CG⟩
    have FH := Lib.hid hF
    have CGH := Lib.hid CG
    clear hF CG
    go_wp2
    rw [FH.out]
    go_wp2_with fail
    refine CGH.out.mono ?_
    rintro e w5 ⟨D, k, d, rfl, z5, FN⟩
    have FNH := Lib.hid FN
    clear FN FH CGH N1 CF
    obtain ⟨q0, hq0⟩ : ∃ x, (if er = 0 then C else 0) = x := ⟨_, rfl⟩
    obtain ⟨q1, hq1⟩ : ∃ x, (if er = 0 then I else 0) = x := ⟨_, rfl⟩
    obtain ⟨q2, hq2⟩ : ∃ x : Int, (if er = 0 then 0 else 0) = x := ⟨_, rfl⟩
    obtain ⟨q3, hq3⟩ : ∃ x, (if er = 0 then s else ⟨#[]⟩) = x := ⟨_, rfl⟩
    rw [hq0, hq1, hq2, hq3] at FNH
    rw [hq0, hq1, hq2, hq3]
    clear hq0 hq1 hq2 hq3
    have r0 := z5.cell 0
    have e0 := z5.frozen 0
    have r1 := z5.cell 1
    have e1 := z5.frozen 1
    have r2 := z5.cell 2
    have e2 := z5.frozen 2
    have r3 := z5.cell 3
    have e3 := z5.frozen 3
    have r4 := z5.cell 4
    have e4 := z5.frozen 4
    have lr := Blk.lt z5
    have hb5 := blk5 (x := .int .i64 q0) (y := .int .i64 q1) (z := .int .i64 q2) (u := .slice D k d) (v := .string q3) z5
    have p0 := hb5.cell 0
    have p1 := hb5.cell 1
    have p2 := hb5.cell 2
    have p3 := hb5.cell 3
    have p4 := hb5.cell 4
    clear hb5 z5
    go_wp2
    exact bodyPost_ret (v := .tuple #[msV q0 q1 q2 D k d q3, .int .i64 er]) (by simp [results, Tryd.results11, go_sem, p0, p1, p2, p3, p4]) rfl FNH.out
  case true =>
    rw [ht] at TY
    rw [if_pos rfl]
    obtain ⟨hn1, hn2⟩ := num_one l
    obtain ⟨z, hzv⟩ : ∃ z, nmVal l 0 1 = z := ⟨_, rfl⟩
    have zb : 0 ≤ z ∧ z < 256 := by
      rw [← hzv, (oct_facts l).1]
      have := rvN_lt l
      unfold octZ
      split <;> omega
    obtain ⟨zb1, zb2⟩ := zb
    by_cases hle : l.length < 1
    · rw [if_pos hle]
      rw [if_pos hle] at hn1
      have hrest := hn2
      have CF : Hid (Calls Tryd.prog 40 #[.slice A n c] M fun e w2 => ∃ g, e = .returned (.pointer (some ⟨g, 0, none⟩)) ∧ Blk w2 w.heap.size 24 [.int .i64 C, .int .i64 I, .slice A n c] ∧ Hid (Calls Tryd.prog 42 #[.pointer (some ⟨g, 0, none⟩), .int .i64 1] w2 fun e w3 => e = .returned (.int .u64 z) ∧ Blk w3 V.heap.size 26 [.int .i64 C, .int .i64 I, .int .i64 0, .slice none 0 0, .string ⟨#[]⟩] ∧ Hid (∀ W, (w3.setCell ⟨V.heap.size, 2, none⟩ (.int .i64 z)) = W → Calls Tryd.prog 43 #[.pointer (some ⟨g, 0, none⟩)] W fun e w' => e = .returned (.int .i64 8) ∧ W = w') ∧ Blk (w3.setCell ⟨V.heap.size, 2, none⟩ (.int .i64 z)) V1.heap.size 26 [.int .i64 0, .int .i64 0, .int .i64 0, .slice none 0 0, .string ⟨#[]⟩] ∧ EmZ w C I (rdT C l) val s 8 (.returned (.tuple #[msV 0 0 0 none 0 0 ⟨#[]⟩, .int .i64 8])) ((((((w3.setCell ⟨V.heap.size, 2, none⟩ (.int .i64 z)).setCell ⟨V1.heap.size, 0, none⟩ (.int .i64 0)).setCell ⟨V1.heap.size, 1, none⟩ (.int .i64 0)).setCell ⟨V1.heap.size, 2, none⟩ (.int .i64 0)).setCell ⟨V1.heap.size, 3, none⟩ (.slice none 0 0)).setCell ⟨V1.heap.size, 4, none⟩ (.string ⟨#[]⟩)))) := by
        refine NR.mono ?_
        rintro e w2 ⟨g, rfl, hg, hgl, b2, hO⟩
        have O2 := hO w2 none (World.grownBy.refl _ _) (fun q e => by cases e)
        have x2 := past_blk hmm b2
        have z2 := past_blk hz b2
        have y2 := past_blk hp b2
        have B2 := step_to BM b2
        refine ⟨g, rfl, y2, Lib.hid ((onum_any _ g 1 l 0 w2 O2).mono ?_)⟩
        rintro e w3 ⟨rfl, O3, g3⟩
        rw [hzv]
        have x3 := blk_off x2 g3 (by omega)
        have z3 := blk_off z2 g3 (by omega)
        have B3 := below_row B2 g3 (by omega)
        have O4 := O3.beside x3 (by omega) (gset' w3 V.heap.size 2 (.int .i64 z))
        have B4 := below_row B3 (gset' w3 V.heap.size 2 (.int .i64 z)) (by omega)
        have z4 := blk_off z3 (gset' w3 V.heap.size 2 (.int .i64 z)) (by omega)
        have x4 := x3.set_ 2 (.int .i64 z)
        rw [hn1] at O4
        exact ⟨rfl, x3, Lib.hid (fun W e => e ▸ err_any _ g _ _ _ O4), z4, emz_no (by decide) (below_row B4 (gset5 _ _ _ _ _ _ _) s1)⟩
      clear hi hc ht hV bV h0 hm2 hm1 hV1 bV1 BV BE hr hval hs hM bM hp hz BM NR k2 hzv hle hn1 hrest hn2
      go_enter Tryd.func11, Tryd.ntmps11
      go_wp2_with (first
        | (rw [HV1.out])
        | (rw [HV.out])
        | (rw [HM.out])
        | (go_at_call 38; ((with_reducible refine (BR.out _).mono ?_); rintro e w' ⟨rfl, rfl⟩))
        | (go_at_call 39; ((with_reducible refine (CR.out _).mono ?_); rintro e w' ⟨rfl, rfl⟩))
        | (go_at_call 40; ((with_reducible refine CF.out.mono ?_); rintro e w2 ⟨g, rfl, y2, n1⟩; have N0 := Lib.hid n1.out; clear n1; have i0 := y2.cell 0; clear y2))
        | (go_at_call 41; ((with_reducible refine (TY.out _).mono ?_); rintro e w' ⟨rfl, rfl⟩))
        | (go_at_call 42; ((with_reducible refine N0.out.mono ?_); rintro e w3 ⟨rfl, x3, EE, z4, FN⟩; have FNH := Lib.hid FN; clear FN; have f2 := x3.frozen 2; have n2 := x3.cell 2; have lb := Blk.lt x3; have r0 := z4.cell 0; have e0 := z4.frozen 0; have r1 := z4.cell 1; have e1 := z4.frozen 1; have r2 := z4.cell 2; have e2 := z4.frozen 2; have r3 := z4.cell 3; have e3 := z4.frozen 3; have r4 := z4.cell 4; have e4 := z4.frozen 4; have lr := Blk.lt z4; have hb5 := blk5 (x := .int .i64 0) (y := .int .i64 0) (z := .int .i64 0) (u := .slice none 0 0) (v := .string ⟨#[]⟩) z4; have p0 := hb5.cell 0; have p1 := hb5.cell 1; have p2 := hb5.cell 2; have p3 := hb5.cell 3; have p4 := hb5.cell 4; clear hb5 x3 z4))
        | (go_at_call 43; ((with_reducible refine (EE.out _ rfl).mono ?_); rintro e w' ⟨rfl, rfl⟩)))
      exact bodyPost_ret (v := .tuple #[msV 0 0 0 none 0 0 ⟨#[]⟩, .int .i64 8]) (by simp [results, Tryd.results11, go_sem, p0, p1, p2, p3, p4]) rfl FNH.out
    rw [if_neg hle]
    rw [if_neg hle] at hn1
    obtain ⟨hrest, hzz⟩ := hn2 hle
    have hT : rdT C l = z := by unfold rdT; rw [ht, ← hzv, hzz]; simp
    have hR : rdR C l = l.drop 1 := by unfold rdR; rw [ht]; simp
    rw [hT]
    rw [hT, hR] at hval hs
    rw [← hzz, hzv]
    obtain ⟨er, her⟩ : ∃ er, krE C z (l.drop 1) = er := ⟨_, rfl⟩
    obtain ⟨kt, hkt⟩ : ∃ kt, knT C z = kt := ⟨_, rfl⟩
    rw [her]
    have CF : Hid (Calls Tryd.prog 40 #[.slice A n c] M fun e w2 => ∃ g, e = .returned (.pointer (some ⟨g, 0, none⟩)) ∧ Blk w2 w.heap.size 24 [.int .i64 C, .int .i64 I, .slice A n c] ∧ Hid (Calls Tryd.prog 42 #[.pointer (some ⟨g, 0, none⟩), .int .i64 1] w2 fun e w3 => e = .returned (.int .u64 z) ∧ Blk w3 V.heap.size 26 [.int .i64 C, .int .i64 I, .int .i64 0, .slice none 0 0, .string ⟨#[]⟩] ∧ Hid (Calls Tryd.prog 43 #[.pointer (some ⟨g, 0, none⟩)] (w3.setCell ⟨V.heap.size, 2, none⟩ (.int .i64 z)) fun e w' => e = .returned (.int .i64 0) ∧ (w3.setCell ⟨V.heap.size, 2, none⟩ (.int .i64 z)) = w') ∧ Hid (Calls Tryd.prog 44 #[msV C I z none 0 0 ⟨#[]⟩] (w3.setCell ⟨V.heap.size, 2, none⟩ (.int .i64 z)) fun e W4 => e = .returned (.iface kt (msV C I z none 0 0 ⟨#[]⟩)) ∧ ∃ F, (∀ q k W, ((method (k + 1) kt (msV C I z none 0 0 ⟨#[]⟩) "tether/eap.read").run Tryd.prog W).andThen (fun a w' => (callFunc a.fst #[a.snd, q]).run Tryd.prog w') = .ok (.enter F #[msV C I z none 0 0 ⟨#[]⟩, q]) W) ∧ Calls Tryd.prog F #[msV C I z none 0 0 ⟨#[]⟩, .pointer (some ⟨g, 0, none⟩)] W4 fun e w5 => ∃ D k d, e = .returned (.tuple #[msV (if er = 0 then C else 0) (if er = 0 then I else 0) (if er = 0 then z else 0) D k d (if er = 0 then s else ⟨#[]⟩), .int .i64 er]) ∧ Blk w5 V1.heap.size 26 [.int .i64 0, .int .i64 0, .int .i64 0, .slice none 0 0, .string ⟨#[]⟩] ∧ EmZ w C I z val s er (.returned (.tuple #[msV (if er = 0 then C else 0) (if er = 0 then I else 0) (if er = 0 then z else 0) D k d (if er = 0 then s else ⟨#[]⟩), .int .i64 er])) (((((w5.setCell ⟨V1.heap.size, 0, none⟩ (.int .i64 (if er = 0 then C else 0))).setCell ⟨V1.heap.size, 1, none⟩ (.int .i64 (if er = 0 then I else 0))).setCell ⟨V1.heap.size, 2, none⟩ (.int .i64 (if er = 0 then z else 0))).setCell ⟨V1.heap.size, 3, none⟩ (.slice D k d)).setCell ⟨V1.heap.size, 4, none⟩ (.string (if er = 0 then s else ⟨#[]⟩)))))) := by
      refine NR.mono ?_
      rintro e w2 ⟨g, rfl, hg, hgl, b2, hO⟩
      have O2 := hO w2 none (World.grownBy.refl _ _) (fun q e => by cases e)
      have x2 := past_blk hmm b2
      have z2 := past_blk hz b2
      have y2 := past_blk hp b2
      have B2 := step_to BM b2
      refine ⟨g, rfl, y2, Lib.hid ((onum_any _ g 1 l 0 w2 O2).mono ?_)⟩
      rintro e w3 ⟨rfl, O3, g3⟩
      rw [hzv]
      have x3 := blk_off x2 g3 (by omega)
      have z3 := blk_off z2 g3 (by omega)
      have B3 := below_row B2 g3 (by omega)
      have O4 := O3.beside x3 (by omega) (gset' w3 V.heap.size 2 (.int .i64 z))
      have B4 := below_row B3 (gset' w3 V.heap.size 2 (.int .i64 z)) (by omega)
      have z4 := blk_off z3 (gset' w3 V.heap.size 2 (.int .i64 z)) (by omega)
      have x4 := x3.set_ 2 (.int .i64 z)
      rw [hn1, hrest] at O4
      have l4 := Blk.lt x4
      generalize w3.setCell ⟨V.heap.size, 2, none⟩ (.int .i64 z) = W3 at O4 B4 z4 x4 l4 ⊢
      have sg : w2.heap.size ≤ W3.heap.size := O4.1.size
      obtain ⟨F, hF, hC⟩ := kind_read C I z w2.heap.size g (l.drop 1)
      rw [hkt] at hF
      refine ⟨rfl, x3, Lib.hid (err_any _ g _ 0 W3 O4), Lib.hid ?_⟩
      have KO := ekindOf_any C I z none 0 0 ⟨#[]⟩ W3
      rw [hkt] at KO
      refine KO.mono ?_
      rintro e w4 ⟨rfl, rfl⟩
      have b4 : Below W3.heap.size W3 (W3.alloc (.cells #[.int .i64 C, .int .i64 I, .int .i64 z, .slice none 0 0, .string ⟨#[]⟩] 26)) := (Below.refl _ _).alloc (Nat.le_refl _) _
      generalize W3.alloc (.cells #[.int .i64 C, .int .i64 I, .int .i64 z, .slice none 0 0, .string ⟨#[]⟩] 26) = W4 at b4 ⊢
      have s4 := b4.size
      refine ⟨rfl, F, hF, ?_⟩
      have hc2 := hC W4 (O4.later b4) (by omega)
      rw [hval, hs, her] at hc2
      refine hc2.mono ?_
      rintro e w5 ⟨g5, D, k, d, rfl, ho⟩
      have B5 := step_to B4 b4
      have z5 := blk_off (past_blk z4 b4) g5 (by omega)
      refine ⟨D, k, d, rfl, z5, below_row (below_row B5 g5 (by omega)) (gset5 _ _ _ _ _ _ _) s1, D, k, d, rfl, ?_⟩
      exact eown_wide (own_off ho (gset5 _ V1.heap.size _ _ _ _ _) (by omega)) B5.size
    clear hi hc ht hV bV h0 hm2 hm1 hV1 bV1 BV BE hr hval hs hM bM hp hz BM NR k2 hzv hle hn1 hrest hn2 her hkt hT hR hzz
    go_enter Tryd.func11, Tryd.ntmps11
    go_wp2_with (first
      | (rw [HV1.out])
      | (rw [HV.out])
      | (rw [HM.out])
      | (go_at_call 38; ((with_reducible refine (BR.out _).mono ?_); rintro e w' ⟨rfl, rfl⟩))
      | (go_at_call 39; ((with_reducible refine (CR.out _).mono ?_); rintro e w' ⟨rfl, rfl⟩))
      | (go_at_call 40; ((with_reducible refine CF.out.mono ?_); rintro e w2 ⟨g, rfl, y2, n1⟩; have N0 := Lib.hid n1.out; clear n1; have i0 := y2.cell 0; clear y2))
      | (go_at_call 41; ((with_reducible refine (TY.out _).mono ?_); rintro e w' ⟨rfl, rfl⟩))
      | (go_at_call 42; ((with_reducible refine N0.out.mono ?_); rintro e w3 ⟨rfl, x3, EE, n1⟩; have N1 := Lib.hid n1.out; clear n1; have f2 := x3.frozen 2; have n2 := x3.cell 2; have lb := Blk.lt x3; have x4 := x3.set_ 2 (.int .i64 z); have m0 := x4.cell 0; have m1 := x4.cell 1; have m2 := x4.cell 2; have m3 := x4.cell 3; have m4 := x4.cell 4; clear x3 x4))
      | (go_at_call 43; ((with_reducible refine EE.out.mono ?_); rintro e w' ⟨rfl, rfl⟩)))
    refine N1.out.mono ?_
    rintro e W4 ⟨rfl, F, hF, CG⟩
    have FH := Lib.hid hF
    have CGH := Lib.hid CG
    clear hF CG
    go_wp2
    rw [FH.out]
    go_wp2_with fail
    refine CGH.out.mono ?_
    rintro e w5 ⟨D, k, d, rfl, z5, FN⟩
    have FNH := Lib.hid FN
    clear FN FH CGH N1 CF
    obtain ⟨q0, hq0⟩ : ∃ x, (if er = 0 then C else 0) = x := ⟨_, rfl⟩
    obtain ⟨q1, hq1⟩ : ∃ x, (if er = 0 then I else 0) = x := ⟨_, rfl⟩
    obtain ⟨q2, hq2⟩ : ∃ x : Int, (if er = 0 then z else 0) = x := ⟨_, rfl⟩
    obtain ⟨q3, hq3⟩ : ∃ x, (if er = 0 then s else ⟨#[]⟩) = x := ⟨_, rfl⟩
    rw [hq0, hq1, hq2, hq3] at FNH
    rw [hq0, hq1, hq2, hq3]
    clear hq0 hq1 hq2 hq3
    have r0 := z5.cell 0
    have e0 := z5.frozen 0
    have r1 := z5.cell 1
    have e1 := z5.frozen 1
    have r2 := z5.cell 2
    have e2 := z5.frozen 2
    have r3 := z5.cell 3
    have e3 := z5.frozen 3
    have r4 := z5.cell 4
    have e4 := z5.frozen 4
    have lr := Blk.lt z5
    have hb5 := blk5 (x := .int .i64 q0) (y := .int .i64 q1) (z := .int .i64 q2) (u := .slice D k d) (v := .string q3) z5
    have p0 := hb5.cell 0
    have p1 := hb5.cell 1
    have p2 := hb5.cell 2
    have p3 := hb5.cell 3
    have p4 := hb5.cell 4
    clear hb5 z5
    go_wp2
    exact bodyPost_ret (v := .tuple #[msV q0 q1 q2 D k d q3, .int .i64 er]) (by simp [results, Tryd.results11, go_sem, p0, p1, p2, p3, p4]) rfl FNH.out
end Go.Proofs.YtjimoegegigoiaaDoor
