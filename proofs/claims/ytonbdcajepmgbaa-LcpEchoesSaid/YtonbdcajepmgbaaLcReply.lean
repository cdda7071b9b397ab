/-
  lcp.Reply, Rejected; tetherref11.Reply, Rejected.
-/
import Derived.Test.YtonbdcajepmgbaaLcOptions
import Derived.Test.YtonbdcajepmgbaaLcRef
namespace Go.Proofs.Ytonbdcajepmgbaa
open Go.RowKit
set_option maxRecDepth 100000
set_option maxHeartbeats 2000000
set_option linter.unusedSimpArgs false
set_option linter.unusedVariables false

theorem isb_yes (n : Int) (w : World) (h : 0 ≤ n ∧ n ≤ 255) : Calls Try.prog 113 #[.int .i64 n] w fun e w' => e = .returned (.bool true) ∧ w = w' := by
  obtain ⟨h1, h2⟩ := h
  go_enter Try.func113, Try.ntmps113
  go_wp2
  go_ret
  exact ⟨by simp [h1, h2], rfl⟩
theorem isb_no (n : Int) (w : World) (h : ¬ (0 ≤ n ∧ n ≤ 255)) : Calls Try.prog 113 #[.int .i64 n] w fun e w' => e = .returned (.bool false) ∧ w = w' := by
  by_cases h0 : 0 ≤ n
  · have h1 : ¬ n ≤ 255 := by omega
    have d1 : decide (n ≤ 255) = false := decide_eq_false h1
    clear h
    go_enter Try.func113, Try.ntmps113
    go_wp2
    go_ret
    exact ⟨by simp [h0, d1], rfl⟩
  · have d0 : decide (0 ≤ n) = false := decide_eq_false h0
    clear h
    go_enter Try.func113, Try.ntmps113
    go_wp2
    go_ret
    exact ⟨by simp [d0], rfl⟩
def okB (C : Int) : Prop := 0 ≤ C ∧ C ≤ 255
instance (C : Int) : Decidable (okB C) := by unfold okB; infer_instance
/-- a reply's error, and the packet -/
def rpE (C I : Int) (n : Nat) : Int := if okB C ∧ okB I then if 16376 < n then 4 else 0 else 90
def rpC (C I : Int) (n : Nat) : Int := if rpE C I n = 0 then C else 0
def rpI (C I : Int) (n : Nat) : Int := if rpE C I n = 0 then I else 0
def rpL (C I m : Int) (l : List UInt8) : List UInt8 := if rpE C I l.length = 0 then putB m.toNat 4 ++ l else []
theorem rpE_bad {C I : Int} {n : Nat} (h : ¬ (okB C ∧ okB I)) : rpE C I n = 90 := if_neg h
theorem rpE_big {C I : Int} {n : Nat} (h : okB C ∧ okB I) (hn : 16376 < n) : rpE C I n = 4 := by unfold rpE; rw [if_pos h, if_pos hn]
theorem rpE_ok {C I : Int} {n : Nat} (h : okB C ∧ okB I) (hn : ¬ 16376 < n) : rpE C I n = 0 := by unfold rpE; rw [if_pos h, if_neg hn]
def ReplyPost (w : World) (C I m : Int) (l : List UInt8) (e : Ending) (w' : World) : Prop :=
  ∃ D k d, e = .returned (.tuple #[.agg #[.int .i64 (rpC C I l.length), .int .i64 (rpI C I l.length), .slice D k d], .int .i64 (rpE C I l.length)]) ∧ Own w' w.heap.size (.slice D k d) (rpL C I m l) ∧ Below w.heap.size w w'
theorem reply_no {w w' : World} {C I m : Int} {l : List UInt8} {E : Int} (h : rpE C I l.length = E) (hE : E ≠ 0) (hB : Below w.heap.size w w') :
    ReplyPost w C I m l (.returned (.tuple #[.agg #[.int .i64 0, .int .i64 0, .slice none 0 0], .int .i64 E])) w' := by
  subst h
  exact ⟨none, 0, 0, by unfold rpC rpI; rw [if_neg hE, if_neg hE], by unfold rpL; rw [if_neg hE]; exact Own.nil _ _, hB⟩
theorem reply_well {w w' : World} {C I m : Int} {l : List UInt8} (h : rpE C I l.length = 0) {D : Option Addr} {k d : Nat} (ho : Own w' w.heap.size (.slice D k d) (putB m.toNat 4 ++ l)) (hB : Below w.heap.size w w') :
    ReplyPost w C I m l (.returned (.tuple #[.agg #[.int .i64 C, .int .i64 I, .slice D k d], .int .i64 0])) w' :=
  ⟨D, k, d, by unfold rpC rpI; rw [if_pos h, if_pos h, h], by unfold rpL; rw [if_pos h]; exact ho, hB⟩
/-- a packet's three cells set -/
def set3 (W : World) (g : Nat) (a b c : Value) : World := ((W.setCell ⟨g, 0, none⟩ a).setCell ⟨g, 1, none⟩ b).setCell ⟨g, 2, none⟩ c
theorem set3_grown (W : World) (g : Nat) (a b c : Value) : W.grownBy (set3 W g a b c) (some g) := by
  unfold set3
  refine only_then (only_then (only_set (p := ⟨g, 0, none⟩) _) (only_set (p := ⟨g, 1, none⟩) _) ?_) (only_set (p := ⟨g, 2, none⟩) _) ?_
  all_goals exact fun q e => .inl e
theorem set3_below {w W : World} {g B : Nat} (h : Below B w W) (hg : B ≤ g) (a b c : Value) : Below B w (set3 W g a b c) := ((h.setCell hg _).setCell hg _).setCell hg _
theorem set3_own {W : World} {g : Nat} {v : Value} {l : List UInt8} (h : Own W (g + 1) v l) (a b c : Value) : Own (set3 W g a b c) g v l := by
  refine (h.grown (set3_grown W g a b c) ?_).base_le (by omega)
  rcases hv : v.ownBlock with _ | q
  · exact .inl rfl
  · exact .inr (fun e => by injection e with e; have := (h.block q hv).1; omega)
theorem reply_any (C I m : Int) (A : Option Addr) (n c B : Nat) (l : List UInt8) (w : World) (hr : Rd w B A n l) (hB : B ≤ w.heap.size) (hnil : A = none → c = 0) (hn : n ≤ 140737488351232) (hm0 : 0 ≤ m) (hm1 : m < 4294967296) :
    Calls Try.prog 57 #[.int .i64 C, .int .i64 I, .int .u32 m, .slice A n c] w fun e w' => ReplyPost w C I m l e w' := by
  have hl := hr.1
  have hzv : ∀ W, (zeroValue 54).run Try.prog W = .ok (.agg #[.int .i64 0, .int .i64 0, .slice none 0 0]) W := fun W => by kernel_rfl
  by_cases hC : okB C
  · by_cases hI : okB I
    · by_cases hbig : 16376 < n
      · have E := Lib.hid (rpE_big ⟨hC, hI⟩ (show 16376 < l.length by omega))
        have hbig' : (16376 : Int) < n := by omega
        have HC := Lib.hid (show 0 ≤ C ∧ C ≤ 255 from hC)
        have HI := Lib.hid (show 0 ≤ I ∧ I ≤ 255 from hI)
        clear hr hC hI hl
        go_enter Try.func57, Try.ntmps57
        go_wp2_with (first
          | (go_at_call 113; ((with_reducible refine (isb_yes C _ HC.out).mono ?_); rintro e w' ⟨rfl, rfl⟩))
          | (go_at_call 113; ((with_reducible refine (isb_yes I _ HI.out).mono ?_); rintro e w' ⟨rfl, rfl⟩)))
        exact bodyPost_ret (v := .tuple #[.agg #[.int .i64 0, .int .i64 0, .slice none 0 0], .int .i64 4]) (by simp [results, Try.results57, go_sem]) rfl (reply_no E.out (by decide) ((Below.refl _ _).alloc (Nat.le_refl _) _))
      · have E := Lib.hid (rpE_ok ⟨hC, hI⟩ (show ¬ 16376 < l.length by omega))
        have hbig' : ¬ (16376 : Int) < n := by omega
        have HC := Lib.hid (show 0 ≤ C ∧ C ≤ 255 from hC)
        have HI := Lib.hid (show 0 ≤ I ∧ I ≤ 255 from hI)
        have LO : Hid (Calls Try.prog 101 #[.int .u64 m, .int .i64 4] (w.alloc (.cells #[.int .i64 0, .int .i64 0, .slice none 0 0] 54)) fun e w1 => ∃ g, e = .returned (.slice (some ⟨g, 0, none⟩) 4 4) ∧ ∃ F k f w2, (Builtin.append_ #[52, 52] 52 #[.slice (some ⟨g, 0, none⟩) 4 4, .slice A n c]).run Try.prog w1 = .ok (.slice F k f) w2 ∧
            Own w2 (w.heap.size + 1) (.slice F k f) (putB m.toNat 4 ++ l) ∧ Below w.heap.size w w2 ∧ Blk w2 w.heap.size 54 [.int .i64 0, .int .i64 0, .slice none 0 0]) := by
          have B0 : Below w.heap.size w (w.alloc (.cells #[.int .i64 0, .int .i64 0, .slice none 0 0] 54)) := (Below.refl _ _).alloc (Nat.le_refl _) _
          have s0 : (w.alloc (.cells #[.int .i64 0, .int .i64 0, .slice none 0 0] 54)).heap.size = w.heap.size + 1 := by simp
          have k0 := blk_new w 54 [.int .i64 0, .int .i64 0, .slice none 0 0]
          obtain ⟨W0, hW0⟩ : ∃ W, W = w.alloc (.cells #[.int .i64 0, .int .i64 0, .slice none 0 0] 54) := ⟨_, rfl⟩
          have k0' : Blk W0 w.heap.size 54 [.int .i64 0, .int .i64 0, .slice none 0 0] := by rw [hW0]; exact k0
          rw [← hW0] at B0 s0 ⊢
          clear k0 hW0
          refine (low4_any m W0 hm0 (by omega)).mono ?_
          rintro e w1 ⟨rfl, ho, hb⟩
          have s1 := hb.size
          have B1 := B0.trans (hb.mono (by omega))
          obtain ⟨v, w2, r2, o2, g2, _⟩ := append_run ho c (hr.below (B1.mono hB)) hnil (by rw [putB_length]; omega) (by omega)
          obtain ⟨F, f, rfl, _⟩ := own_rdv1 o2
          refine ⟨W0.heap.size, rfl, F, _, f, w2, r2, o2.base_le (by omega), B1.grown g2 B1.size (fun q hq => by have := (ho.block q hq).1; omega), ?_⟩
          have k1 : Blk w1 w.heap.size 54 [.int .i64 0, .int .i64 0, .slice none 0 0] := (hb.block _ k0'.lt).trans k0'
          exact (g2.block _ k1.lt (fun e => by have := (ho.block _ e.symm).1; have := k0'.lt; omega)).trans k1
        clear hr hC hI hl hnil
        go_enter Try.func57, Try.ntmps57
        go_wp2_with (first
          | (go_at_call 113; ((with_reducible refine (isb_yes C _ HC.out).mono ?_); rintro e w' ⟨rfl, rfl⟩))
          | (go_at_call 113; ((with_reducible refine (isb_yes I _ HI.out).mono ?_); rintro e w' ⟨rfl, rfl⟩))
          | (go_at_call 101; ((with_reducible refine LO.out.mono ?_); rintro e w1 ⟨g, rfl, F, k, f, w2, hr2, ho2, hb2, hk2⟩; have R2 := Lib.hid hr2; have HO := Lib.hid (And.intro ho2 hb2); have x0 := hk2.cell 0; have x1 := hk2.cell 1; have x2 := hk2.cell 2; have f0 := hk2.frozen 0; have f1 := hk2.frozen 1; have f2 := hk2.frozen 2; clear hr2 ho2 hb2 hk2))
          | (at_builtin; refine wpList_app rfl (.tmp 27) (.tmp 28) rfl _ _ rfl rfl _ _ R2.out ?_))
        exact bodyPost_ret (v := .tuple #[.agg #[.int .i64 C, .int .i64 I, .slice F k f], .int .i64 0]) (by simp [results, Try.results57, go_sem, x0, x1, x2, f0, f1, f2]) rfl (reply_well E.out (set3_own HO.out.1 _ _ _) (set3_below HO.out.2 (Nat.le_refl _) _ _ _))
    · have E := Lib.hid (rpE_bad (C := C) (I := I) (n := l.length) (fun h => hI h.2))
      have HC := Lib.hid (show 0 ≤ C ∧ C ≤ 255 from hC)
      have HI := Lib.hid (show ¬ (0 ≤ I ∧ I ≤ 255) from hI)
      clear hr hC hI hl
      go_enter Try.func57, Try.ntmps57
      go_wp2_with (first
        | (go_at_call 113; ((with_reducible refine (isb_yes C _ HC.out).mono ?_); rintro e w' ⟨rfl, rfl⟩))
        | (go_at_call 113; ((with_reducible refine (isb_no I _ HI.out).mono ?_); rintro e w' ⟨rfl, rfl⟩)))
      exact bodyPost_ret (v := .tuple #[.agg #[.int .i64 0, .int .i64 0, .slice none 0 0], .int .i64 90]) (by simp [results, Try.results57, go_sem]) rfl (reply_no E.out (by decide) ((Below.refl _ _).alloc (Nat.le_refl _) _))
  · have E := Lib.hid (rpE_bad (C := C) (I := I) (n := l.length) (fun h => hC h.1))
    have HC := Lib.hid (show ¬ (0 ≤ C ∧ C ≤ 255) from hC)
    clear hr hC hl
    go_enter Try.func57, Try.ntmps57
    go_wp2_with (go_at_call 113; ((with_reducible refine (isb_no C _ HC.out).mono ?_); rintro e w' ⟨rfl, rfl⟩))
    exact bodyPost_ret (v := .tuple #[.agg #[.int .i64 0, .int .i64 0, .slice none 0 0], .int .i64 90]) (by simp [results, Try.results57, go_sem]) rfl (reply_no E.out (by decide) ((Below.refl _ _).alloc (Nat.le_refl _) _))
theorem rreply_bad (C I m : Int) (A : Option Addr) (n c : Nat) (l : List UInt8) (w : World) (h : ¬ (okB C ∧ okB I)) :
    Calls Try.prog 58 #[.int .i64 C, .int .i64 I, .int .u32 m, .slice A n c] w fun e w' => ReplyPost w C I m l e w' := by
  have hzv : ∀ W, (zeroValue 54).run Try.prog W = .ok (.agg #[.int .i64 0, .int .i64 0, .slice none 0 0]) W := fun W => by kernel_rfl
  have E := Lib.hid (rpE_bad (C := C) (I := I) (n := l.length) h)
  have hcase : C < 0 ∨ ¬ C < 0 ∧ 255 < C ∨ ¬ C < 0 ∧ ¬ 255 < C ∧ I < 0 ∨ ¬ C < 0 ∧ ¬ 255 < C ∧ ¬ I < 0 ∧ 255 < I := by
    unfold okB at h
    omega
  clear h
  rcases hcase with h1 | ⟨h1, h2⟩ | ⟨h1, h2, h3⟩ | ⟨h1, h2, h3, h4⟩
  all_goals
    go_enter Try.func58, Try.ntmps58
    go_wp2
    exact bodyPost_ret (v := .tuple #[.agg #[.int .i64 0, .int .i64 0, .slice none 0 0], .int .i64 90]) (by simp [results, Try.results58, go_sem]) rfl (reply_no E.out (by decide) ((Below.refl _ _).alloc (Nat.le_refl _) _))
theorem rreply_any (C I m : Int) (A : Option Addr) (n c B : Nat) (l : List UInt8) (w : World) (hr : Rd w B A n l) (hB : B ≤ w.heap.size) (hnil : A = none → c = 0) (hn : n ≤ 140737488351232) (hm0 : 0 ≤ m) (hm1 : m < 4294967296) :
    Calls Try.prog 58 #[.int .i64 C, .int .i64 I, .int .u32 m, .slice A n c] w fun e w' => ReplyPost w C I m l e w' := by
  by_cases h : okB C ∧ okB I
  · have hl := hr.1
    have hzv : ∀ W, (zeroValue 54).run Try.prog W = .ok (.agg #[.int .i64 0, .int .i64 0, .slice none 0 0]) W := fun W => by kernel_rfl
    by_cases hbig : 16376 < n
    · have E := Lib.hid (rpE_big h (show 16376 < l.length by omega))
      have hbig' : (16376 : Int) < n := by omega
      obtain ⟨⟨c1, c2⟩, ⟨i1, i2⟩⟩ := h
      have c1' : ¬ C < 0 := by omega
      have c2' : ¬ 255 < C := by omega
      have i1' : ¬ I < 0 := by omega
      have i2' : ¬ 255 < I := by omega
      clear hr hl
      go_enter Try.func58, Try.ntmps58
      go_wp2
      exact bodyPost_ret (v := .tuple #[.agg #[.int .i64 0, .int .i64 0, .slice none 0 0], .int .i64 4]) (by simp [results, Try.results58, go_sem]) rfl (reply_no E.out (by decide) ((Below.refl _ _).alloc (Nat.le_refl _) _))
    · have E := Lib.hid (rpE_ok h (show ¬ 16376 < l.length by omega))
      have hbig' : ¬ (16376 : Int) < n := by omega
      obtain ⟨⟨c1, c2⟩, ⟨i1, i2⟩⟩ := h
      have c1' : ¬ C < 0 := by omega
      have c2' : ¬ 255 < C := by omega
      have i1' : ¬ I < 0 := by omega
      have i2' : ¬ 255 < I := by omega
      have LO : Hid (Calls Try.prog 102 #[.int .u64 m, .int .i64 4] (w.alloc (.cells #[.int .i64 0, .int .i64 0, .slice none 0 0] 54)) fun e w1 => ∃ D k d, e = .returned (.slice D k d) ∧ ∃ W1, w1.alloc (.cells #[.int .i64 C, .int .i64 I, .slice D k d] 54) = W1 ∧
          Blk W1 w1.heap.size 54 [.int .i64 C, .int .i64 I, .slice D k d] ∧ ∃ F k2 f w2, (Builtin.append_ #[52, 52] 52 #[.slice D k d, .slice A n c]).run Try.prog W1 = .ok (.slice F k2 f) w2 ∧
          Own w2 (w.heap.size + 1) (.slice F k2 f) (putB m.toNat 4 ++ l) ∧ Below w.heap.size w w2 ∧ Blk w2 w.heap.size 54 [.int .i64 0, .int .i64 0, .slice none 0 0] ∧ Blk w2 w1.heap.size 54 [.int .i64 C, .int .i64 I, .slice D k d] ∧ w.heap.size < w1.heap.size ∧
          (∀ q, (Value.slice F k2 f).ownBlock = some q → q ≠ w1.heap.size)) := by
        have B0 : Below w.heap.size w (w.alloc (.cells #[.int .i64 0, .int .i64 0, .slice none 0 0] 54)) := (Below.refl _ _).alloc (Nat.le_refl _) _
        have s0 : (w.alloc (.cells #[.int .i64 0, .int .i64 0, .slice none 0 0] 54)).heap.size = w.heap.size + 1 := by simp
        have k0 := blk_new w 54 [.int .i64 0, .int .i64 0, .slice none 0 0]
        obtain ⟨W0, hW0⟩ : ∃ W, W = w.alloc (.cells #[.int .i64 0, .int .i64 0, .slice none 0 0] 54) := ⟨_, rfl⟩
        have k0' : Blk W0 w.heap.size 54 [.int .i64 0, .int .i64 0, .slice none 0 0] := by rw [hW0]; exact k0
        rw [← hW0] at B0 s0 ⊢
        clear k0 hW0
        refine (refbytes_any 4 m W0 (by omega) hm0 (by omega)).mono ?_
        rintro e w1 ⟨v, rfl, ho, hb⟩
        obtain ⟨D, d, rfl, _⟩ := own_rdv1 ho
        have s1 := hb.size
        have k1 : Blk w1 w.heap.size 54 [.int .i64 0, .int .i64 0, .slice none 0 0] := (hb.block _ k0'.lt).trans k0'
        obtain ⟨W1, hW1⟩ : ∃ W, W = w1.alloc (.cells #[.int .i64 C, .int .i64 I, .slice D (putB m.toNat 4).length d] 54) := ⟨_, rfl⟩
        have B2 : Below w1.heap.size w1 W1 := by rw [hW1]; exact (Below.refl _ _).alloc (Nat.le_refl _) _
        have s2 : W1.heap.size = w1.heap.size + 1 := by rw [hW1]; simp
        have k2 : Blk W1 w1.heap.size 54 [.int .i64 C, .int .i64 I, .slice D (putB m.toNat 4).length d] := by rw [hW1]; exact blk_new w1 _ _
        have k3 : Blk W1 w.heap.size 54 [.int .i64 0, .int .i64 0, .slice none 0 0] := (B2.block _ k1.lt).trans k1
        have BW1 : Below w.heap.size w W1 := B0.trans ((hb.trans (B2.mono s1)).mono (by omega))
        obtain ⟨v, w2, r2, o2, g2, n2⟩ := append_run (ho.later B2) c (hr.below (BW1.mono hB)) hnil (by rw [putB_length]; omega) (by omega)
        obtain ⟨F, f, rfl, _⟩ := own_rdv1 o2
        have hD : ∀ q, (Value.slice D (putB m.toNat 4).length d).ownBlock = some q → W0.heap.size ≤ q ∧ q < w1.heap.size := fun q hq => ho.block q hq
        refine ⟨D, _, d, rfl, W1, hW1.symm, k2, F, _, f, w2, r2, o2.base_le (by omega), BW1.grown g2 BW1.size (fun q hq => by have := hD q hq; omega), ?_, ?_, by omega, ?_⟩
        · exact (g2.block _ k3.lt (fun e => by have := hD _ e.symm; omega)).trans k3
        · exact (g2.block _ k2.lt (fun e => by have := hD _ e.symm; omega)).trans k2
        · intro q hq
          rcases n2 with e | e
          · have := hD q (e ▸ hq); omega
          · rw [e] at hq; injection hq with hq; omega
      clear hr hl hnil
      go_enter Try.func58, Try.ntmps58
      go_wp2_with (first
        | (go_at_call 102; ((with_reducible refine LO.out.mono ?_); rintro e w1 ⟨D, k, d, rfl, W1, hW1, hk1, F, k2, f, w2, hr2, ho2, hb2, hk2, hk3, hlt, hq⟩; have HW := Lib.hid hW1; have y0 := hk1.cell 0; have y1 := hk1.cell 1; have y2 := hk1.cell 2; have R2 := Lib.hid hr2; have HO := Lib.hid (And.intro ho2 hb2); have HQ := Lib.hid hq; have x0 := hk2.cell 0; have x1 := hk2.cell 1; have x2 := hk2.cell 2; have f0 := hk2.frozen 0; have f1 := hk2.frozen 1; have f2 := hk2.frozen 2; have z0 := hk3.cell 0; have z1 := hk3.cell 1; have z2 := hk3.cell 2; have g0 := hk3.frozen 0; have g1 := hk3.frozen 1; have g2 := hk3.frozen 2; clear hW1 hk1 hr2 ho2 hb2 hk2 hk3 hq))
        | (rw [HW.out])
        | (at_builtin; refine wpList_app rfl (.tmp 37) (.tmp 38) rfl _ _ rfl rfl _ _ R2.out ?_))
      have ho3 : Own (w2.setCell ⟨w1.heap.size, 2, none⟩ (.slice F k2 f)) (w.heap.size + 1) (.slice F k2 f) (putB m.toNat 4 ++ l) := by
        refine HO.out.1.grown (only_set (p := ⟨w1.heap.size, 2, none⟩) _) ?_
        rcases hv : (Value.slice F k2 f).ownBlock with _ | q
        · exact .inl rfl
        · exact .inr (fun e => by injection e with e; exact HQ.out q hv e)
      exact bodyPost_ret (v := .tuple #[.agg #[.int .i64 C, .int .i64 I, .slice F k2 f], .int .i64 0]) (by simp [results, Try.results58, go_sem, x0, x1, x2, f0, f1, f2]) rfl (reply_well E.out (set3_own ho3 _ _ _) (set3_below (HO.out.2.setCell (by show _ ≤ w1.heap.size; omega) _) (Nat.le_refl _) _ _ _))
  · exact rreply_bad C I m A n c l w h
def rjE (C : Int) (n : Nat) : Int := if C = 8 then if n < 2 then 8 else 0 else 90
def rjN (C : Int) (l : List UInt8) : Int := if rjE C l.length = 0 then num l 2 else 0
theorem rejected_any (C I : Int) (A : Option Addr) (n c B : Nat) (l : List UInt8) (w : World) (hr : Rd w B A n l) (hB : B ≤ w.heap.size) (hnc : n ≤ c) (hn : n ≤ 140737488351232) :
    Calls Try.prog 59 #[.agg #[.int .i64 C, .int .i64 I, .slice A n c]] w fun e w' => e = .returned (.tuple #[.int .i64 (rjN C l), .int .i64 (rjE C l.length)]) ∧ Below w.heap.size w w' := by
  have hl := hr.1
  by_cases hC : C = 8
  · subst hC
    by_cases h2 : n < 2
    · have E : Hid (rjE 8 l.length = 8) := by show _ = _; unfold rjE; rw [if_pos rfl, if_pos (by omega)]
      have h2' : (n : Int) < 2 := by omega
      clear hr hl
      go_enter Try.func59, Try.ntmps59
      go_wp2
      go_ret2
      exact ⟨by unfold rjN; rw [E.out]; rfl, (Below.refl _ _).alloc (Nat.le_refl _) _⟩
    · have E : Hid (rjE 8 l.length = 0) := by show _ = _; unfold rjE; rw [if_pos rfl, if_neg (by omega)]
      have h2' : ¬ (n : Int) < 2 := by omega
      have B1 : Below w.heap.size w (w.alloc (.cells #[.int .i64 8, .int .i64 I, .slice A n c] 54)) := (Below.refl _ _).alloc (Nat.le_refl _) _
      have hr2 := hr.front (k := 2) (by omega)
      have NY := Lib.hid (number2_yes A c B (l.take 2) _ (hr2.below (B1.mono hB)) (by omega))
      have hnum : num (l.take 2) 2 = num l 2 := num_congr _ _ 2 fun j hj => byteAt_take _ _ _ hj
      rw [hnum] at NY
      have hb : 0 ≤ num l 2 ∧ num l 2 ≤ 65535 := ⟨num_lo l 2, by have := num_hi l 2; omega⟩
      obtain ⟨x, hx⟩ : ∃ x, num l 2 = x := ⟨_, rfl⟩
      rw [hx] at NY hb
      have HX := Lib.hid hx
      obtain ⟨b1, b2⟩ := hb
      clear hr hl hr2 hnum hx B1
      go_enter Try.func59, Try.ntmps59
      go_wp2_with (go_at_call 112; ((with_reducible refine NY.out.mono ?_); rintro e w2 ⟨rfl, rfl⟩))
      go_ret2
      exact ⟨by unfold rjN; rw [if_pos E.out, HX.out, E.out]; rfl, (Below.refl _ _).alloc (Nat.le_refl _) _⟩
  · have E : Hid (rjE C l.length = 90) := by show _ = _; unfold rjE; rw [if_neg hC]
    have hC' : (C == 8) = false := by simpa using hC
    clear hr hl hC
    go_enter Try.func59, Try.ntmps59
    go_wp2
    go_ret2
    exact ⟨by unfold rjN; rw [E.out]; rfl, (Below.refl _ _).alloc (Nat.le_refl _) _⟩
theorem rrejected_any (C I : Int) (A : Option Addr) (n c B : Nat) (l : List UInt8) (w : World) (hr : Rd w B A n l) (hB : B ≤ w.heap.size) (hnc : n ≤ c) (hn : n ≤ 140737488351232) :
    Calls Try.prog 60 #[.agg #[.int .i64 C, .int .i64 I, .slice A n c]] w fun e w' => e = .returned (.tuple #[.int .i64 (rjN C l), .int .i64 (rjE C l.length)]) ∧ Below w.heap.size w w' := by
  have hl := hr.1
  by_cases hC : C = 8
  · subst hC
    by_cases h2 : n < 2
    · have E : Hid (rjE 8 l.length = 8) := by show _ = _; unfold rjE; rw [if_pos rfl, if_pos (by omega)]
      have h2' : (n : Int) < 2 := by omega
      clear hr hl
      go_enter Try.func60, Try.ntmps60
      go_wp2
      go_ret2
      exact ⟨by unfold rjN; rw [E.out]; rfl, (Below.refl _ _).alloc (Nat.le_refl _) _⟩
    · have E : Hid (rjE 8 l.length = 0) := by show _ = _; unfold rjE; rw [if_pos rfl, if_neg (by omega)]
      have h2' : ¬ (n : Int) < 2 := by omega
      have B1 : Below w.heap.size w (w.alloc (.cells #[.int .i64 8, .int .i64 I, .slice A n c] 54)) := (Below.refl _ _).alloc (Nat.le_refl _) _
      have hr2 := hr.front (k := 2) (by omega)
      have NY0 : Calls Try.prog 110 #[.slice A 2 c] (w.alloc (.cells #[.int .i64 8, .int .i64 I, .slice A n c] 54)) fun e w' => e = .returned (.int .u64 (num (l.take 2) 2)) ∧ (w.alloc (.cells #[.int .i64 8, .int .i64 I, .slice A n c] 54)) = w' := by
        refine (refnumber_any A 2 c (l.take 2) _ B (hr2.below (B1.mono hB)) (by omega)).mono ?_
        rintro e w' ⟨⟨x, rfl, _, hx⟩, rfl⟩
        exact ⟨by rw [hx (by omega)], rfl⟩
      have NY := Lib.hid NY0
      have hnum : num (l.take 2) 2 = num l 2 := num_congr _ _ 2 fun j hj => byteAt_take _ _ _ hj
      rw [hnum] at NY
      have hb : 0 ≤ num l 2 ∧ num l 2 ≤ 65535 := ⟨num_lo l 2, by have := num_hi l 2; omega⟩
      obtain ⟨x, hx⟩ : ∃ x, num l 2 = x := ⟨_, rfl⟩
      rw [hx] at NY hb
      have HX := Lib.hid hx
      obtain ⟨b1, b2⟩ := hb
      clear hr hl hr2 hnum hx B1 NY0
      go_enter Try.func60, Try.ntmps60
      go_wp2_with (go_at_call 110; ((with_reducible refine NY.out.mono ?_); rintro e w2 ⟨rfl, rfl⟩))
      go_ret2
      exact ⟨by unfold rjN; rw [if_pos E.out, HX.out, E.out]; rfl, (Below.refl _ _).alloc (Nat.le_refl _) _⟩
  · have E : Hid (rjE C l.length = 90) := by show _ = _; unfold rjE; rw [if_neg hC]
    have hC' : (C == 8) = false := by simpa using hC
    clear hr hl hC
    go_enter Try.func60, Try.ntmps60
    go_wp2
    go_ret2
    exact ⟨by unfold rjN; rw [E.out]; rfl, (Below.refl _ _).alloc (Nat.le_refl _) _⟩
end Go.Proofs.Ytonbdcajepmgbaa
