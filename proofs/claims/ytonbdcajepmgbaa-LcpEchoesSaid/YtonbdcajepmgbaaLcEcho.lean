/-
  lcp.Echo; tetherref11.Echo.
-/
import Derived.Test.YtonbdcajepmgbaaLcReply
import Derived.BigQuiet
namespace Go.Proofs.Ytonbdcajepmgbaa
open Go.RowKit
set_option maxRecDepth 100000
set_option maxHeartbeats 2000000
set_option linter.unusedSimpArgs false
set_option linter.unusedVariables false

def isE (C : Int) : Prop := C = 9 ∨ C = 10 ∨ C = 11 ∨ C = 12
instance (C : Int) : Decidable (isE C) := by unfold isE; infer_instance
def ecV (C I m : Int) (l : List UInt8) : Int × Int × List UInt8 × Bool × Int :=
  if l.length < 4 then (0, 0, [], false, 8) else if ¬ isE C then (0, 0, [], false, 90) else if m ≠ 0 ∧ num l 4 = m then (0, 0, [], false, 0) else if C ≠ 9 then (0, 0, [], true, 0) else
    (rpC 10 I (l.drop 4).length, rpI 10 I (l.drop 4).length, rpL 10 I m (l.drop 4), rpE 10 I (l.drop 4).length == 0, rpE 10 I (l.drop 4).length)
def EchoPost (w : World) (x : Int × Int × List UInt8 × Bool × Int) (e : Ending) (w' : World) : Prop :=
  ∃ D k d, e = .returned (.tuple #[.agg #[.int .i64 x.1, .int .i64 x.2.1, .slice D k d], .bool x.2.2.2.1, .int .i64 x.2.2.2.2]) ∧ Own w' w.heap.size (.slice D k d) x.2.2.1 ∧ Below w.heap.size w w'
theorem echo_no {w w' : World} {C I m : Int} {l : List UInt8} {b : Bool} {E : Int} (h : ecV C I m l = (0, 0, [], b, E)) (hB : Below w.heap.size w w') :
    EchoPost w (ecV C I m l) (.returned (.tuple #[.agg #[.int .i64 0, .int .i64 0, .slice none 0 0], .bool b, .int .i64 E])) w' := by
  rw [h]
  exact ⟨none, 0, 0, rfl, Own.nil _ _, hB⟩
theorem Rd.tail4 {w : World} {B n : Nat} {A : Option Addr} {l : List UInt8} (h : Rd w B A n l) (hn : 4 ≤ n) : ∃ b off, A = some ⟨b, off, none⟩ ∧ b < B ∧ (4 < n → Rd w B (some ⟨b, off + 4, none⟩) (n - 4) (l.drop 4)) := by
  obtain ⟨b, off, e, hb, hc⟩ := h.2 (by omega)
  refine ⟨b, off, e, hb, fun h4 => ⟨by rw [List.length_drop, h.1], fun _ => ⟨b, off + 4, rfl, hb, fun j hj => ?_⟩⟩⟩
  rw [byteAt_drop, show off + 4 + j = off + (4 + j) by omega]
  exact hc (4 + j) (by omega)
/-- the answer to an Echo-Request, laid into a variable -/
def EchoCall (f : Nat) (w W : World) (z : Nat) (I m : Int) (l : List UInt8) (b x n c : Nat) : Prop :=
  Calls Try.prog f #[.int .i64 10, .int .i64 I, .int .u32 m, .slice (some ⟨b, x, none⟩) n c] W fun e w4 => ∃ D k d P1 P2 E w', e = .returned (.tuple #[.agg #[.int .i64 P1, .int .i64 P2, .slice D k d], .int .i64 E]) ∧ w4.alloc (.cells #[.int .i64 P1, .int .i64 P2, .slice D k d] 54) = w' ∧
    Blk w' z 54 [.int .i64 0, .int .i64 0, .slice none 0 0] ∧ Blk w' w4.heap.size 54 [.int .i64 P1, .int .i64 P2, .slice D k d] ∧ (Own w' (z + 1) (.slice D k d) (rpL 10 I m l) ∧ Below w.heap.size w w' ∧ w.heap.size ≤ z) ∧ P1 = rpC 10 I l.length ∧ P2 = rpI 10 I l.length ∧ E = rpE 10 I l.length
theorem echo_call (f : Nat) (hf : ∀ (A : Option Addr) (n c B : Nat) (l : List UInt8) (I m : Int) (w : World), Rd w B A n l → B ≤ w.heap.size → (A = none → c = 0) → n ≤ 140737488351232 → 0 ≤ m → m < 4294967296 → Calls Try.prog f #[.int .i64 10, .int .i64 I, .int .u32 m, .slice A n c] w fun e w' => ReplyPost w 10 I m l e w')
    (w W : World) (z : Nat) (I m : Int) (l : List UInt8) (b x n c B : Nat) (hr : Rd W B (some ⟨b, x, none⟩) n l) (hB : B ≤ W.heap.size) (hn : n ≤ 140737488351232) (hm0 : 0 ≤ m) (hm1 : m < 4294967296) (hz : Blk W z 54 [.int .i64 0, .int .i64 0, .slice none 0 0]) (hz0 : w.heap.size ≤ z)
    (hW : Below w.heap.size w W) : EchoCall f w W z I m l b x n c := by
  refine (hf _ n c B l I m W hr hB (fun e => by cases e) hn hm0 hm1).mono ?_
  rintro e w4 ⟨D, k, d, rfl, ho, hb⟩
  have k4 : Blk w4 z 54 [.int .i64 0, .int .i64 0, .slice none 0 0] := (hb.block _ hz.lt).trans hz
  have B5 : Below w4.heap.size w4 (w4.alloc (.cells #[.int .i64 (rpC 10 I l.length), .int .i64 (rpI 10 I l.length), .slice D k d] 54)) := (Below.refl _ _).alloc (Nat.le_refl _) _
  exact ⟨D, k, d, _, _, _, _, rfl, rfl, (B5.block _ k4.lt).trans k4, blk_new w4 _ _, ⟨(ho.base_le (by have := hz.lt; omega)).alloc _, hW.trans ((hb.trans (B5.mono hb.size)).mono hW.size), hz0⟩, rfl, rfl, rfl⟩
theorem echo_well {w w' : World} {I m : Int} {l : List UInt8} {D : Option Addr} {k d : Nat} (h : ecV 9 I m l = (rpC 10 I (l.drop 4).length, rpI 10 I (l.drop 4).length, rpL 10 I m (l.drop 4), rpE 10 I (l.drop 4).length == 0, rpE 10 I (l.drop 4).length)) (ho : Own w' w.heap.size (.slice D k d) (rpL 10 I m (l.drop 4))) (hB : Below w.heap.size w w') :
    EchoPost w (ecV 9 I m l) (.returned (.tuple #[.agg #[.int .i64 (rpC 10 I (l.drop 4).length), .int .i64 (rpI 10 I (l.drop 4).length), .slice D k d], .bool (rpE 10 I (l.drop 4).length == 0), .int .i64 (rpE 10 I (l.drop 4).length)])) w' := by
  rw [h]
  exact ⟨D, k, d, rfl, ho, hB⟩
theorem echo_any (C I : Int) (o : LOpts) (A : Option Addr) (n c B : Nat) (l : List UInt8) (w : World) (hw : 0 ≤ o.magic ∧ o.magic < 4294967296) (hr : Rd w B A n l) (hB : B ≤ w.heap.size) (hnil : A = none → c = 0) (hnc : n ≤ c) (hn : n ≤ 140737488351232) :
    Calls Try.prog 55 #[.agg #[.int .i64 C, .int .i64 I, .slice A n c], .agg #[.int .i64 o.mru, .int .i64 o.accm, .int .i64 o.auth, .int .u32 o.magic, .bool o.pfc, .bool o.acfc]] w fun e w' => EchoPost w (ecV C I o.magic l) e w' := by
  have hl := hr.1
  have hzv : ∀ W, (zeroValue 54).run Try.prog W = .ok (.agg #[.int .i64 0, .int .i64 0, .slice none 0 0]) W := fun W => by kernel_rfl
  by_cases h4 : n < 4
  · have E : Hid (ecV C I o.magic l = (0, 0, [], false, 8)) := by show _ = _; unfold ecV; rw [if_pos (by omega)]
    have h4' : (n : Int) < 4 := by omega
    clear hr hl
    go_enter Try.func55, Try.ntmps55
    go_wp2
    exact bodyPost_ret (v := .tuple #[.agg #[.int .i64 0, .int .i64 0, .slice none 0 0], .bool false, .int .i64 8]) (by simp [results, Try.results55, go_sem]) rfl (echo_no E.out ((((Below.refl _ _).alloc (Nat.le_refl _) _).alloc (by simp) _).alloc (by simp; omega) _))
  have h4' : ¬ (n : Int) < 4 := by omega
  by_cases hC : isE C
  · obtain ⟨b, off, rfl, hbB, hrt⟩ := hr.tail4 (by omega)
    have NY0 : ∀ W, Rd W B (some ⟨b, off, none⟩) 4 (l.take 4) → Calls Try.prog 112 #[.slice (some ⟨b, off, none⟩) 4 c, .int .i64 4] W fun e w' => e = .returned (.int .u64 (num l 4)) ∧ w' = W := by
      intro W hW
      refine (number4_yes (some ⟨b, off, none⟩) c B (l.take 4) W hW (by omega)).mono ?_
      rintro e w' ⟨rfl, rfl⟩
      exact ⟨by rw [num_congr (l.take 4) l 4 fun j hj => byteAt_take _ _ _ hj], rfl⟩
    have HR0 : Rd (((w.alloc (.cells #[.int .i64 C, .int .i64 I, .slice (some ⟨b, off, none⟩) n c] 54)).alloc (.cells #[.int .i64 o.mru, .int .i64 o.accm, .int .i64 o.auth, .int .u32 o.magic, .bool o.pfc, .bool o.acfc] 76)).alloc (.cells #[.int .i64 0, .int .i64 0, .slice none 0 0] 54)) B (some ⟨b, off, none⟩) 4 (l.take 4) := (hr.front (by omega)).below (((((Below.refl _ _).alloc (Nat.le_refl _) _).alloc (by simp) _).alloc (by simp; omega) _ : Below w.heap.size w (((w.alloc (.cells #[.int .i64 C, .int .i64 I, .slice (some ⟨b, off, none⟩) n c] 54)).alloc (.cells #[.int .i64 o.mru, .int .i64 o.accm, .int .i64 o.auth, .int .u32 o.magic, .bool o.pfc, .bool o.acfc] 76)).alloc (.cells #[.int .i64 0, .int .i64 0, .slice none 0 0] 54))).mono hB)
    have hc4 : (4 : Int) ≤ c := by omega
    have hn4 : (4 : Int) ≤ n := by omega
    have RP0 : ∀ k x nn cc, nn = n - 4 → cc = c - 4 → (x = off + 4 ∨ n = 4) → EchoCall 57 w ((((w.alloc (.cells #[.int .i64 C, .int .i64 I, .slice (some ⟨b, off, none⟩) n c] 54)).alloc (.cells #[.int .i64 o.mru, .int .i64 o.accm, .int .i64 o.auth, .int .u32 o.magic, .bool o.pfc, .bool o.acfc] 76)).alloc (.cells #[.int .i64 0, .int .i64 0, .slice none 0 0] 54)).drewN k) (w.heap.size + 1 + 1) I o.magic (l.drop 4) b x nn cc := by
      rintro k x _ _ rfl rfl hx
      have B3 : Below w.heap.size w (((w.alloc (.cells #[.int .i64 C, .int .i64 I, .slice (some ⟨b, off, none⟩) n c] 54)).alloc (.cells #[.int .i64 o.mru, .int .i64 o.accm, .int .i64 o.auth, .int .u32 o.magic, .bool o.pfc, .bool o.acfc] 76)).alloc (.cells #[.int .i64 0, .int .i64 0, .slice none 0 0] 54)) := (((Below.refl _ _).alloc (Nat.le_refl _) _).alloc (by simp) _).alloc (by simp; omega) _
      have kz := blk_new ((w.alloc (.cells #[.int .i64 C, .int .i64 I, .slice (some ⟨b, off, none⟩) n c] 54)).alloc (.cells #[.int .i64 o.mru, .int .i64 o.accm, .int .i64 o.auth, .int .u32 o.magic, .bool o.pfc, .bool o.acfc] 76)) 54 [.int .i64 0, .int .i64 0, .slice none 0 0]
      rw [World.size_alloc, World.size_alloc] at kz
      refine echo_call 57 (fun A n c B l I m w h1 h2 h3 h4 h5 h6 => reply_any 10 I m A n c B l w h1 h2 h3 h4 h5 h6) w _ _ I o.magic (l.drop 4) b x (n - 4) (c - 4) B ?_ (by show B ≤ (World.drewN _ k).heap.size; have := (below_drewN B3 k).size; omega) (by omega) hw.1 hw.2 kz (by omega) (below_drewN B3 k)
      by_cases h : 4 < n
      · have : x = off + 4 := by omega
        subst this
        exact ((hrt h).below (B3.mono hB)).drewN k
      · have : n = 4 := by omega
        subst this
        have : l.drop 4 = [] := List.drop_eq_nil_of_le (by omega)
        rw [this]
        exact Rd.nil
    have RP := Lib.hid RP0
    unfold EchoCall at RP
    clear RP0
    have hc9 : c = 4 ∨ 4 < c := by omega
    have hc9 : c = 4 ∨ 4 < c := by omega
    have hc9 : c = 4 ∨ 4 < c := by omega
    by_cases hm : o.magic = 0
    · have hm' : (o.magic != 0) = false := by simpa using hm
      by_cases h9 : C = 9
      · subst h9
        have E : Hid (ecV 9 I o.magic l = (rpC 10 I (l.drop 4).length, rpI 10 I (l.drop 4).length, rpL 10 I o.magic (l.drop 4), rpE 10 I (l.drop 4).length == 0, rpE 10 I (l.drop 4).length)) := by show _ = _; unfold ecV; rw [if_neg (by omega), if_neg (by simpa using hC), if_neg (fun h => h.1 hm), if_neg (by decide)]
        clear hr hl hrt NY0 HR0 hm
        rcases hc9 with rfl | hc9
        · have h44 : n = 4 := by omega
          subst h44
          go_enter Try.func55, Try.ntmps55
          go_wp2
          go_quiet (fail)
          go_upto_region 10 with (fail)
          go_quiet (fail)
          go_upto_region 14 with (fail)
          go_wp2_with (first
            | (go_at_call 57; ((with_reducible refine (RP.out _ _ 0 0 (by simp) (by simp) (.inr (by simp))).mono ?_); rintro e w4 ⟨D, k, d, P1, P2, E2, w5, rfl, hw5, hk2, hk3, ho2, e1, e2, e3⟩; have HO := Lib.hid (And.intro ho2 (And.intro e1 (And.intro e2 e3))); have HW := Lib.hid hw5; have x0 := hk2.cell 0; have x1 := hk2.cell 1; have x2 := hk2.cell 2; have f0 := hk2.frozen 0; have f1 := hk2.frozen 1; have f2 := hk2.frozen 2; have y0 := hk3.cell 0; have y1 := hk3.cell 1; have y2 := hk3.cell 2; clear hk2 hk3 ho2 e1 e2 e3 hw5))
            | (rw [HW.out]))
          obtain ⟨⟨ho, hb, hz⟩, rfl, rfl, rfl⟩ := HO.out
          exact bodyPost_ret (v := .tuple #[.agg #[.int .i64 (rpC 10 I (l.drop 4).length), .int .i64 (rpI 10 I (l.drop 4).length), .slice D k d], .bool (rpE 10 I (l.drop 4).length == 0), .int .i64 (rpE 10 I (l.drop 4).length)]) (by simp [results, Try.results55, go_sem, x0, x1, x2, f0, f1, f2]) rfl (echo_well E.out ((set3_own ho _ _ _).base_le hz) (set3_below hb hz _ _ _))
        · go_enter Try.func55, Try.ntmps55
          go_wp2
          go_quiet (fail)
          go_upto_region 10 with (fail)
          go_quiet (fail)
          go_upto_region 14 with (fail)
          go_wp2_with (first
            | (go_at_call 57; ((with_reducible refine (RP.out _ _ _ _ rfl rfl (.inl rfl)).mono ?_); rintro e w4 ⟨D, k, d, P1, P2, E2, w5, rfl, hw5, hk2, hk3, ho2, e1, e2, e3⟩; have HO := Lib.hid (And.intro ho2 (And.intro e1 (And.intro e2 e3))); have HW := Lib.hid hw5; have x0 := hk2.cell 0; have x1 := hk2.cell 1; have x2 := hk2.cell 2; have f0 := hk2.frozen 0; have f1 := hk2.frozen 1; have f2 := hk2.frozen 2; have y0 := hk3.cell 0; have y1 := hk3.cell 1; have y2 := hk3.cell 2; clear hk2 hk3 ho2 e1 e2 e3 hw5))
            | (rw [HW.out]))
          obtain ⟨⟨ho, hb, hz⟩, rfl, rfl, rfl⟩ := HO.out
          exact bodyPost_ret (v := .tuple #[.agg #[.int .i64 (rpC 10 I (l.drop 4).length), .int .i64 (rpI 10 I (l.drop 4).length), .slice D k d], .bool (rpE 10 I (l.drop 4).length == 0), .int .i64 (rpE 10 I (l.drop 4).length)]) (by simp [results, Try.results55, go_sem, x0, x1, x2, f0, f1, f2]) rfl (echo_well E.out ((set3_own ho _ _ _).base_le hz) (set3_below hb hz _ _ _))
      · have E : Hid (ecV C I o.magic l = (0, 0, [], true, 0)) := by show _ = _; unfold ecV; rw [if_neg (by omega), if_neg (by simpa using hC), if_neg (fun h => h.1 hm), if_pos h9]
        rcases hC with rfl | rfl | rfl | rfl
        · exact absurd rfl h9
        all_goals
          clear hr hl hrt NY0 HR0 h9 hm hc9
          go_enter Try.func55, Try.ntmps55
          go_wp2
          go_quiet (fail)
          go_upto_region 10 with (fail)
          go_quiet (fail)
          go_wp2
          all_goals exact bodyPost_ret (v := .tuple #[.agg #[.int .i64 0, .int .i64 0, .slice none 0 0], .bool true, .int .i64 0]) (by simp [results, Try.results55, go_sem]) rfl (echo_no E.out (set3_below (g := w.heap.size + 1 + 1) (below_drewN ((((Below.refl _ _).alloc (Nat.le_refl _) _).alloc (by simp) _).alloc (by simp; omega) _) _) (by omega) _ _ _))
    · have hm' : (o.magic != 0) = true := by simpa using hm
      have NY := Lib.hid (fun k => NY0 _ (HR0.drewN k))
      by_cases hnum : num l 4 = o.magic
      · have E : Hid (ecV C I o.magic l = (0, 0, [], false, 0)) := by show _ = _; unfold ecV; rw [if_neg (by omega), if_neg (by simpa using hC), if_pos ⟨hm, hnum⟩]
        have hne : (num l 4 == o.magic) = true := by simpa using hnum
        rcases hC with rfl | rfl | rfl | rfl
        all_goals
          clear hr hl hrt NY0 HR0 hnum
          go_enter Try.func55, Try.ntmps55
          go_wp2
          go_quiet (fail)
          go_upto_region 10 with (fail)
          go_quiet ((go_at_call 112; refine (NY.out _).mono ?_; rintro e w1 ⟨rfl, rfl⟩; exact ⟨rfl, _, rfl⟩))
          go_wp2
          all_goals exact bodyPost_ret (v := .tuple #[.agg #[.int .i64 0, .int .i64 0, .slice none 0 0], .bool false, .int .i64 0]) (by simp [results, Try.results55, go_sem]) rfl (echo_no E.out (set3_below (g := w.heap.size + 1 + 1) (below_drewN ((((Below.refl _ _).alloc (Nat.le_refl _) _).alloc (by simp) _).alloc (by simp; omega) _) _) (by omega) _ _ _))
      · have hne : (num l 4 == o.magic) = false := by simpa using hnum
        by_cases h9 : C = 9
        · subst h9
          have E : Hid (ecV 9 I o.magic l = (rpC 10 I (l.drop 4).length, rpI 10 I (l.drop 4).length, rpL 10 I o.magic (l.drop 4), rpE 10 I (l.drop 4).length == 0, rpE 10 I (l.drop 4).length)) := by show _ = _; unfold ecV; rw [if_neg (by omega), if_neg (by simpa using hC), if_neg (fun h => hnum h.2), if_neg (by decide)]
          clear hr hl hrt NY0 HR0 hm hnum
          rcases hc9 with rfl | hc9
          · have h44 : n = 4 := by omega
            subst h44
            go_enter Try.func55, Try.ntmps55
            go_wp2
            go_quiet (fail)
            go_upto_region 10 with (fail)
            go_quiet ((go_at_call 112; refine (NY.out _).mono ?_; rintro e w1 ⟨rfl, rfl⟩; exact ⟨rfl, _, rfl⟩))
            go_upto_region 14 with (fail)
            go_wp2_with (first
            | (go_at_call 57; ((with_reducible refine (RP.out _ _ 0 0 (by simp) (by simp) (.inr (by simp))).mono ?_); rintro e w4 ⟨D, k, d, P1, P2, E2, w5, rfl, hw5, hk2, hk3, ho2, e1, e2, e3⟩; have HO := Lib.hid (And.intro ho2 (And.intro e1 (And.intro e2 e3))); have HW := Lib.hid hw5; have x0 := hk2.cell 0; have x1 := hk2.cell 1; have x2 := hk2.cell 2; have f0 := hk2.frozen 0; have f1 := hk2.frozen 1; have f2 := hk2.frozen 2; have y0 := hk3.cell 0; have y1 := hk3.cell 1; have y2 := hk3.cell 2; clear hk2 hk3 ho2 e1 e2 e3 hw5))
            | (rw [HW.out]))
            obtain ⟨⟨ho, hb, hz⟩, rfl, rfl, rfl⟩ := HO.out
            exact bodyPost_ret (v := .tuple #[.agg #[.int .i64 (rpC 10 I (l.drop 4).length), .int .i64 (rpI 10 I (l.drop 4).length), .slice D k d], .bool (rpE 10 I (l.drop 4).length == 0), .int .i64 (rpE 10 I (l.drop 4).length)]) (by simp [results, Try.results55, go_sem, x0, x1, x2, f0, f1, f2]) rfl (echo_well E.out ((set3_own ho _ _ _).base_le hz) (set3_below hb hz _ _ _))
          · go_enter Try.func55, Try.ntmps55
            go_wp2
            go_quiet (fail)
            go_upto_region 10 with (fail)
            go_quiet ((go_at_call 112; refine (NY.out _).mono ?_; rintro e w1 ⟨rfl, rfl⟩; exact ⟨rfl, _, rfl⟩))
            go_upto_region 14 with (fail)
            go_wp2_with (first
            | (go_at_call 57; ((with_reducible refine (RP.out _ _ _ _ rfl rfl (.inl rfl)).mono ?_); rintro e w4 ⟨D, k, d, P1, P2, E2, w5, rfl, hw5, hk2, hk3, ho2, e1, e2, e3⟩; have HO := Lib.hid (And.intro ho2 (And.intro e1 (And.intro e2 e3))); have HW := Lib.hid hw5; have x0 := hk2.cell 0; have x1 := hk2.cell 1; have x2 := hk2.cell 2; have f0 := hk2.frozen 0; have f1 := hk2.frozen 1; have f2 := hk2.frozen 2; have y0 := hk3.cell 0; have y1 := hk3.cell 1; have y2 := hk3.cell 2; clear hk2 hk3 ho2 e1 e2 e3 hw5))
            | (rw [HW.out]))
            obtain ⟨⟨ho, hb, hz⟩, rfl, rfl, rfl⟩ := HO.out
            exact bodyPost_ret (v := .tuple #[.agg #[.int .i64 (rpC 10 I (l.drop 4).length), .int .i64 (rpI 10 I (l.drop 4).length), .slice D k d], .bool (rpE 10 I (l.drop 4).length == 0), .int .i64 (rpE 10 I (l.drop 4).length)]) (by simp [results, Try.results55, go_sem, x0, x1, x2, f0, f1, f2]) rfl (echo_well E.out ((set3_own ho _ _ _).base_le hz) (set3_below hb hz _ _ _))
        · have E : Hid (ecV C I o.magic l = (0, 0, [], true, 0)) := by show _ = _; unfold ecV; rw [if_neg (by omega), if_neg (by simpa using hC), if_neg (fun h => hnum h.2), if_pos h9]
          rcases hC with rfl | rfl | rfl | rfl
          · exact absurd rfl h9
          all_goals
            clear hr hl hrt NY0 HR0 h9 hm hc9 hnum
            go_enter Try.func55, Try.ntmps55
            go_wp2
            go_quiet (fail)
            go_upto_region 10 with (fail)
            go_quiet ((go_at_call 112; refine (NY.out _).mono ?_; rintro e w1 ⟨rfl, rfl⟩; exact ⟨rfl, _, rfl⟩))
            go_wp2
            all_goals exact bodyPost_ret (v := .tuple #[.agg #[.int .i64 0, .int .i64 0, .slice none 0 0], .bool true, .int .i64 0]) (by simp [results, Try.results55, go_sem]) rfl (echo_no E.out (set3_below (g := w.heap.size + 1 + 1) (below_drewN ((((Below.refl _ _).alloc (Nat.le_refl _) _).alloc (by simp) _).alloc (by simp; omega) _) _) (by omega) _ _ _))
  · have E : Hid (ecV C I o.magic l = (0, 0, [], false, 90)) := by show _ = _; unfold ecV; rw [if_neg (by omega), if_pos hC]
    unfold isE at hC
    have k9 : (C == 9) = false := by simp; omega
    have k10 : (C == 10) = false := by simp; omega
    have k11 : (C == 11) = false := by simp; omega
    have k12 : (C == 12) = false := by simp; omega
    clear hr hl hC
    go_enter Try.func55, Try.ntmps55
    go_wp2
    exact bodyPost_ret (v := .tuple #[.agg #[.int .i64 0, .int .i64 0, .slice none 0 0], .bool false, .int .i64 90]) (by simp [results, Try.results55, go_sem]) rfl (echo_no E.out ((((Below.refl _ _).alloc (Nat.le_refl _) _).alloc (by simp) _).alloc (by simp; omega) _))
end Go.Proofs.Ytonbdcajepmgbaa
