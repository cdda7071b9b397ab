/-
  tetherref11.Echo.
-/
import Derived.Test.YtonbdcajepmgbaaLcEcho
import Derived.Deep.RegionLaw
import Derived.Deep.RegionHeld3
namespace Go.Proofs.Ytonbdcajepmgbaa
open Go.RowKit
set_option maxRecDepth 100000
set_option maxHeartbeats 2000000
set_option linter.unusedSimpArgs false
set_option linter.unusedVariables false

def EchoCall2 (f : Nat) (w W : World) (z : Nat) (P : World → Prop) (I m : Int) (l : List UInt8) (b x n c : Nat) : Prop :=
  Calls Try.prog f #[.int .i64 10, .int .i64 I, .int .u32 m, .slice (some ⟨b, x, none⟩) n c] W fun e w4 => ∃ D k d P1 P2 E, e = .returned (.tuple #[.agg #[.int .i64 P1, .int .i64 P2, .slice D k d], .int .i64 E]) ∧ P w4 ∧
    Blk w4 z 54 [.int .i64 0, .int .i64 0, .slice none 0 0] ∧ (Own w4 W.heap.size (.slice D k d) (rpL 10 I m l) ∧ Below w.heap.size w w4 ∧ w.heap.size ≤ z ∧ z < W.heap.size) ∧ P1 = rpC 10 I l.length ∧ P2 = rpI 10 I l.length ∧ E = rpE 10 I l.length
theorem echo_call2 (f : Nat) (hf : ∀ (A : Option Addr) (n c B : Nat) (l : List UInt8) (I m : Int) (w : World), Rd w B A n l → B ≤ w.heap.size → (A = none → c = 0) → n ≤ 140737488351232 → 0 ≤ m → m < 4294967296 → Calls Try.prog f #[.int .i64 10, .int .i64 I, .int .u32 m, .slice A n c] w fun e w' => ReplyPost w 10 I m l e w')
    (w W : World) (z : Nat) (P : World → Prop) (hP : ∀ w4, Below W.heap.size W w4 → P w4) (I m : Int) (l : List UInt8) (b x n c B : Nat) (hr : Rd W B (some ⟨b, x, none⟩) n l) (hB : B ≤ W.heap.size) (hn : n ≤ 140737488351232) (hm0 : 0 ≤ m) (hm1 : m < 4294967296) (hz : Blk W z 54 [.int .i64 0, .int .i64 0, .slice none 0 0]) (hz0 : w.heap.size ≤ z)
    (hW : Below w.heap.size w W) : EchoCall2 f w W z P I m l b x n c := by
  refine (hf _ n c B l I m W hr hB (fun e => by cases e) hn hm0 hm1).mono ?_
  rintro e w4 ⟨D, k, d, rfl, ho, hb⟩
  have k4 : Blk w4 z 54 [.int .i64 0, .int .i64 0, .slice none 0 0] := (hb.block _ hz.lt).trans hz
  exact ⟨D, k, d, _, _, _, rfl, hP w4 hb, k4, ⟨ho, hW.trans (hb.mono hW.size), hz0, hz.lt⟩, rfl, rfl, rfl⟩
theorem after_alloc {w4 : World} {z : Nat} (h : Blk w4 z 54 [.int .i64 0, .int .i64 0, .slice none 0 0]) (P1 P2 : Int) (v : Value) :
    Blk (w4.alloc (.cells #[.int .i64 P1, .int .i64 P2, v] 54)) z 54 [.int .i64 0, .int .i64 0, .slice none 0 0] ∧ Blk (w4.alloc (.cells #[.int .i64 P1, .int .i64 P2, v] 54)) w4.heap.size 54 [.int .i64 P1, .int .i64 P2, v] ∧ Below w4.heap.size w4 (w4.alloc (.cells #[.int .i64 P1, .int .i64 P2, v] 54)) := by
  have B : Below w4.heap.size w4 (w4.alloc (.cells #[.int .i64 P1, .int .i64 P2, v] 54)) := (Below.refl _ _).alloc (Nat.le_refl _) _
  exact ⟨(B.block _ h.lt).trans h, blk_new w4 _ _, B⟩
def cells3 (w4 : World) (h : Nat) (I m : Int) (v : Value) : Prop := w4.cell? ⟨h, 1, none⟩ = some (.int .i64 I) ∧ w4.cell? ⟨h + 1, 3, none⟩ = some (.int .u32 m) ∧ w4.cell? ⟨h, 2, none⟩ = some v
theorem recho_any (C I : Int) (o : LOpts) (A : Option Addr) (n c B : Nat) (l : List UInt8) (w : World) (hw : 0 ≤ o.magic ∧ o.magic < 4294967296) (hr : Rd w B A n l) (hB : B ≤ w.heap.size) (hnil : A = none → c = 0) (hnc : n ≤ c) (hn : n ≤ 140737488351232) :
    Calls Try.prog 56 #[.agg #[.int .i64 C, .int .i64 I, .slice A n c], .agg #[.int .i64 o.mru, .int .i64 o.accm, .int .i64 o.auth, .int .u32 o.magic, .bool o.pfc, .bool o.acfc]] w fun e w' => EchoPost w (ecV C I o.magic l) e w' := by
  have hl := hr.1
  have hzv : ∀ W, (zeroValue 54).run Try.prog W = .ok (.agg #[.int .i64 0, .int .i64 0, .slice none 0 0]) W := fun W => by kernel_rfl
  by_cases h4 : n < 4
  · have E : Hid (ecV C I o.magic l = (0, 0, [], false, 8)) := by show _ = _; unfold ecV; rw [if_pos (by omega)]
    have h4' : (n : Int) < 4 := by omega
    clear hr hl
    go_enter Try.func56, Try.ntmps56
    go_wp2
    exact bodyPost_ret (v := .tuple #[.agg #[.int .i64 0, .int .i64 0, .slice none 0 0], .bool false, .int .i64 8]) (by simp [results, Try.results56, go_sem]) rfl (echo_no E.out ((((Below.refl _ _).alloc (Nat.le_refl _) _).alloc (by simp) _).alloc (by simp; omega) _))
  have h4' : ¬ (n : Int) < 4 := by omega
  by_cases hC : isE C
  · obtain ⟨b, off, rfl, hbB, hrt⟩ := hr.tail4 (by omega)
    have hc4 : (4 : Int) ≤ c := by omega
    have hn4 : (4 : Int) ≤ n := by omega
    have hc9 : c = 4 ∨ 4 < c := by omega
    obtain ⟨W3, hW3⟩ : ∃ W, W = (((w.alloc (.cells #[.int .i64 C, .int .i64 I, .slice (some ⟨b, off, none⟩) n c] 54)).alloc (.cells #[.int .i64 o.mru, .int .i64 o.accm, .int .i64 o.auth, .int .u32 o.magic, .bool o.pfc, .bool o.acfc] 74)).alloc (.cells #[.int .i64 0, .int .i64 0, .slice none 0 0] 54)) := ⟨_, rfl⟩
    have B3 : Below w.heap.size w W3 := by rw [hW3]; exact (((Below.refl _ _).alloc (Nat.le_refl _) _).alloc (by simp) _).alloc (by simp; omega) _
    have s3 : W3.heap.size = w.heap.size + 3 := by rw [hW3]; simp
    obtain ⟨u0, u1, u2, u3, uz⟩ : W3.cell? ⟨w.heap.size, 0, none⟩ = some (.int .i64 C) ∧ W3.cell? ⟨w.heap.size, 1, none⟩ = some (.int .i64 I) ∧ W3.cell? ⟨w.heap.size, 2, none⟩ = some (.slice (some ⟨b, off, none⟩) n c) ∧ W3.cell? ⟨w.heap.size + 1, 3, none⟩ = some (.int .u32 o.magic) ∧ Blk W3 (w.heap.size + 1 + 1) 54 [.int .i64 0, .int .i64 0, .slice none 0 0] := by
      have k1 := blk_new w 54 [.int .i64 C, .int .i64 I, .slice (some ⟨b, off, none⟩) n c]
      obtain ⟨V1, hV1⟩ : ∃ V, V = w.alloc (.cells #[.int .i64 C, .int .i64 I, .slice (some ⟨b, off, none⟩) n c] 54) := ⟨_, rfl⟩
      have t1 : V1.heap.size = w.heap.size + 1 := by rw [hV1]; simp
      have k1' : Blk V1 w.heap.size 54 [.int .i64 C, .int .i64 I, .slice (some ⟨b, off, none⟩) n c] := by rw [hV1]; exact k1
      rw [← hV1] at hW3
      have k2 := blk_new V1 74 o.cells
      obtain ⟨V2, hV2⟩ : ∃ V, V = V1.alloc (.cells o.cells.toArray 74) := ⟨_, rfl⟩
      have t2 : V2.heap.size = w.heap.size + 1 + 1 := by rw [hV2]; simp; omega
      have k2' : Blk V2 (w.heap.size + 1) 74 o.cells := by rw [hV2, ← t1]; exact k2
      have k12 : Blk V2 w.heap.size 54 [.int .i64 C, .int .i64 I, .slice (some ⟨b, off, none⟩) n c] := by rw [hV2]; exact (Below.heap_alloc V1 _ _ (by omega)).trans k1'
      have hW3' : W3 = V2.alloc (.cells #[.int .i64 0, .int .i64 0, .slice none 0 0] 54) := by rw [hW3, hV2]; rfl
      have k3 := blk_new V2 54 [.int .i64 0, .int .i64 0, .slice none 0 0]
      rw [hW3']
      have k13 := (Below.heap_alloc V2 (.cells #[.int .i64 0, .int .i64 0, .slice none 0 0] 54) _ (show w.heap.size < V2.heap.size by omega)).trans k12
      have k23 := (Below.heap_alloc V2 (.cells #[.int .i64 0, .int .i64 0, .slice none 0 0] 54) _ (show w.heap.size + 1 < V2.heap.size by omega)).trans k2'
      exact ⟨Blk.cell k13 0, Blk.cell k13 1, Blk.cell k13 2, Blk.cell k23 3, by rw [← t2]; exact k3⟩
    have RD : ∀ W x, Below W3.heap.size W3 W → (x = off + 4 ∨ n = 4) → Rd W B (some ⟨b, x, none⟩) (n - 4) (l.drop 4) := by
      intro W x hW hx
      by_cases h : 4 < n
      · have : x = off + 4 := by omega
        subst this
        exact ((hrt h).below (B3.mono hB)).below (hW.mono (by omega))
      · have : n = 4 := by omega
        subst this
        have : l.drop 4 = [] := List.drop_eq_nil_of_le (by omega)
        rw [this]
        exact Rd.nil
    have CL : ∀ W w4, Below W3.heap.size W3 W → Below W.heap.size W w4 → cells3 w4 w.heap.size I o.magic (.slice (some ⟨b, off, none⟩) n c) := fun W w4 h1 h2 => by
      have h := h1.trans (h2.mono h1.size)
      exact ⟨(h.cell (by show w.heap.size < _; omega)).trans u1, (h.cell (by show w.heap.size + 1 < _; omega)).trans u3, (h.cell (by show w.heap.size < _; omega)).trans u2⟩
    have RA0 : ∀ k x nn cc, nn = n - 4 → cc = c - 4 → (x = off + 4 ∨ n = 4) → EchoCall2 58 w (W3.drewN k) (w.heap.size + 1 + 1) (fun w4 => cells3 w4 w.heap.size I o.magic (.slice (some ⟨b, off, none⟩) n c)) I o.magic (l.drop 4) b x nn cc := by
      rintro k x _ _ rfl rfl hx
      have Bk : Below W3.heap.size W3 (W3.drewN k) := below_drewN (Below.refl _ _) k
      exact echo_call2 58 (fun A n c B l I m w h1 h2 h3 h4 h5 h6 => rreply_any 10 I m A n c B l w h1 h2 h3 h4 h5 h6) w _ _ _ (fun w4 h => CL _ w4 Bk h) I o.magic (l.drop 4) b x (n - 4) (c - 4) B (RD _ x Bk hx) (by have := Bk.size; omega) (by omega) hw.1 hw.2 uz (by omega) (below_drewN B3 k)
    have RB0 : ∀ k x nn cc, nn = n - 4 → cc = c - 4 → (x = off + 4 ∨ n = 4) → EchoCall2 58 w ((W3.drewN k).alloc (.cells #[.int .i64 0, .int .i64 0, .slice none 0 0] 54)) (w.heap.size + 1 + 1) (fun w4 => cells3 w4 w.heap.size I o.magic (.slice (some ⟨b, off, none⟩) n c) ∧ Blk w4 (w.heap.size + 3) 54 [.int .i64 0, .int .i64 0, .slice none 0 0]) I o.magic (l.drop 4) b x nn cc := by
      rintro k x _ _ rfl rfl hx
      have Bk : Below W3.heap.size W3 ((W3.drewN k).alloc (.cells #[.int .i64 0, .int .i64 0, .slice none 0 0] 54)) := (below_drewN (Below.refl _ _) k).alloc (Nat.le_refl _) _
      have kn := blk_new (W3.drewN k) 54 [.int .i64 0, .int .i64 0, .slice none 0 0]
      have uz2 := (Bk.block _ uz.lt).trans uz
      exact echo_call2 58 (fun A n c B l I m w h1 h2 h3 h4 h5 h6 => rreply_any 10 I m A n c B l w h1 h2 h3 h4 h5 h6) w _ _ _ (fun w4 h => ⟨CL _ w4 Bk h, by rw [← s3]; exact (h.block _ kn.lt).trans kn⟩) I o.magic (l.drop 4) b x (n - 4) (c - 4) B (RD _ x Bk hx) (by have := Bk.size; omega) (by omega) hw.1 hw.2 uz2 (by omega) ((B3.trans (Bk.mono (by omega))))
    have RA := Lib.hid RA0
    have RB := Lib.hid RB0
    unfold EchoCall2 cells3 at RA RB
    have v1 := World.new_ne W3 _ u1
    have v3 := World.new_ne W3 _ u3
    have v2 := World.new_ne W3 _ u2
    clear RA0 RB0 RD CL
    have NY0 : ∀ k, Calls Try.prog 110 #[.slice (some ⟨b, off, none⟩) 4 c] (W3.drewN k) fun e w' => e = .returned (.int .u64 (num l 4)) ∧ w' = W3.drewN k := by
      intro k
      refine (refnumber_any (some ⟨b, off, none⟩) 4 c (l.take 4) (W3.drewN k) B (((hr.front (by omega)).below (B3.mono hB)).drewN k) (by omega)).mono ?_
      rintro e w' ⟨⟨x, rfl, _, hx⟩, rfl⟩
      exact ⟨by rw [hx (by omega), num_congr (l.take 4) l 4 fun j hj => byteAt_take _ _ _ hj], rfl⟩
    have NY := Lib.hid NY0
    have HW := Lib.hid hW3.symm
    by_cases hm : o.magic = 0
    · have hm' : (o.magic != 0) = false := by simpa using hm
      by_cases h9 : C = 9
      · subst h9
        have E : Hid (ecV 9 I o.magic l = (rpC 10 I (l.drop 4).length, rpI 10 I (l.drop 4).length, rpL 10 I o.magic (l.drop 4), rpE 10 I (l.drop 4).length == 0, rpE 10 I (l.drop 4).length)) := by show _ = _; unfold ecV; rw [if_neg (by omega), if_neg (by simpa using hC), if_neg (fun h => h.1 hm), if_neg (by decide)]
        clear hr hl hrt NY0 hm hW3
        rcases hc9 with rfl | hc9
        · have h44 : n = 4 := by omega
          subst h44
          go_enter Try.func56, Try.ntmps56
          go_upto_region 1 with (fail)
          rw [HW.out]
          clear HW
          go_upto_region 5 with (fail)
          go_quiet (fail)
          go_upto_region 9 with (fail)
          go_region_held3 (fun w' => w'.cell? ⟨w.heap.size, 1, none⟩ = some (.int .i64 I) ∧ w'.cell? ⟨w.heap.size + 1, 3, none⟩ = some (.int .u32 o.magic) ∧ w'.cell? ⟨w.heap.size, 2, none⟩ = some (.slice (some ⟨b, off, none⟩) 4 4)) (go_keep) (first
          | (go_at_call 58; (with_reducible refine (RA.out _ _ 0 0 (by simp) (by simp) (.inr (by simp))).mono ?_); rintro e w4 ⟨D, k, d, P1, P2, E2, rfl, ⟨s1, s2, s3⟩, hk2, ho2, e1, e2, e3⟩; have HO := Lib.hid (And.intro ho2 (And.intro e1 (And.intro e2 e3))); have t1 := World.new_ne w4 _ s1; have t2 := World.new_ne w4 _ s2; have t3 := World.new_ne w4 _ s3; obtain ⟨w5, hw5⟩ : ∃ W, w4.alloc (.cells #[.int .i64 P1, .int .i64 P2, .slice D k d] 54) = W := ⟨_, rfl⟩; have hA := after_alloc hk2 P1 P2 (.slice D k d); rw [hw5] at hA; have HW := Lib.hid hw5; have HA := Lib.hid hA.2.2; have x0 := hA.1.cell 0; have x1 := hA.1.cell 1; have x2 := hA.1.cell 2; have f0 := hA.1.frozen 0; have f1 := hA.1.frozen 1; have f2 := hA.1.frozen 2; have y0 := hA.2.1.cell 0; have y1 := hA.2.1.cell 1; have y2 := hA.2.1.cell 2; clear hk2 ho2 e1 e2 e3 hA hw5)
          | (go_at_call 58; (with_reducible refine (RB.out _ _ 0 0 (by simp) (by simp) (.inr (by simp))).mono ?_); rintro e w4 ⟨D, k, d, P1, P2, E2, rfl, ⟨⟨s1, s2, s3⟩, hk3⟩, hk2, ho2, e1, e2, e3⟩; have HO := Lib.hid (And.intro ho2 (And.intro e1 (And.intro e2 e3))); have t1 := World.new_ne w4 _ s1; have t2 := World.new_ne w4 _ s2; have t3 := World.new_ne w4 _ s3; have x0 := hk2.cell 0; have x1 := hk2.cell 1; have x2 := hk2.cell 2; have f0 := hk2.frozen 0; have f1 := hk2.frozen 1; have f2 := hk2.frozen 2; have y0 := hk3.cell 0; have y1 := hk3.cell 1; have y2 := hk3.cell 2; have g0 := hk3.frozen 0; have g1 := hk3.frozen 1; have g2 := hk3.frozen 2; clear hk2 hk3 ho2 e1 e2 e3))
          all_goals
            try rw [HW.out]
            go_wp2
            obtain ⟨⟨ho, hb, hz, hzl⟩, rfl, rfl, rfl⟩ := HO.out
            first
              | exact bodyPost_ret (v := .tuple #[.agg #[.int .i64 (rpC 10 I (l.drop 4).length), .int .i64 (rpI 10 I (l.drop 4).length), .slice D k d], .bool (rpE 10 I (l.drop 4).length == 0), .int .i64 (rpE 10 I (l.drop 4).length)]) (by simp [results, Try.results56, go_sem, x0, x1, x2, f0, f1, f2, y0, y1, y2]) rfl (echo_well E.out ((set3_own ((ho.later HA.out).base_le (show w.heap.size + 1 + 1 + 1 ≤ (World.drewN W3 _).heap.size by show _ ≤ W3.heap.size; omega)) _ _ _).base_le hz) (set3_below (hb.trans (HA.out.mono hb.size)) hz _ _ _))
              | exact bodyPost_ret (v := .tuple #[.agg #[.int .i64 (rpC 10 I (l.drop 4).length), .int .i64 (rpI 10 I (l.drop 4).length), .slice D k d], .bool (rpE 10 I (l.drop 4).length == 0), .int .i64 (rpE 10 I (l.drop 4).length)]) (by simp [results, Try.results56, go_sem, x0, x1, x2, f0, f1, f2, y0, y1, y2]) rfl (echo_well E.out ((set3_own ((set3_own (g := w.heap.size + 3) (ho.base_le (by simp; omega)) _ _ _).base_le (by omega)) _ _ _).base_le hz) (set3_below (set3_below (g := w.heap.size + 3) hb (by omega) _ _ _) hz _ _ _))
        · have hc' : ¬ c = 4 := by omega
          go_enter Try.func56, Try.ntmps56
          go_upto_region 1 with (fail)
          rw [HW.out]
          clear HW
          go_upto_region 5 with (fail)
          go_quiet (fail)
          go_upto_region 9 with (fail)
          go_region_held3 (fun w' => w'.cell? ⟨w.heap.size, 1, none⟩ = some (.int .i64 I) ∧ w'.cell? ⟨w.heap.size + 1, 3, none⟩ = some (.int .u32 o.magic) ∧ w'.cell? ⟨w.heap.size, 2, none⟩ = some (.slice (some ⟨b, off, none⟩) n c)) (go_keep) (first
          | (go_at_call 58; (with_reducible refine (RA.out _ _ _ _ rfl rfl (.inl rfl)).mono ?_); rintro e w4 ⟨D, k, d, P1, P2, E2, rfl, ⟨s1, s2, s3⟩, hk2, ho2, e1, e2, e3⟩; have HO := Lib.hid (And.intro ho2 (And.intro e1 (And.intro e2 e3))); have t1 := World.new_ne w4 _ s1; have t2 := World.new_ne w4 _ s2; have t3 := World.new_ne w4 _ s3; obtain ⟨w5, hw5⟩ : ∃ W, w4.alloc (.cells #[.int .i64 P1, .int .i64 P2, .slice D k d] 54) = W := ⟨_, rfl⟩; have hA := after_alloc hk2 P1 P2 (.slice D k d); rw [hw5] at hA; have HW := Lib.hid hw5; have HA := Lib.hid hA.2.2; have x0 := hA.1.cell 0; have x1 := hA.1.cell 1; have x2 := hA.1.cell 2; have f0 := hA.1.frozen 0; have f1 := hA.1.frozen 1; have f2 := hA.1.frozen 2; have y0 := hA.2.1.cell 0; have y1 := hA.2.1.cell 1; have y2 := hA.2.1.cell 2; clear hk2 ho2 e1 e2 e3 hA hw5)
          | (go_at_call 58; (with_reducible refine (RB.out _ _ _ _ rfl rfl (.inl rfl)).mono ?_); rintro e w4 ⟨D, k, d, P1, P2, E2, rfl, ⟨⟨s1, s2, s3⟩, hk3⟩, hk2, ho2, e1, e2, e3⟩; have HO := Lib.hid (And.intro ho2 (And.intro e1 (And.intro e2 e3))); have t1 := World.new_ne w4 _ s1; have t2 := World.new_ne w4 _ s2; have t3 := World.new_ne w4 _ s3; have x0 := hk2.cell 0; have x1 := hk2.cell 1; have x2 := hk2.cell 2; have f0 := hk2.frozen 0; have f1 := hk2.frozen 1; have f2 := hk2.frozen 2; have y0 := hk3.cell 0; have y1 := hk3.cell 1; have y2 := hk3.cell 2; have g0 := hk3.frozen 0; have g1 := hk3.frozen 1; have g2 := hk3.frozen 2; clear hk2 hk3 ho2 e1 e2 e3))
          all_goals
            try rw [HW.out]
            go_wp2
            obtain ⟨⟨ho, hb, hz, hzl⟩, rfl, rfl, rfl⟩ := HO.out
            first
              | exact bodyPost_ret (v := .tuple #[.agg #[.int .i64 (rpC 10 I (l.drop 4).length), .int .i64 (rpI 10 I (l.drop 4).length), .slice D k d], .bool (rpE 10 I (l.drop 4).length == 0), .int .i64 (rpE 10 I (l.drop 4).length)]) (by simp [results, Try.results56, go_sem, x0, x1, x2, f0, f1, f2, y0, y1, y2]) rfl (echo_well E.out ((set3_own ((ho.later HA.out).base_le (show w.heap.size + 1 + 1 + 1 ≤ (World.drewN W3 _).heap.size by show _ ≤ W3.heap.size; omega)) _ _ _).base_le hz) (set3_below (hb.trans (HA.out.mono hb.size)) hz _ _ _))
              | exact bodyPost_ret (v := .tuple #[.agg #[.int .i64 (rpC 10 I (l.drop 4).length), .int .i64 (rpI 10 I (l.drop 4).length), .slice D k d], .bool (rpE 10 I (l.drop 4).length == 0), .int .i64 (rpE 10 I (l.drop 4).length)]) (by simp [results, Try.results56, go_sem, x0, x1, x2, f0, f1, f2, y0, y1, y2]) rfl (echo_well E.out ((set3_own ((set3_own (g := w.heap.size + 3) (ho.base_le (by simp; omega)) _ _ _).base_le (by omega)) _ _ _).base_le hz) (set3_below (set3_below (g := w.heap.size + 3) hb (by omega) _ _ _) hz _ _ _))
      · have E : Hid (ecV C I o.magic l = (0, 0, [], true, 0)) := by show _ = _; unfold ecV; rw [if_neg (by omega), if_neg (by simpa using hC), if_neg (fun h => h.1 hm), if_pos h9]
        rcases hC with rfl | rfl | rfl | rfl
        · exact absurd rfl h9
        all_goals
          have z0 := uz.cell 0
          have z1 := uz.cell 1
          have z2 := uz.cell 2
          have z3 := uz.frozen 0
          have z4 := uz.frozen 1
          have z5 := uz.frozen 2
          clear hr hl hrt NY0 h9 hm hW3
          go_enter Try.func56, Try.ntmps56
          go_upto_region 1 with (fail)
          rw [HW.out]
          clear HW
          go_upto_region 5 with (fail)
          go_quiet (fail)
          go_wp2
          exact bodyPost_ret (v := .tuple #[.agg #[.int .i64 0, .int .i64 0, .slice none 0 0], .bool true, .int .i64 0]) (by simp [results, Try.results56, go_sem, z0, z1, z2, z3, z4, z5]) rfl (echo_no E.out (set3_below (g := w.heap.size + 1 + 1) (below_drewN B3 _) (by omega) _ _ _))
    · have hm' : (o.magic != 0) = true := by simpa using hm
      by_cases hnum : num l 4 = o.magic
      · have E : Hid (ecV C I o.magic l = (0, 0, [], false, 0)) := by show _ = _; unfold ecV; rw [if_neg (by omega), if_neg (by simpa using hC), if_pos ⟨hm, hnum⟩]
        have hne : (num l 4 == o.magic) = true := by simpa using hnum
        rcases hC with rfl | rfl | rfl | rfl
        all_goals
          have z0 := uz.cell 0
          have z1 := uz.cell 1
          have z2 := uz.cell 2
          have z3 := uz.frozen 0
          have z4 := uz.frozen 1
          have z5 := uz.frozen 2
          clear hr hl hrt NY0 hnum hW3
          go_enter Try.func56, Try.ntmps56
          go_upto_region 1 with (fail)
          rw [HW.out]
          clear HW
          go_upto_region 5 with (fail)
          go_quiet ((go_at_call 110; refine (NY.out _).mono ?_; rintro e w1 ⟨rfl, rfl⟩; exact ⟨rfl, _, rfl⟩))
          go_wp2
          exact bodyPost_ret (v := .tuple #[.agg #[.int .i64 0, .int .i64 0, .slice none 0 0], .bool false, .int .i64 0]) (by simp [results, Try.results56, go_sem, z0, z1, z2, z3, z4, z5]) rfl (echo_no E.out (set3_below (g := w.heap.size + 1 + 1) (below_drewN B3 _) (by omega) _ _ _))
      · have hne : (num l 4 == o.magic) = false := by simpa using hnum
        by_cases h9 : C = 9
        · subst h9
          have E : Hid (ecV 9 I o.magic l = (rpC 10 I (l.drop 4).length, rpI 10 I (l.drop 4).length, rpL 10 I o.magic (l.drop 4), rpE 10 I (l.drop 4).length == 0, rpE 10 I (l.drop 4).length)) := by show _ = _; unfold ecV; rw [if_neg (by omega), if_neg (by simpa using hC), if_neg (fun h => hnum h.2), if_neg (by decide)]
          clear hr hl hrt NY0 hm hnum hW3
          rcases hc9 with rfl | hc9
          · have h44 : n = 4 := by omega
            subst h44
            go_enter Try.func56, Try.ntmps56
            go_upto_region 1 with (fail)
            rw [HW.out]
            clear HW
            go_upto_region 5 with (fail)
            go_quiet ((go_at_call 110; refine (NY.out _).mono ?_; rintro e w1 ⟨rfl, rfl⟩; exact ⟨rfl, _, rfl⟩))
            go_upto_region 9 with (fail)
            go_region_held3 (fun w' => w'.cell? ⟨w.heap.size, 1, none⟩ = some (.int .i64 I) ∧ w'.cell? ⟨w.heap.size + 1, 3, none⟩ = some (.int .u32 o.magic) ∧ w'.cell? ⟨w.heap.size, 2, none⟩ = some (.slice (some ⟨b, off, none⟩) 4 4)) (go_keep) (first
          | (go_at_call 58; (with_reducible refine (RA.out _ _ 0 0 (by simp) (by simp) (.inr (by simp))).mono ?_); rintro e w4 ⟨D, k, d, P1, P2, E2, rfl, ⟨s1, s2, s3⟩, hk2, ho2, e1, e2, e3⟩; have HO := Lib.hid (And.intro ho2 (And.intro e1 (And.intro e2 e3))); have t1 := World.new_ne w4 _ s1; have t2 := World.new_ne w4 _ s2; have t3 := World.new_ne w4 _ s3; obtain ⟨w5, hw5⟩ : ∃ W, w4.alloc (.cells #[.int .i64 P1, .int .i64 P2, .slice D k d] 54) = W := ⟨_, rfl⟩; have hA := after_alloc hk2 P1 P2 (.slice D k d); rw [hw5] at hA; have HW := Lib.hid hw5; have HA := Lib.hid hA.2.2; have x0 := hA.1.cell 0; have x1 := hA.1.cell 1; have x2 := hA.1.cell 2; have f0 := hA.1.frozen 0; have f1 := hA.1.frozen 1; have f2 := hA.1.frozen 2; have y0 := hA.2.1.cell 0; have y1 := hA.2.1.cell 1; have y2 := hA.2.1.cell 2; clear hk2 ho2 e1 e2 e3 hA hw5)
          | (go_at_call 58; (with_reducible refine (RB.out _ _ 0 0 (by simp) (by simp) (.inr (by simp))).mono ?_); rintro e w4 ⟨D, k, d, P1, P2, E2, rfl, ⟨⟨s1, s2, s3⟩, hk3⟩, hk2, ho2, e1, e2, e3⟩; have HO := Lib.hid (And.intro ho2 (And.intro e1 (And.intro e2 e3))); have t1 := World.new_ne w4 _ s1; have t2 := World.new_ne w4 _ s2; have t3 := World.new_ne w4 _ s3; have x0 := hk2.cell 0; have x1 := hk2.cell 1; have x2 := hk2.cell 2; have f0 := hk2.frozen 0; have f1 := hk2.frozen 1; have f2 := hk2.frozen 2; have y0 := hk3.cell 0; have y1 := hk3.cell 1; have y2 := hk3.cell 2; have g0 := hk3.frozen 0; have g1 := hk3.frozen 1; have g2 := hk3.frozen 2; clear hk2 hk3 ho2 e1 e2 e3))
            all_goals
              try rw [HW.out]
              go_wp2
              obtain ⟨⟨ho, hb, hz, hzl⟩, rfl, rfl, rfl⟩ := HO.out
              first
                | exact bodyPost_ret (v := .tuple #[.agg #[.int .i64 (rpC 10 I (l.drop 4).length), .int .i64 (rpI 10 I (l.drop 4).length), .slice D k d], .bool (rpE 10 I (l.drop 4).length == 0), .int .i64 (rpE 10 I (l.drop 4).length)]) (by simp [results, Try.results56, go_sem, x0, x1, x2, f0, f1, f2, y0, y1, y2]) rfl (echo_well E.out ((set3_own ((ho.later HA.out).base_le (show w.heap.size + 1 + 1 + 1 ≤ (World.drewN W3 _).heap.size by show _ ≤ W3.heap.size; omega)) _ _ _).base_le hz) (set3_below (hb.trans (HA.out.mono hb.size)) hz _ _ _))
                | exact bodyPost_ret (v := .tuple #[.agg #[.int .i64 (rpC 10 I (l.drop 4).length), .int .i64 (rpI 10 I (l.drop 4).length), .slice D k d], .bool (rpE 10 I (l.drop 4).length == 0), .int .i64 (rpE 10 I (l.drop 4).length)]) (by simp [results, Try.results56, go_sem, x0, x1, x2, f0, f1, f2, y0, y1, y2]) rfl (echo_well E.out ((set3_own ((set3_own (g := w.heap.size + 3) (ho.base_le (by simp; omega)) _ _ _).base_le (by omega)) _ _ _).base_le hz) (set3_below (set3_below (g := w.heap.size + 3) hb (by omega) _ _ _) hz _ _ _))
          · have hc' : ¬ c = 4 := by omega
            go_enter Try.func56, Try.ntmps56
            go_upto_region 1 with (fail)
            rw [HW.out]
            clear HW
            go_upto_region 5 with (fail)
            go_quiet ((go_at_call 110; refine (NY.out _).mono ?_; rintro e w1 ⟨rfl, rfl⟩; exact ⟨rfl, _, rfl⟩))
            go_upto_region 9 with (fail)
            go_region_held3 (fun w' => w'.cell? ⟨w.heap.size, 1, none⟩ = some (.int .i64 I) ∧ w'.cell? ⟨w.heap.size + 1, 3, none⟩ = some (.int .u32 o.magic) ∧ w'.cell? ⟨w.heap.size, 2, none⟩ = some (.slice (some ⟨b, off, none⟩) n c)) (go_keep) (first
          | (go_at_call 58; (with_reducible refine (RA.out _ _ _ _ rfl rfl (.inl rfl)).mono ?_); rintro e w4 ⟨D, k, d, P1, P2, E2, rfl, ⟨s1, s2, s3⟩, hk2, ho2, e1, e2, e3⟩; have HO := Lib.hid (And.intro ho2 (And.intro e1 (And.intro e2 e3))); have t1 := World.new_ne w4 _ s1; have t2 := World.new_ne w4 _ s2; have t3 := World.new_ne w4 _ s3; obtain ⟨w5, hw5⟩ : ∃ W, w4.alloc (.cells #[.int .i64 P1, .int .i64 P2, .slice D k d] 54) = W := ⟨_, rfl⟩; have hA := after_alloc hk2 P1 P2 (.slice D k d); rw [hw5] at hA; have HW := Lib.hid hw5; have HA := Lib.hid hA.2.2; have x0 := hA.1.cell 0; have x1 := hA.1.cell 1; have x2 := hA.1.cell 2; have f0 := hA.1.frozen 0; have f1 := hA.1.frozen 1; have f2 := hA.1.frozen 2; have y0 := hA.2.1.cell 0; have y1 := hA.2.1.cell 1; have y2 := hA.2.1.cell 2; clear hk2 ho2 e1 e2 e3 hA hw5)
          | (go_at_call 58; (with_reducible refine (RB.out _ _ _ _ rfl rfl (.inl rfl)).mono ?_); rintro e w4 ⟨D, k, d, P1, P2, E2, rfl, ⟨⟨s1, s2, s3⟩, hk3⟩, hk2, ho2, e1, e2, e3⟩; have HO := Lib.hid (And.intro ho2 (And.intro e1 (And.intro e2 e3))); have t1 := World.new_ne w4 _ s1; have t2 := World.new_ne w4 _ s2; have t3 := World.new_ne w4 _ s3; have x0 := hk2.cell 0; have x1 := hk2.cell 1; have x2 := hk2.cell 2; have f0 := hk2.frozen 0; have f1 := hk2.frozen 1; have f2 := hk2.frozen 2; have y0 := hk3.cell 0; have y1 := hk3.cell 1; have y2 := hk3.cell 2; have g0 := hk3.frozen 0; have g1 := hk3.frozen 1; have g2 := hk3.frozen 2; clear hk2 hk3 ho2 e1 e2 e3))
            all_goals
              try rw [HW.out]
              go_wp2
              obtain ⟨⟨ho, hb, hz, hzl⟩, rfl, rfl, rfl⟩ := HO.out
              first
                | exact bodyPost_ret (v := .tuple #[.agg #[.int .i64 (rpC 10 I (l.drop 4).length), .int .i64 (rpI 10 I (l.drop 4).length), .slice D k d], .bool (rpE 10 I (l.drop 4).length == 0), .int .i64 (rpE 10 I (l.drop 4).length)]) (by simp [results, Try.results56, go_sem, x0, x1, x2, f0, f1, f2, y0, y1, y2]) rfl (echo_well E.out ((set3_own ((ho.later HA.out).base_le (show w.heap.size + 1 + 1 + 1 ≤ (World.drewN W3 _).heap.size by show _ ≤ W3.heap.size; omega)) _ _ _).base_le hz) (set3_below (hb.trans (HA.out.mono hb.size)) hz _ _ _))
                | exact bodyPost_ret (v := .tuple #[.agg #[.int .i64 (rpC 10 I (l.drop 4).length), .int .i64 (rpI 10 I (l.drop 4).length), .slice D k d], .bool (rpE 10 I (l.drop 4).length == 0), .int .i64 (rpE 10 I (l.drop 4).length)]) (by simp [results, Try.results56, go_sem, x0, x1, x2, f0, f1, f2, y0, y1, y2]) rfl (echo_well E.out ((set3_own ((set3_own (g := w.heap.size + 3) (ho.base_le (by simp; omega)) _ _ _).base_le (by omega)) _ _ _).base_le hz) (set3_below (set3_below (g := w.heap.size + 3) hb (by omega) _ _ _) hz _ _ _))
        · have E : Hid (ecV C I o.magic l = (0, 0, [], true, 0)) := by show _ = _; unfold ecV; rw [if_neg (by omega), if_neg (by simpa using hC), if_neg (fun h => hnum h.2), if_pos h9]
          rcases hC with rfl | rfl | rfl | rfl
          · exact absurd rfl h9
          all_goals
            have z0 := uz.cell 0
            have z1 := uz.cell 1
            have z2 := uz.cell 2
            have z3 := uz.frozen 0
            have z4 := uz.frozen 1
            have z5 := uz.frozen 2
            clear hr hl hrt NY0 h9 hm hnum hW3
            go_enter Try.func56, Try.ntmps56
            go_upto_region 1 with (fail)
            rw [HW.out]
            clear HW
            go_upto_region 5 with (fail)
            go_quiet ((go_at_call 110; refine (NY.out _).mono ?_; rintro e w1 ⟨rfl, rfl⟩; exact ⟨rfl, _, rfl⟩))
            go_wp2
            exact bodyPost_ret (v := .tuple #[.agg #[.int .i64 0, .int .i64 0, .slice none 0 0], .bool true, .int .i64 0]) (by simp [results, Try.results56, go_sem, z0, z1, z2, z3, z4, z5]) rfl (echo_no E.out (set3_below (g := w.heap.size + 1 + 1) (below_drewN B3 _) (by omega) _ _ _))
  · have E : Hid (ecV C I o.magic l = (0, 0, [], false, 90)) := by show _ = _; unfold ecV; rw [if_neg (by omega), if_pos hC]
    unfold isE at hC
    have k9 : (C != 9) = true := by simp; omega
    have k10 : (C != 10) = true := by simp; omega
    have k11 : (C != 11) = true := by simp; omega
    have k12 : (C != 12) = true := by simp; omega
    clear hr hl hC
    go_enter Try.func56, Try.ntmps56
    go_wp2
    exact bodyPost_ret (v := .tuple #[.agg #[.int .i64 0, .int .i64 0, .slice none 0 0], .bool false, .int .i64 90]) (by simp [results, Try.results56, go_sem]) rfl (echo_no E.out ((((Below.refl _ _).alloc (Nat.le_refl _) _).alloc (by simp) _).alloc (by simp; omega) _))
end Go.Proofs.Ytonbdcajepmgbaa
