/-
  pap.ReadAnswer, whole.
-/
import Derived.Test.YtglboagjmbjehaaPaRa
namespace Go.Proofs.Ytglboagjmbjehaa
open Go.RowKit Go.Shelf
set_option maxRecDepth 100000
set_option maxHeartbeats 4000000
set_option linter.unusedSimpArgs false
set_option linter.unusedVariables false

theorem readAnswer_any (code id : Int) (D : Option Addr) (k d B : Nat) (l : List UInt8) (w : World) (hr : Rd w B D k l) (hB : B ≤ w.heap.size) (hkd : k ≤ d) (hnil : D = none → d = 0) :
    Calls Try.prog 41 #[.agg #[.int .i64 code, .int .i64 id, .slice D k d]] w fun e w' => e = .returned (.tuple #[.bool (raO code id l), .string (raS code id l), .int .i64 (raE code id l)]) ∧ Below w.heap.size w w' := by
  have hmf : ∀ (fn : Fn) (first cap : Array Value) (w : World), (Instr.makeFunc fn first cap).run Try.prog w = .ok (.func fn first cap) w := fun _ _ _ _ => rfl
  obtain ⟨V, hV⟩ : ∃ V, ((w.alloc (.cells #[.int .i64 code, .int .i64 id, .slice D k d] 38)).alloc (.cells #[.bool false] 4)).alloc (.cells #[.string ⟨#[]⟩] 9) = V := ⟨_, rfl⟩
  have hBV : Below w.heap.size w V := by rw [← hV]; exact (((Below.refl _ _).alloc (Nat.le_refl _) _).alloc (by simp) _).alloc (by simp; omega) _
  have zV : V.heap.size = w.heap.size + 3 := by rw [← hV]; simp
  have h0 : Blk V w.heap.size 38 [.int .i64 code, .int .i64 id, .slice D k d] := by
    rw [← hV]
    exact (Below.heap_alloc _ _ _ (by simp; omega)).trans ((Below.heap_alloc _ _ _ (by simp)).trans (heap_alloc_new w _))
  have h1 : Blk V (w.heap.size + 1) 4 [.bool false] := by
    rw [← hV]
    refine (Below.heap_alloc _ _ _ (by simp)).trans ?_
    have h := heap_alloc_new (w.alloc (.cells #[.int .i64 code, .int .i64 id, .slice D k d] 38)) (.cells #[.bool false] 4)
    rw [World.size_alloc] at h
    exact h
  have h2 : Blk V (w.heap.size + 1 + 1) 9 [.string ⟨#[]⟩] := by
    rw [← hV]
    have h := heap_alloc_new ((w.alloc (.cells #[.int .i64 code, .int .i64 id, .slice D k d] 38)).alloc (.cells #[.bool false] 4)) (.cells #[.string ⟨#[]⟩] 9)
    rw [World.size_alloc, World.size_alloc] at h
    exact h
  obtain ⟨V4, hV4⟩ : ∃ V4, V.alloc (.cells #[.int .i64 0] 28) = V4 := ⟨_, rfl⟩
  have hB4 : Below V.heap.size V V4 := by rw [← hV4]; exact (Below.refl _ _).alloc (Nat.le_refl _) _
  have h4 : Blk V4 V.heap.size 28 [.int .i64 0] := by rw [← hV4]; exact heap_alloc_new V _
  have z4 := hB4.size
  have RQ := ra1_any w.heap.size (w.heap.size + 1) (w.heap.size + 1 + 1) code id D k d B l V4 ((hB4.block _ (Blk.lt h0)).trans h0) ((hB4.block _ (Blk.lt h1)).trans h1) ((hB4.block _ (Blk.lt h2)).trans h2) (by omega) ((hr.below (hBV.mono hB)).below (hB4.mono (by omega))) (by omega) hkd hnil
  have CA := caught_any 60 #[.pointer (some ⟨w.heap.size, 0, none⟩), .pointer (some ⟨w.heap.size + 1, 0, none⟩), .pointer (some ⟨w.heap.size + 1 + 1, 0, none⟩)] V (fun q w1 => q = raE code id l ∧ Wb2 V4 w1 (w.heap.size + 1) (w.heap.size + 1 + 1) (raO code id l) (raS code id l)) (fun _ => by kernel_rfl) (by
    rw [hV4]
    refine RQ.mono ?_
    rintro e w1 ⟨hw, h⟩
    refine ⟨(hw.block _ (Blk.lt h4) (by omega) (by omega)).trans h4, ?_⟩
    rcases h with ⟨hz, rfl⟩ | ⟨hz, rfl⟩
    · exact .inl ⟨rfl, hz.symm, hw⟩
    · exact .inr ⟨_, rfl, rfl, hw⟩)
  obtain ⟨er, her⟩ : ∃ er, raE code id l = er := ⟨_, rfl⟩
  obtain ⟨sa, hsa⟩ : ∃ sa, raO code id l = sa := ⟨_, rfl⟩
  obtain ⟨sb, hsb⟩ : ∃ sb, raS code id l = sb := ⟨_, rfl⟩
  rw [her, hsa, hsb] at CA ⊢
  have C : Hid (Calls Try.prog 50 #[.func (.func 60) #[] #[.pointer (some ⟨w.heap.size, 0, none⟩), .pointer (some ⟨w.heap.size + 1, 0, none⟩), .pointer (some ⟨w.heap.size + 1 + 1, 0, none⟩)]] V fun e w2 => e = .returned (.int .i64 er) ∧ w.heap.size + 1 + 1 < w2.heap.size ∧ Blk w2 (w.heap.size + 1) 4 [.bool sa] ∧ Blk w2 (w.heap.size + 1 + 1) 9 [.string sb] ∧ Below w.heap.size w w2) := by
    refine CA.mono ?_
    rintro e w2 ⟨q, w1, rfl, ⟨rfl, hw⟩, rfl⟩
    have hs : w1.grownBy (w1.setCell ⟨V.heap.size, 0, none⟩ (.int .i64 q)) (some V.heap.size) := gset' _ _ _ _
    have zs := hs.size
    have zw := hw.size
    have zb := Blk.lt h4
    refine ⟨rfl, by omega, (hs.block _ (by omega) (by intro e; injection e with e; omega)).trans hw.b1, (hs.block _ (by omega) (by intro e; injection e with e; omega)).trans hw.b2, ?_⟩
    exact ((hBV.trans (hB4.mono (by omega))).trans (hw.below (by omega) (by omega) (by omega))).grown hs (by omega) (fun q e => by cases e; omega)
  have HV := Lib.hid hV
  clear CA RQ h0 h1 h2 h4 hB4 hBV hV hV4 hr her hsa hsb
  go_enter Try.func41, Try.ntmps41
  go_upto_region 1 with (fail)
  rw [HV.out]
  go_upto_region 2 with (go_at_call 50; ((with_reducible refine C.out.mono ?_); rintro e w2 ⟨rfl, z2, b1, b2, hb⟩; have x1 := b1.cell 0; have x2 := b2.cell 0; have f1 := b1.frozen 0; have f2 := b2.frozen 0; have B1 := Lib.hid b1; have B2 := Lib.hid b2; have HB := Lib.hid hb; clear b1 b2 hb))
  have hs1 : w2.grownBy (w2.setCell ⟨w.heap.size + 1, 0, none⟩ (.bool sa)) (some (w.heap.size + 1)) := gset' _ _ _ _
  have hs2 : (w2.setCell ⟨w.heap.size + 1, 0, none⟩ (.bool sa)).grownBy ((w2.setCell ⟨w.heap.size + 1, 0, none⟩ (.bool sa)).setCell ⟨w.heap.size + 1 + 1, 0, none⟩ (.string sb)) (some (w.heap.size + 1 + 1)) := gset' _ _ _ _
  have k1 : Blk ((w2.setCell ⟨w.heap.size + 1, 0, none⟩ (.bool sa)).setCell ⟨w.heap.size + 1 + 1, 0, none⟩ (.string sb)) (w.heap.size + 1) 4 [.bool sa] := (hs2.block _ (by have := hs1.size; omega) (by intro e; injection e with e; omega)).trans (B1.out.set_ 0 _)
  have k2 : Blk ((w2.setCell ⟨w.heap.size + 1, 0, none⟩ (.bool sa)).setCell ⟨w.heap.size + 1 + 1, 0, none⟩ (.string sb)) (w.heap.size + 1 + 1) 9 [.string sb] := Blk.set_ (show Blk (w2.setCell ⟨w.heap.size + 1, 0, none⟩ (.bool sa)) (w.heap.size + 1 + 1) 9 _ from (hs1.block _ (by omega) (by intro e; injection e with e; omega)).trans B2.out) 0 _
  have y1 := k1.cell 0
  have y2 := k2.cell 0
  have FIN : Hid (∀ n, Below w.heap.size w (((w2.setCell ⟨w.heap.size + 1, 0, none⟩ (.bool sa)).setCell ⟨w.heap.size + 1 + 1, 0, none⟩ (.string sb)).drewN n)) := fun n => by
    have h := (HB.out.setCell (p := ⟨w.heap.size + 1, 0, none⟩) (by show _ ≤ w.heap.size + 1; omega) (.bool sa)).setCell (p := ⟨w.heap.size + 1 + 1, 0, none⟩) (by show _ ≤ w.heap.size + 1 + 1; omega) (.string sb)
    exact ⟨h.os, h.tape, h.output, h.size, h.block⟩
  clear hs1 hs2 k1 k2
  go_region
  all_goals
    go_wp2
    refine bodyPost_ret (v := .tuple #[.bool sa, .string sb, .int .i64 er]) (by simp [results, Try.results41, go_sem, y1, y2]) rfl ⟨rfl, ?_⟩
    first | exact FIN.out 1 | exact FIN.out 0
end Go.Proofs.Ytglboagjmbjehaa
