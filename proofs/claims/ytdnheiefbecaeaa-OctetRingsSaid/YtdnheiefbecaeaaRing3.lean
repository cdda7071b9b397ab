/-
  octet's rings: Peek, Drop, Read.
-/
import Derived.Test.YtdnheiefbecaeaaRing2
import Derived.Test.YtdnheiefbecaeaaClone0
namespace Go.Proofs.Ytdnheiefbecaeaa
open Go.RowKit
set_option maxRecDepth 100000
set_option maxHeartbeats 2000000
set_option linter.unusedSimpArgs false
set_option linter.unusedVariables false

theorem Blk.rdo {w : World} {c : Nat} {cs : List UInt8} (hb : Blk w c 5 (cs.map cellOf)) (o : Nat) : Rd w w.heap.size (some ⟨c, o, none⟩) (cs.length - o) (cs.drop o) := by
  refine ⟨List.length_drop, fun h0 => ⟨c, o, rfl, hb.lt, fun j hj => ?_⟩⟩
  rw [hb.cell, cells_at _ _ (by omega)]
  congr 2
  unfold byteAt
  rw [List.getD_eq_getElem?_getD, List.getD_eq_getElem?_getD, List.getElem?_drop]
theorem over_two (m k : Nat) (a b : List UInt8) (ha : a.length = k) (hb : b.length = m - k) (hk : k ≤ m) : over (over (List.replicate m 0) 0 a) k b = a ++ b := by
  unfold over
  simp only [List.take_zero, List.nil_append, Nat.zero_add]
  rw [List.take_append_of_le_length (by omega), List.take_of_length_le (by omega), List.drop_of_length_le (by simp; omega), List.append_nil]
theorem over_nothing (l : List UInt8) (o : Nat) : over l o [] = l := by
  unfold over
  simp
theorem over_all (l a : List UInt8) (h : a.length = l.length) : over l 0 a = a := by
  unfold over
  rw [List.take_zero, List.nil_append, List.drop_of_length_le (by omega), List.append_nil]
theorem ringpeek_any (g c room f h : Nat) (n : Int) (cs : List UInt8) (w : World) (r : RingAt w g c room f h cs) :
    Calls Try.prog 15 #[.pointer (some ⟨g, 0, none⟩), .int .i64 n] w fun e w' => ∃ b, e = .returned (.slice (some ⟨b, 0, none⟩) (reach h n) (reach h n)) ∧ Own w' w.heap.size (.slice (some ⟨b, 0, none⟩) (reach h n) (reach h n)) (ringOf cs f (reach h n)) ∧ Below w.heap.size w w' := by
  have RC := Lib.hid (ringreach_any g c room f h n cs w r)
  have hm : reach h n ≤ h := by unfold reach; omega
  generalize reach h n = m at *
  have hf := r.first
  have hh := r.held
  have hmost := r.most
  have hcl := r.len
  obtain ⟨c0, c1, c2⟩ := r.at0
  have hglt := r.ring.lt
  have hclt := r.cells.lt
  have hmk := fun w => mk_run m (m : Int) rfl (by omega) w
  obtain ⟨k, hk⟩ : ∃ k, k = min (room - f) m := ⟨_, rfl⟩
  have d0 : (w.alloc (.cells (zeros m).toArray 5)).cell? ⟨g, 0, none⟩ = some (.slice (some ⟨c, 0, none⟩) room room) := (World.cell?_alloc_lt w _ ⟨g, 0, none⟩ hglt).trans c0
  have d1 : (w.alloc (.cells (zeros m).toArray 5)).cell? ⟨g, 1, none⟩ = some (.int .i64 (f : Int)) := (World.cell?_alloc_lt w _ ⟨g, 1, none⟩ hglt).trans c1
  have ez : zeros m = (List.replicate m (0 : UInt8)).map cellOf := by simp [zeros, cellOf]
  have hb0 : Blk (w.alloc (.cells (zeros m).toArray 5)).drew w.heap.size 5 ((List.replicate m (0 : UInt8)).map cellOf) := by
    rw [← ez]
    exact blk_new w _ _
  have hcb0 : Blk (w.alloc (.cells (zeros m).toArray 5)).drew c 5 (cs.map cellOf) := (Below.heap_alloc w _ c hclt).trans r.cells
  have hrd0 := hcb0.rdo f
  rw [hcl] at hrd0
  obtain ⟨w2, r2, b2, g2⟩ := copy_run hb0 0 m m (room - f) hrd0 k hk (by simp; omega)
  rw [over_cells _ 0 (cs.drop f) k (by rw [List.length_drop, hcl]; omega)] at b2
  have B2 : Below w.heap.size w w2 := (below_drewN ((Below.refl _ _).alloc (Nat.le_refl _) _) 1).grown g2 (by simp) (by intro j hj; injection hj with hj; omega)
  have e0 : w2.cell? ⟨g, 0, none⟩ = some (.slice (some ⟨c, 0, none⟩) room room) := (B2.cell (p := ⟨g, 0, none⟩) hglt).trans c0
  have hcb2 : Blk w2.drew c 5 (cs.map cellOf) := (B2.block c hclt).trans r.cells
  have hrd2 := hcb2.rdo 0
  rw [hcl, List.drop_zero, Nat.sub_zero] at hrd2
  have lk : ((cs.drop f).take k).length = k := by rw [List.length_take, List.length_drop, hcl]; omega
  have lo : (over (List.replicate m 0) 0 ((cs.drop f).take k)).length = m := by rw [over_length _ _ _ (by rw [lk, List.length_replicate]; omega), List.length_replicate]
  have key : ∀ o, (o = k ∨ m - k = 0) → o ≤ m → ∃ w3, (Builtin.copy_ #[27, 27] 3 #[.slice (some ⟨w.heap.size, o, none⟩) (m - k) (m - k), .slice (some ⟨c, 0, none⟩) room room]).run Try.prog w2.drew = .ok (goInt ((m - k : Nat) : Int)) w3 ∧
      Blk w3 w.heap.size 5 ((ringOf cs f m).map cellOf) ∧ Below w.heap.size w w3 := by
    intro o ho hom
    obtain ⟨w3, r3, b3, g3⟩ := copy_run (w := w2.drew) b2 o (m - k) (m - k) room hrd2 (m - k) (by omega) (by rw [List.length_map, lo]; omega)
    rw [over_cells _ o cs (m - k) (by rw [hcl]; omega)] at b3
    refine ⟨w3, r3, ?_, (below_drewN B2 1).grown g3 (show w.heap.size ≤ w2.heap.size from B2.size) (by intro j hj; injection hj with hj; omega)⟩
    have e : over (over (List.replicate m 0) 0 ((cs.drop f).take k)) o (cs.take (m - k)) = ringOf cs f m := by
      have hp := ringOf_peek cs f m k (by omega) (by omega) (by rw [hcl, Nat.min_comm]; exact hk)
      have hl2 : (cs.take (m - k)).length = m - k := by rw [List.length_take, hcl]; omega
      rcases ho with rfl | h0
      · rw [over_two m o _ _ lk hl2 (by omega)]
        exact hp
      · rw [h0, List.take_zero, over_nothing, over_all _ _ (by rw [lk, List.length_replicate]; omega)]
        rw [h0, List.take_zero, List.append_nil] at hp
        exact hp
    rw [e] at b3
    exact b3
  have K := Lib.hid key
  have CP1 := Lib.hid r2
  have hfI : (f : Int) < (room : Int) := by omega
  have hfN : f ≤ room := by omega
  have hrf : ¬ room = f := by omega
  have hkI : (k : Int) ≤ (m : Int) := by omega
  have hkN : k ≤ m := by omega
  clear key r2 b2 g2 B2 hcb2 hrd2 lk lo ez hb0 hcb0 hrd0 r hk
  by_cases hkm : m = k
  · obtain ⟨w3, r3, b3, B3⟩ := K.out 0 (.inr (by omega)) (by omega)
    have OW := Lib.hid (own_of_blk (base := w.heap.size) b3 (Nat.le_refl _) (by rw [ringOf_length]; omega))
    rw [ringOf_length] at OW
    have e1 : m - k = 0 := by omega
    rw [e1] at r3
    have CP2 := Lib.hid r3
    have BB := Lib.hid B3
    clear r3 b3 B3 K e1
    subst hkm
    go_enter Try.func15, Try.ntmps15
    go_wp2_with fail
    refine (RC.out).mono ?_
    rintro e w1 ⟨rfl, rfl⟩
    go_wp2
    refine wp_region_still_tail 10 (by kernel_rfl) (by kernel_rfl) ?_
    simp only [List.take_succ_cons, List.take_zero, List.drop_succ_cons, List.drop_zero]
    change wpStill _ _ (w.alloc (.cells (zeros m).toArray 5)).drew _ _ _
    iterate 10 still_step
    refine wpStill_nil ?_
    change wpList _ _ _ _ _ (w.alloc (.cells (zeros m).toArray 5)).drew
    refine wpList_cpy rfl (.tmp 13) (.tmp 22) rfl _ _ rfl rfl _ _ CP1.out ?_
    go_wp2
    refine wp_region_still_tail 7 (by kernel_rfl) (by kernel_rfl) ?_
    simp only [List.take_succ_cons, List.take_zero, List.drop_succ_cons, List.drop_zero]
    change wpStill _ _ w2.drew _ _ _
    iterate 7 still_step
    refine wpStill_nil ?_
    change wpList _ _ _ _ _ w2.drew
    refine wpList_cpy rfl (.tmp 26) (.tmp 30) rfl _ _ rfl rfl _ _ CP2.out ?_
    go_wp2
    go_ret
    exact ⟨_, rfl, OW.out, BB.out⟩
  · obtain ⟨w3, r3, b3, B3⟩ := K.out k (.inl rfl) (by omega)
    have OW := Lib.hid (own_of_blk (base := w.heap.size) b3 (Nat.le_refl _) (by rw [ringOf_length]; omega))
    rw [ringOf_length] at OW
    have CP2 := Lib.hid r3
    have BB := Lib.hid B3
    clear r3 b3 B3 K
    go_enter Try.func15, Try.ntmps15
    go_wp2_with fail
    refine (RC.out).mono ?_
    rintro e w1 ⟨rfl, rfl⟩
    go_wp2
    refine wp_region_still_tail 10 (by kernel_rfl) (by kernel_rfl) ?_
    simp only [List.take_succ_cons, List.take_zero, List.drop_succ_cons, List.drop_zero]
    change wpStill _ _ (w.alloc (.cells (zeros m).toArray 5)).drew _ _ _
    iterate 10 still_step
    refine wpStill_nil ?_
    change wpList _ _ _ _ _ (w.alloc (.cells (zeros m).toArray 5)).drew
    refine wpList_cpy rfl (.tmp 13) (.tmp 22) rfl _ _ rfl rfl _ _ CP1.out ?_
    go_wp2
    refine wp_region_still_tail 7 (by kernel_rfl) (by kernel_rfl) ?_
    simp only [List.take_succ_cons, List.take_zero, List.drop_succ_cons, List.drop_zero]
    change wpStill _ _ w2.drew _ _ _
    iterate 7 still_step
    refine wpStill_nil ?_
    change wpList _ _ _ _ _ w2.drew
    refine wpList_cpy rfl (.tmp 26) (.tmp 30) rfl _ _ rfl rfl _ _ CP2.out ?_
    go_wp2
    go_ret
    exact ⟨_, rfl, OW.out, BB.out⟩

theorem ringdrop_any (g c room f h : Nat) (n : Int) (cs : List UInt8) (w : World) (r : RingAt w g c room f h cs) :
    Calls Try.prog 16 #[.pointer (some ⟨g, 0, none⟩), .int .i64 n] w fun e w' => e = .returned (.int .i64 ((reach h n : Nat) : Int)) ∧ RingAt w' g c room (around room f (reach h n)) (h - reach h n) cs ∧ w.grownBy w' (some g) := by
  have RC := Lib.hid (ringreach_any g c room f h n cs w r)
  have hm : reach h n ≤ h := by unfold reach; omega
  generalize reach h n = m at *
  have hh := r.held
  have hmost := r.most
  have CL := Lib.hid (ringcell_any g c room f h m cs w r (by omega))
  have hal := around_lt (f := f) (h := m) r.first (by omega)
  generalize around room f m = a at *
  obtain ⟨c0, c1, c2⟩ := r.at0
  have f1 := r.ring.frozen 1
  have hb1 := r.ring.set_ 1 (.int .i64 (a : Int))
  have f2 := Blk.frozen hb1 2
  have hb2 := Blk.set_ hb1 2 (.int .i64 ((h : Int) - (m : Int)))
  have HB := Lib.hid hb2
  have RR := Lib.hid r
  have hhm : (m : Int) ≤ (h : Int) := by omega
  clear r hb1 hb2
  go_enter Try.func16, Try.ntmps16
  go_wp2_with fail
  refine (RC.out).mono ?_
  rintro e w1 ⟨rfl, rfl⟩
  go_wp2_with fail
  refine (CL.out).mono ?_
  rintro e w1 ⟨rfl, rfl⟩
  go_wp2
  go_ret
  have G := only_then (only_set (w := w) (p := ⟨g, 1, none⟩) (.int .i64 (a : Int))) (only_set (w := w.setCell ⟨g, 1, none⟩ (.int .i64 (a : Int))) (p := ⟨g, 2, none⟩) (.int .i64 ((h : Int) - (m : Int)))) (fun i hi => .inl hi)
  refine ⟨rfl, ⟨?_, (G.block c RR.out.cells.lt (by simpa using fun e => RR.out.apart e.symm)).trans RR.out.cells, RR.out.len, hal, by omega, RR.out.most, RR.out.apart⟩, G⟩
  rw [show ((h - m : Nat) : Int) = (h : Int) - (m : Int) by omega]
  exact HB.out

theorem ringread_any (g c room f h : Nat) (n : Int) (cs : List UInt8) (w : World) (r : RingAt w g c room f h cs) :
    Calls Try.prog 11 #[.pointer (some ⟨g, 0, none⟩), .int .i64 n] w fun e w' => ∃ b, e = .returned (.slice (some ⟨b, 0, none⟩) (reach h n) (reach h n)) ∧ Own w' w.heap.size (.slice (some ⟨b, 0, none⟩) (reach h n) (reach h n)) (ringOf cs f (reach h n)) ∧ RingAt w' g c room (around room f (reach h n)) (h - reach h n) cs ∧ w.grownBy w' (some g) := by
  have PK := Lib.hid (ringpeek_any g c room f h n cs w r)
  have RR := Lib.hid r
  clear r
  go_enter Try.func11, Try.ntmps11
  go_wp2_with fail
  refine (PK.out).mono ?_
  rintro e w1 ⟨b, rfl, ho, hB⟩
  have R1 := RR.out.kept (only_of_below hB none) (by simp) (by simp)
  have DR := Lib.hid (ringdrop_any g c room f h n cs w1 R1)
  have OW := Lib.hid ho
  have BB := Lib.hid hB
  have hgb := (ho.block b rfl).1
  have GB : Hid (b ≠ g) := by show _ ≠ _; have := RR.out.ring.lt; omega
  clear R1 ho hB hgb
  go_wp2_with fail
  refine (DR.out).mono ?_
  rintro e w2 ⟨rfl, hR2, hG2⟩
  have R2 := Lib.hid hR2
  have O2 := Lib.hid (OW.out.grown hG2 (.inr (by simpa [Value.ownBlock] using GB.out)))
  have G2 := Lib.hid (only_then (only_of_below BB.out (some g)) hG2 (fun i hi => .inl hi))
  clear hR2 hG2
  go_wp2
  go_ret
  exact ⟨b, rfl, O2.out, R2.out, G2.out⟩
end Go.Proofs.Ytdnheiefbecaeaa
