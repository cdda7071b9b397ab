/-
  tetherref04's words as sixteen bytes.
-/
import Derived.Test.YtdijgmijnoiliaaDoorMdBytes
namespace Go.Proofs.YtdijgmijnoiliaaDoor
open Go.RowKit
set_option maxRecDepth 100000
set_option maxHeartbeats 2000000
set_option linter.unusedSimpArgs false
set_option linter.unusedVariables false

theorem told_any (v : W4) (w : World) (hv : v.ok) :
    Calls Tryd.prog 53 #[.agg #[.int .u32 v.a, .int .u32 v.b, .int .u32 v.c, .int .u32 v.d]] w fun e w' => e = .returned (.agg (partB v 16).toArray) ∧ Below w.heap.size w w' := by
  have HV := Lib.hid hv
  clear hv
  go_enter Tryd.func53, Tryd.ntmps53
  go_wp2
  go_loopw [17] (fun vi wr => ∃ r : Nat, vi = .int .i64 r ∧ r ≤ 4 ∧ Blk wr (w.heap.size + 1) 47 (partB v 0) ∧ Blk wr (w.heap.size + 1 + 1) 47 (partB v (4 * r)) ∧ Blk wr (w.heap.size + 1 + 1 + 1) 93 (cells4 v) ∧ Below w.heap.size w wr) (fun vi _ => 4 - (intOf vi).toNat)
  case atStart =>
    have e0 : partB v 0 = List.replicate 16 (.int .u8 0) := rfl
    have b1 := blk_new (w.alloc (.cells (cells4 v).toArray 95)) 47 (partB v 0)
    have b2 := blk_new ((w.alloc (.cells (cells4 v).toArray 95)).alloc (.cells (partB v 0).toArray 47)) 47 (partB v 0)
    have b3 := blk_new (((w.alloc (.cells (cells4 v).toArray 95)).alloc (.cells (partB v 0).toArray 47)).alloc (.cells (partB v 0).toArray 47)) 93 (cells4 v)
    rw [World.size_alloc] at b1
    rw [World.size_alloc, World.size_alloc] at b2
    rw [World.size_alloc, World.size_alloc, World.size_alloc] at b3
    rw [e0] at b1 b2 b3
    refine ⟨0, rfl, by omega, ?_, ?_, ?_, ((((Below.refl _ _).alloc (Nat.le_refl _) _).alloc (by simp) _).alloc (by simp; omega) _).alloc (by simp; omega) _⟩
    · rw [e0]
      exact (Below.heap_alloc _ _ _ (by simp)).trans ((Below.heap_alloc _ _ _ (by simp)).trans b1)
    · rw [Nat.mul_zero, e0]
      exact (Below.heap_alloc _ _ _ (by simp)).trans b2
    · exact b3
  case round =>
    rename_i wr
    obtain ⟨r, rfl, hr, ho, hp, hs, hB⟩ := hrel
    by_cases hlt : r < 4
    · have ok := mdSel_ok HV.out r
      have k1 : wr.cell? ⟨w.heap.size + 1 + 1 + 1, r, none⟩ = some (.int .u32 (mdSel v r)) := (hs.cell _).trans (mdSel_at v _ (by omega))
      have HO := Lib.hid ho
      have HP := Lib.hid hp
      have HS := Lib.hid hs
      have BB := Lib.hid hB
      clear ho hp hs hB
      obtain ⟨z, hz⟩ : ∃ z, z = mdSel v r := ⟨_, rfl⟩
      rw [← hz] at ok k1
      have HZ := Lib.hid hz
      clear hz
      go_wp2
      go_loopw [6] (fun vi ws => ∃ k : Nat, vi = .int .i64 k ∧ k ≤ 4 ∧ Blk ws (w.heap.size + 1) 47 (partB v 0) ∧ Blk ws (w.heap.size + 1 + 1) 47 (partB v (4 * r + k)) ∧ Blk ws (w.heap.size + 1 + 1 + 1) 93 (cells4 v) ∧ Below w.heap.size w ws) (fun vi _ => 4 - (intOf vi).toNat)
      case atStart => exact ⟨0, rfl, by omega, HO.out, HP.out, HS.out, BB.out⟩
      case round =>
        obtain ⟨k, rfl, hk, ho, hp, hs, hB⟩ := hrel
        by_cases hlk : k < 4
        · have i0 : 4 * r + k < 16 := by omega
          have hc : wr.cell? ⟨w.heap.size + 1 + 1, 4 * r + k, none⟩ = (partB v (4 * r + k))[4 * r + k]? := hp.cell (4 * r + k)
          have hc2 : (partB v (4 * r + k))[4 * r + k]? = some (.int .u8 0) := by
            unfold partB
            rw [List.getElem?_map, List.getElem?_range i0]
            simp
          rw [hc2] at hc
          have f1 := hp.frozen (4 * r + k)
          have G := Lib.hid (only_set (w := wr) (p := ⟨w.heap.size + 1 + 1, 4 * r + k, none⟩) (.int .u8 (z / 2 ^ (8 * k) % 256)))
          have ev : Hid (z / 2 ^ (8 * k) % 256 = mdByte v (4 * r + k)) := by
            show _ = mdSel v ((4 * r + k) / 4) / 2 ^ (8 * ((4 * r + k) % 4)) % 256
            rw [show (4 * r + k) / 4 = r by omega, show (4 * r + k) % 4 = k by omega, HZ.out]
          have h1 := Blk.set_ hp (4 * r + k) (.int .u8 (mdByte v (4 * r + k)))
          rw [partB_set v (4 * r + k) i0, ← ev.out] at h1
          have HP1 := Lib.hid h1
          have HO1 := Lib.hid ((G.out.block _ (Blk.lt ho) (by intro e; injection e with e; have e2 : w.heap.size + 1 = w.heap.size + 1 + 1 := e; omega)).trans ho)
          have HS1 := Lib.hid ((G.out.block _ (Blk.lt hs) (by intro e; injection e with e; have e2 : w.heap.size + 1 + 1 + 1 = w.heap.size + 1 + 1 := e; omega)).trans hs)
          have B1 := Lib.hid (hB.setCell (p := ⟨w.heap.size + 1 + 1, 4 * r + k, none⟩) (show w.heap.size ≤ w.heap.size + 1 + 1 by omega) (.int .u8 (z / 2 ^ (8 * k) % 256)))
          clear ho hp hs hB hc2 h1
          have j0 : (4 : Int) * (r : Int) + (k : Int) < 16 := by omega
          go_wp2
          go_roundw
          case rel => exact ⟨k + 1, by go_num, by omega, HO1.out, HP1.out, HS1.out, B1.out⟩
          case measure => simp [intOf]; omega
        · obtain rfl : k = 4 := by omega
          have HO1 := Lib.hid ho
          have HP1 := Lib.hid hp
          have HS1 := Lib.hid hs
          have B1 := Lib.hid hB
          clear ho hp hs hB
          go_wp2
          go_roundw
          case rel => exact ⟨r + 1, by go_num, by omega, HO1.out, HP1.out, HS1.out, B1.out⟩
          case measure => simp [intOf]; omega
    · obtain rfl : r = 4 := by omega
      have q : ∀ j, j < 16 → wr.cell? ⟨w.heap.size + 1 + 1, j, none⟩ = some (.int .u8 (mdByte v j)) := by
        intro j hj
        rw [hp.cell]
        unfold partB
        rw [List.getElem?_map, List.getElem?_range hj]
        simp [hj]
      have q0 := q 0 (by omega)
      have q1 := q 1 (by omega)
      have q2 := q 2 (by omega)
      have q3 := q 3 (by omega)
      have q4 := q 4 (by omega)
      have q5 := q 5 (by omega)
      have q6 := q 6 (by omega)
      have q7 := q 7 (by omega)
      have q8 := q 8 (by omega)
      have q9 := q 9 (by omega)
      have q10 := q 10 (by omega)
      have q11 := q 11 (by omega)
      have q12 := q 12 (by omega)
      have q13 := q 13 (by omega)
      have q14 := q 14 (by omega)
      have q15 := q 15 (by omega)
      have oz : ∀ j, j < 16 → wr.cell? ⟨w.heap.size + 1, j, none⟩ = some (.int .u8 0) := by
        intro j hj
        rw [ho.cell]
        unfold partB
        rw [List.getElem?_map, List.getElem?_range hj]
        simp
      have o0 := oz 0 (by omega)
      have f0 := ho.frozen 0
      have o1 := oz 1 (by omega)
      have f1 := ho.frozen 1
      have o2 := oz 2 (by omega)
      have f2 := ho.frozen 2
      have o3 := oz 3 (by omega)
      have f3 := ho.frozen 3
      have o4 := oz 4 (by omega)
      have f4 := ho.frozen 4
      have o5 := oz 5 (by omega)
      have f5 := ho.frozen 5
      have o6 := oz 6 (by omega)
      have f6 := ho.frozen 6
      have o7 := oz 7 (by omega)
      have f7 := ho.frozen 7
      have o8 := oz 8 (by omega)
      have f8 := ho.frozen 8
      have o9 := oz 9 (by omega)
      have f9 := ho.frozen 9
      have o10 := oz 10 (by omega)
      have f10 := ho.frozen 10
      have o11 := oz 11 (by omega)
      have f11 := ho.frozen 11
      have o12 := oz 12 (by omega)
      have f12 := ho.frozen 12
      have o13 := oz 13 (by omega)
      have f13 := ho.frozen 13
      have o14 := oz 14 (by omega)
      have f14 := ho.frozen 14
      have o15 := oz 15 (by omega)
      have f15 := ho.frozen 15
      have HO := Lib.hid ho
      have BB := Lib.hid hB
      clear q oz ho hp hs hB
      have hw := wset_blk (w.heap.size + 1) 47 (partB v 16) wr 0 (partB v 0) HO.out (by simp [partB])
      have hg := wset_grown (w.heap.size + 1) (partB v 16) wr 0
      have e16 : (partB v 0).take 0 ++ (partB v 16 ++ (partB v 0).drop (0 + (partB v 16).length)) = partB v 16 := by
        rw [List.take_zero, List.nil_append, List.drop_of_length_le (by simp [partB]), List.append_nil]
      rw [e16] at hw
      have tz : ∀ j, j < 16 → (wset wr (w.heap.size + 1) 0 (partB v 16)).cell? ⟨w.heap.size + 1, j, none⟩ = some (.int .u8 (mdByte v j)) := by
        intro j hj
        rw [hw.cell]
        unfold partB
        rw [List.getElem?_map, List.getElem?_range hj]
        simp [hj]
      have TZ := Lib.hid tz
      have GZ := Lib.hid hg
      clear hw hg e16 tz
      go_wp2
      have t0 := TZ.out 0 (by omega)
      have t1 := TZ.out 1 (by omega)
      have t2 := TZ.out 2 (by omega)
      have t3 := TZ.out 3 (by omega)
      have t4 := TZ.out 4 (by omega)
      have t5 := TZ.out 5 (by omega)
      have t6 := TZ.out 6 (by omega)
      have t7 := TZ.out 7 (by omega)
      have t8 := TZ.out 8 (by omega)
      have t9 := TZ.out 9 (by omega)
      have t10 := TZ.out 10 (by omega)
      have t11 := TZ.out 11 (by omega)
      have t12 := TZ.out 12 (by omega)
      have t13 := TZ.out 13 (by omega)
      have t14 := TZ.out 14 (by omega)
      have t15 := TZ.out 15 (by omega)
      change bodyPost _ _ _ _ _ (wset wr (w.heap.size + 1) 0 (partB v 16))
      generalize hWZ : wset wr (w.heap.size + 1) 0 (partB v 16) = WZ at *
      exact bodyPost_ret (v := .agg (partB v 16).toArray) (by simp [results, Tryd.results53, go_sem, partB, List.range, List.range.loop, t0, t1, t2, t3, t4, t5, t6, t7, t8, t9, t10, t11, t12, t13, t14, t15]) rfl ⟨rfl, BB.out.grown GZ.out BB.out.size (fun j hj => by injection hj with hj; omega)⟩
end Go.Proofs.YtdijgmijnoiliaaDoor
