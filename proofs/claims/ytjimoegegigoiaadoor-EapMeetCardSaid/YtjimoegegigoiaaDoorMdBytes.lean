/-
  md5's words as sixteen bytes.
-/
import Derived.Test.YtjimoegegigoiaaDoorMdRot
import Derived.LoopTactic
namespace Go.Proofs.YtjimoegegigoiaaDoor
open Go.RowKit
set_option maxRecDepth 100000
set_option maxHeartbeats 2000000
set_option linter.unusedSimpArgs false
set_option linter.unusedVariables false

def mdSel (w : W4) (r : Nat) : Int := match r with | 0 => w.a | 1 => w.b | 2 => w.c | _ => w.d
theorem mdByte_sel (w : W4) (k : Nat) : mdByte w k = mdSel w (k / 4) / 2 ^ (8 * (k % 4)) % 256 := rfl
theorem mdSel_ok {w : W4} (h : w.ok) (r : Nat) : 0 ≤ mdSel w r ∧ mdSel w r ≤ 4294967295 := by
  obtain ⟨h1, h2, h3, h4⟩ := h
  unfold mdSel
  split <;> assumption
theorem mdSel_at (w : W4) : ∀ r, r < 4 → (cells4 w)[r]? = some (.int .u32 (mdSel w r))
  | 0, _ => rfl
  | 1, _ => rfl
  | 2, _ => rfl
  | 3, _ => rfl
/-- the first i bytes -/
def partB (w : W4) (i : Nat) : List Value := (List.range 16).map fun j => .int .u8 (if j < i then mdByte w j else 0)
theorem partB_set (w : W4) (i : Nat) (hi : i < 16) : (partB w i).set i (.int .u8 (mdByte w i)) = partB w (i + 1) := by
  refine List.ext_getElem (by simp [partB]) fun j h1 h2 => ?_
  rw [List.getElem_set]
  simp only [partB, List.getElem_map, List.getElem_range]
  by_cases h : i = j
  · subst h
    rw [if_pos rfl, if_pos (by omega)]
  · rw [if_neg h]
    by_cases h3 : j < i
    · rw [if_pos h3, if_pos (by omega)]
    · rw [if_neg h3, if_neg (by omega)]
theorem bytes_any (v : W4) (w : World) (hv : v.ok) :
    Calls Tryd.prog 103 #[.agg #[.int .u32 v.a, .int .u32 v.b, .int .u32 v.c, .int .u32 v.d]] w fun e w' => e = .returned (.agg (partB v 16).toArray) ∧ Below w.heap.size w w' := by
  have HV := Lib.hid hv
  clear hv
  go_enter Tryd.func103, Tryd.ntmps103
  go_wp2
  go_loopw [5] (fun vi wr => ∃ i : Nat, vi = .int .i64 i ∧ i ≤ 16 ∧ Blk wr w.heap.size 136 (cells4 v) ∧ Blk wr (w.heap.size + 1) 55 (partB v 0) ∧ Blk wr (w.heap.size + 1 + 1) 55 (partB v i) ∧ Below w.heap.size w wr) (fun vi _ => 16 - (intOf vi).toNat)
  case atStart =>
    have b0 := blk_new w 136 (cells4 v)
    have e0 : partB v 0 = List.replicate 16 (.int .u8 0) := rfl
    have b1 := blk_new (w.alloc (.cells (cells4 v).toArray 136)) 55 (partB v 0)
    have b2 := blk_new ((w.alloc (.cells (cells4 v).toArray 136)).alloc (.cells (partB v 0).toArray 55)) 55 (partB v 0)
    rw [World.size_alloc] at b1
    rw [World.size_alloc, World.size_alloc] at b2
    refine ⟨0, rfl, by omega, ?_, ?_, ?_, (((Below.refl _ _).alloc (Nat.le_refl _) _).alloc (by simp) _).alloc (by simp; omega) _⟩
    · exact (Below.heap_alloc _ _ _ (by simp; omega)).trans ((Below.heap_alloc _ _ _ (by simp)).trans b0)
    · rw [e0] at b1 ⊢
      exact (Below.heap_alloc _ _ _ (by simp)).trans b1
    · rw [e0] at b2 ⊢
      exact b2
  case round =>
    rename_i wr
    obtain ⟨i, rfl, hi, hb, ho, hp, hB⟩ := hrel
    by_cases hlt : i < 16
    · have ok := mdSel_ok HV.out (i / 4)
      have k1 : wr.cell? ⟨w.heap.size, i / 4, none⟩ = some (.int .u32 (mdSel v (i / 4))) := (hb.cell _).trans (mdSel_at v _ (by omega))
      have f1 := hp.frozen i
      have hc : wr.cell? ⟨w.heap.size + 1 + 1, i, none⟩ = (partB v i)[i]? := hp.cell i
      have hc2 : (partB v i)[i]? = some (.int .u8 0) := by
        unfold partB
        rw [List.getElem?_map, List.getElem?_range hlt]
        simp
      rw [hc2] at hc
      have HP := Lib.hid hp
      have HBk := Lib.hid hb
      have HO := Lib.hid ho
      have BB := Lib.hid hB
      have hval : mdSel v (i / 4) / 2 ^ (8 * (i % 4)) % 256 = mdByte v i := rfl
      generalize mdSel v (i / 4) = z at *
      have i0 : (0 : Int) ≤ (i : Int) := by omega
      have i1 : (i : Int) < 16 := by omega
      clear hb ho hp hB hc2
      go_wp2
      go_roundw
      case rel =>
        have h1 := Blk.set_ HP.out i (.int .u8 (mdByte v i))
        rw [partB_set v i hlt] at h1
        have G := only_set (w := wr) (p := ⟨w.heap.size + 1 + 1, i, none⟩) (.int .u8 (mdByte v i))
        exact ⟨i + 1, by go_num, by omega, (G.block _ (Blk.lt HBk.out) (by intro e; injection e with e; have e2 : w.heap.size = w.heap.size + 1 + 1 := e; omega)).trans HBk.out, (G.block _ (Blk.lt HO.out) (by intro e; injection e with e; have e2 : w.heap.size + 1 = w.heap.size + 1 + 1 := e; omega)).trans HO.out, h1, BB.out.setCell (p := ⟨w.heap.size + 1 + 1, i, none⟩) (show w.heap.size ≤ w.heap.size + 1 + 1 by omega) _⟩
      case measure => simp [intOf]; omega
    · obtain rfl : i = 16 := by omega
      have q : ∀ j, j < 16 → wr.cell? ⟨w.heap.size + 1 + 1, j, none⟩ = some (.int .u8 (mdByte v j)) := by
        intro j hj
        rw [hp.cell]
        unfold partB
        rw [List.getElem?_map, List.getElem?_range hj]
        simp [hj]
      have q0 := q 0 (by omega)
      have q1 := q 1 (by omega)
      have q2 := q 2 (by omega)
      have q3 := q 3 (by omega)
      have q4 := q 4 (by omega)
      have q5 := q 5 (by omega)
      have q6 := q 6 (by omega)
      have q7 := q 7 (by omega)
      have q8 := q 8 (by omega)
      have q9 := q 9 (by omega)
      have q10 := q 10 (by omega)
      have q11 := q 11 (by omega)
      have q12 := q 12 (by omega)
      have q13 := q 13 (by omega)
      have q14 := q 14 (by omega)
      have q15 := q 15 (by omega)
      have oz : ∀ j, j < 16 → wr.cell? ⟨w.heap.size + 1, j, none⟩ = some (.int .u8 0) := by
        intro j hj
        rw [ho.cell]
        unfold partB
        rw [List.getElem?_map, List.getElem?_range hj]
        simp
      have o0 := oz 0 (by omega)
      have f0 := ho.frozen 0
      have o1 := oz 1 (by omega)
      have f1 := ho.frozen 1
      have o2 := oz 2 (by omega)
      have f2 := ho.frozen 2
      have o3 := oz 3 (by omega)
      have f3 := ho.frozen 3
      have o4 := oz 4 (by omega)
      have f4 := ho.frozen 4
      have o5 := oz 5 (by omega)
      have f5 := ho.frozen 5
      have o6 := oz 6 (by omega)
      have f6 := ho.frozen 6
      have o7 := oz 7 (by omega)
      have f7 := ho.frozen 7
      have o8 := oz 8 (by omega)
      have f8 := ho.frozen 8
      have o9 := oz 9 (by omega)
      have f9 := ho.frozen 9
      have o10 := oz 10 (by omega)
      have f10 := ho.frozen 10
      have o11 := oz 11 (by omega)
      have f11 := ho.frozen 11
      have o12 := oz 12 (by omega)
      have f12 := ho.frozen 12
      have o13 := oz 13 (by omega)
      have f13 := ho.frozen 13
      have o14 := oz 14 (by omega)
      have f14 := ho.frozen 14
      have o15 := oz 15 (by omega)
      have f15 := ho.frozen 15
      have HO := Lib.hid ho
      have BB := Lib.hid hB
      clear q oz ho hp hb hB
      have hw := wset_blk (w.heap.size + 1) 55 (partB v 16) wr 0 (partB v 0) HO.out (by simp [partB])
      have hg := wset_grown (w.heap.size + 1) (partB v 16) wr 0
      have e16 : (partB v 0).take 0 ++ (partB v 16 ++ (partB v 0).drop (0 + (partB v 16).length)) = partB v 16 := by
        rw [List.take_zero, List.nil_append, List.drop_of_length_le (by simp [partB]), List.append_nil]
      rw [e16] at hw
      have tz : ∀ j, j < 16 → (wset wr (w.heap.size + 1) 0 (partB v 16)).cell? ⟨w.heap.size + 1, j, none⟩ = some (.int .u8 (mdByte v j)) := by
        intro j hj
        rw [hw.cell]
        unfold partB
        rw [List.getElem?_map, List.getElem?_range hj]
        simp [hj]
      have TZ := Lib.hid tz
      have GZ := Lib.hid hg
      clear hw hg e16 tz
      go_wp2
      have t0 := TZ.out 0 (by omega)
      have t1 := TZ.out 1 (by omega)
      have t2 := TZ.out 2 (by omega)
      have t3 := TZ.out 3 (by omega)
      have t4 := TZ.out 4 (by omega)
      have t5 := TZ.out 5 (by omega)
      have t6 := TZ.out 6 (by omega)
      have t7 := TZ.out 7 (by omega)
      have t8 := TZ.out 8 (by omega)
      have t9 := TZ.out 9 (by omega)
      have t10 := TZ.out 10 (by omega)
      have t11 := TZ.out 11 (by omega)
      have t12 := TZ.out 12 (by omega)
      have t13 := TZ.out 13 (by omega)
      have t14 := TZ.out 14 (by omega)
      have t15 := TZ.out 15 (by omega)
      change bodyPost _ _ _ _ _ (wset wr (w.heap.size + 1) 0 (partB v 16))
      generalize hWZ : wset wr (w.heap.size + 1) 0 (partB v 16) = WZ at *
      exact bodyPost_ret (v := .agg (partB v 16).toArray) (by simp [results, Tryd.results103, go_sem, partB, List.range, List.range.loop, t0, t1, t2, t3, t4, t5, t6, t7, t8, t9, t10, t11, t12, t13, t14, t15]) rfl ⟨rfl, BB.out.grown GZ.out BB.out.size (fun j hj => by injection hj with hj; omega)⟩
end Go.Proofs.YtjimoegegigoiaaDoor
