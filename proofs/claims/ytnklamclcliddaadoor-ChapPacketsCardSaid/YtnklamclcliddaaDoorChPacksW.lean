/-
  chap.Told and the reference's, of anything; chap.Read of any packet.
  chap.Read of any packet; what is made is read as it was.
  ChapPackets: the law's calls.
  ChapPackets: the walk (written by gen_chpackw.py).
-/
import Derived.Test.YtnklamclcliddaaDoorChKnown
import Derived.Test.YtnklamclcliddaaDoorSameP
import Derived.Test.YtnklamclcliddaaDoorLent
import Derived.Test.YtnklamclcliddaaDoorKept
import Derived.Test.YtnklamclcliddaaDoorSameB
namespace Go.Proofs.YtnklamclcliddaaDoor
open Go.RowKit
set_option maxRecDepth 100000
set_option maxHeartbeats 4000000
set_option linter.unusedSimpArgs false
set_option linter.unusedVariables false

def tdE (code id : Int) (s : ByteArray) : Int := if (code ≠ 3 ∧ code ≠ 4) ∨ idB id = false then 90 else if shB s = false then 3 else 0
def TdZ (w : World) (code id : Int) (l : List UInt8) (err : Int) (e : Ending) (w' : World) : Prop :=
  Below w.heap.size w w' ∧ ∃ D k d, e = .returned (.tuple #[.agg #[.int .i64 (if err = 0 then code else 0), .int .i64 (if err = 0 then id else 0), .slice D k d], .int .i64 err]) ∧ Rd w' w'.heap.size D k (if err = 0 then l else [])
theorem tdZ_no {w w' : World} {code id err : Int} {l : List UInt8} (he : err ≠ 0) (hB : Below w.heap.size w w') : TdZ w code id l err (.returned (.tuple #[.agg #[.int .i64 0, .int .i64 0, .slice none 0 0], .int .i64 err])) w' := by
  unfold TdZ
  rw [if_neg he, if_neg he, if_neg he]
  exact ⟨hB, none, 0, 0, rfl, Rd.nil⟩
theorem conv_rd (s : ByteArray) (w V : World) (hV : w.heap.size < V.heap.size) : ∃ D d U, (convert 9 22 (.string s)).run Tryd.prog V = .ok (.slice D s.size d) U ∧ Below V.heap.size V U ∧ (∀ W, U.grownBy W (some w.heap.size) → Rd W W.heap.size D s.size s.data.toList) := by
  refine ⟨_, _, _, Lib.run_convert_string_bytes (P := Tryd.prog) V 9 22 5 s Tryd.underlying9 Tryd.underlying22 Tryd.underlying5, Lib.bytesWorld_below _ _ _, fun W hW => ?_⟩
  have hz := Lib.bytesWorld_size V 5 s
  have hsz := hW.size
  refine ⟨by simp, fun _ => ⟨V.heap.size, 0, rfl, by omega, fun j hj => ?_⟩⟩
  have hb := hW.block V.heap.size (by omega) (by intro e; injection e with e; omega)
  have hcell := Lib.bytesWorld_cell V 5 s j hj
  rw [Nat.zero_add]
  have : W.cell? ⟨V.heap.size, j, none⟩ = (Lib.bytesWorld V 5 s).cell? ⟨V.heap.size, j, none⟩ := by simp [World.cell?, hb]
  rw [this, hcell]
  rfl
theorem told_any (code id : Int) (s : ByteArray) (w : World) (hs : s.size ≤ maxLen) :
    Calls Tryd.prog 13 #[.int .i64 code, .int .i64 id, .string s] w (TdZ w code id s.data.toList (tdE code id s)) := by
  obtain ⟨V, hV⟩ : ∃ V, w.alloc (.cells #[.int .i64 0, .int .i64 0, .slice none 0 0] 24) = V := ⟨_, rfl⟩
  have bV : Below w.heap.size w V := by rw [← hV]; exact (Below.refl _ _).alloc (Nat.le_refl _) _
  have h0 : Blk V w.heap.size 24 [.int .i64 0, .int .i64 0, .slice none 0 0] := by rw [← hV]; exact heap_alloc_new w _
  have r0 := h0.cell 0
  have r1 := h0.cell 1
  have r2 := h0.cell 2
  have e0 := h0.frozen 0
  have e1 := h0.frozen 1
  have e2 := h0.frozen 2
  have lr := Blk.lt h0
  have HV := Lib.hid hV
  have CV0 := fun (V : World) (hb : Below w.heap.size w V) (hz : w.heap.size < V.heap.size) => conv_rd s w V hz
  have SH := Lib.hid (fun W => shown_any s W hs)
  have IDR := Lib.hid (fun W => idRight_any id W)
  by_cases hc : (code ≠ 3 ∧ code ≠ 4) ∨ idB id = false
  · have he : tdE code id s = 90 := if_pos hc
    have hb4 := blk3 (x := .int .i64 0) (y := .int .i64 0) (z := .slice none 0 0) h0
    have p0 := hb4.cell 0
    have p1 := hb4.cell 1
    have p2 := hb4.cell 2
    have BE : Below w.heap.size w (((V.setCell ⟨w.heap.size, 0, none⟩ (.int .i64 0)).setCell ⟨w.heap.size, 1, none⟩ (.int .i64 0)).setCell ⟨w.heap.size, 2, none⟩ (.slice none 0 0)) := below_row bV (gset3 _ _ _ _ _) (Nat.le_refl _)
    have F := Lib.hid (tdZ_no (code := code) (id := id) (l := s.data.toList) (err := 90) (by decide) BE)
    rw [he]
    clear he hV bV h0 hb4 BE CV0
    by_cases hc1 : code ≠ 3 ∧ code ≠ 4
    · have c1 : (code != 3) = true := by simpa using hc1.1
      have c2 : (code != 4) = true := by simpa using hc1.2
      clear hc hc1
      go_enter Tryd.func13, Tryd.ntmps13
      go_wp2_with (first
        | (rw [HV.out])
        | (go_at_call 42; ((with_reducible refine (IDR.out _).mono ?_); rintro e w' ⟨rfl, rfl⟩)))
      exact bodyPost_ret (v := .tuple #[.agg #[.int .i64 0, .int .i64 0, .slice none 0 0], .int .i64 90]) (by simp [results, Tryd.results13, go_sem, p0, p1, p2]) rfl F.out
    · have hi := hc.resolve_left hc1
      have hcc : code = 3 ∨ code = 4 := by omega
      rw [hi] at IDR
      clear hc hc1 hi
      rcases hcc with rfl | rfl
      all_goals
        go_enter Tryd.func13, Tryd.ntmps13
        go_wp2_with (first
          | (rw [HV.out])
          | (go_at_call 42; ((with_reducible refine (IDR.out _).mono ?_); rintro e w' ⟨rfl, rfl⟩)))
        exact bodyPost_ret (v := .tuple #[.agg #[.int .i64 0, .int .i64 0, .slice none 0 0], .int .i64 90]) (by simp [results, Tryd.results13, go_sem, p0, p1, p2]) rfl F.out
  · have hcc : code = 3 ∨ code = 4 := by omega
    have hi : idB id = true := by
      cases h : idB id
      · exact absurd (.inr h) hc
      · rfl
    rw [hi] at IDR
    cases hb : shB s
    · have he : tdE code id s = 3 := by unfold tdE; rw [if_neg hc, if_pos hb]
      have hb4 := blk3 (x := .int .i64 0) (y := .int .i64 0) (z := .slice none 0 0) h0
      have p0 := hb4.cell 0
      have p1 := hb4.cell 1
      have p2 := hb4.cell 2
      have BE : Below w.heap.size w (((V.setCell ⟨w.heap.size, 0, none⟩ (.int .i64 0)).setCell ⟨w.heap.size, 1, none⟩ (.int .i64 0)).setCell ⟨w.heap.size, 2, none⟩ (.slice none 0 0)) := below_row bV (gset3 _ _ _ _ _) (Nat.le_refl _)
      have F := Lib.hid (tdZ_no (code := code) (id := id) (l := s.data.toList) (err := 3) (by decide) BE)
      rw [he]
      rw [hb] at SH
      clear he hV bV h0 hb4 BE hc hb CV0
      rcases hcc with rfl | rfl
      all_goals
        go_enter Tryd.func13, Tryd.ntmps13
        go_wp2_with (first
          | (rw [HV.out])
          | (go_at_call 42; ((with_reducible refine (IDR.out _).mono ?_); rintro e w' ⟨rfl, rfl⟩))
          | (go_at_call 44; ((with_reducible refine (SH.out _).mono ?_); rintro e w' ⟨rfl, rfl⟩)))
        exact bodyPost_ret (v := .tuple #[.agg #[.int .i64 0, .int .i64 0, .slice none 0 0], .int .i64 3]) (by simp [results, Tryd.results13, go_sem, p0, p1, p2]) rfl F.out
    · have he : tdE code id s = 0 := by unfold tdE; rw [if_neg hc, if_neg (by rw [hb]; simp)]
      have CV : Hid (∃ D d U, (convert 9 22 (.string s)).run Tryd.prog V = .ok (.slice D s.size d) U ∧ Below V.heap.size V U ∧ (∀ W, U.grownBy W (some w.heap.size) → Rd W W.heap.size D s.size s.data.toList)) := CV0 V bV lr
      obtain ⟨D, d, U, hcv, bU, hrd⟩ := CV.out
      have h1 := past_same h0 bU
      have r0 := h1.cell 0
      have r1 := h1.cell 1
      have r2 := h1.cell 2
      have e0 := h1.frozen 0
      have e1 := h1.frozen 1
      have e2 := h1.frozen 2
      have lr := Blk.lt h1
      have hb4 := blk3 (x := .int .i64 code) (y := .int .i64 id) (z := .slice D s.size d) h1
      have p0 := hb4.cell 0
      have p1 := hb4.cell 1
      have p2 := hb4.cell 2
      have FN : Hid (TdZ w code id s.data.toList 0 (.returned (.tuple #[.agg #[.int .i64 code, .int .i64 id, .slice D s.size d], .int .i64 0])) (((U.setCell ⟨w.heap.size, 0, none⟩ (.int .i64 code)).setCell ⟨w.heap.size, 1, none⟩ (.int .i64 id)).setCell ⟨w.heap.size, 2, none⟩ (.slice D s.size d))) := ⟨below_row (step_to bV bU) (gset3 _ _ _ _ _) (Nat.le_refl _), D, _, d, rfl, hrd _ (gset3 _ _ _ _ _)⟩
      rw [he]
      rw [hb] at SH
      clear he hV bV h0 CV0 CV bU hrd h1 hb4 hc hb hi
      rcases hcc with rfl | rfl
      all_goals
        go_enter Tryd.func13, Tryd.ntmps13
        go_wp2_with (first
          | (rw [HV.out])
          | (go_at_call 42; ((with_reducible refine (IDR.out _).mono ?_); rintro e w' ⟨rfl, rfl⟩))
          | (go_at_call 44; ((with_reducible refine (SH.out _).mono ?_); rintro e w' ⟨rfl, rfl⟩)))
        first
          | exact bodyPost_ret (v := .tuple #[.agg #[.int .i64 3, .int .i64 id, .slice D s.size d], .int .i64 0]) (by simp [results, Tryd.results13, go_sem, p0, p1, p2]) rfl FN.out
          | exact bodyPost_ret (v := .tuple #[.agg #[.int .i64 4, .int .i64 id, .slice D s.size d], .int .i64 0]) (by simp [results, Tryd.results13, go_sem, p0, p1, p2]) rfl FN.out
theorem rtold_any (code id : Int) (s : ByteArray) (w : World) (hs : s.size ≤ maxLen) :
    Calls Tryd.prog 14 #[.int .i64 code, .int .i64 id, .string s] w (TdZ w code id s.data.toList (tdE code id s)) := by
  unfold maxLen at hs
  obtain ⟨V, hV⟩ : ∃ V, w.alloc (.cells #[.int .i64 0, .int .i64 0, .slice none 0 0] 24) = V := ⟨_, rfl⟩
  have bV : Below w.heap.size w V := by rw [← hV]; exact (Below.refl _ _).alloc (Nat.le_refl _) _
  have h0 : Blk V w.heap.size 24 [.int .i64 0, .int .i64 0, .slice none 0 0] := by rw [← hV]; exact heap_alloc_new w _
  have r0 := h0.cell 0
  have r1 := h0.cell 1
  have r2 := h0.cell 2
  have e0 := h0.frozen 0
  have e1 := h0.frozen 1
  have e2 := h0.frozen 2
  have lr := Blk.lt h0
  have HV := Lib.hid hV
  by_cases hc : (code ≠ 3 ∧ code ≠ 4) ∨ idB id = false
  · have he : tdE code id s = 90 := if_pos hc
    have hb4 := blk3 (x := .int .i64 0) (y := .int .i64 0) (z := .slice none 0 0) h0
    have p0 := hb4.cell 0
    have p1 := hb4.cell 1
    have p2 := hb4.cell 2
    have BE : Below w.heap.size w (((V.setCell ⟨w.heap.size, 0, none⟩ (.int .i64 0)).setCell ⟨w.heap.size, 1, none⟩ (.int .i64 0)).setCell ⟨w.heap.size, 2, none⟩ (.slice none 0 0)) := below_row bV (gset3 _ _ _ _ _) (Nat.le_refl _)
    have F := Lib.hid (tdZ_no (code := code) (id := id) (l := s.data.toList) (err := 90) (by decide) BE)
    rw [he]
    clear he hV bV h0 hb4 BE
    by_cases hc1 : code ≠ 3 ∧ code ≠ 4
    · have c1 : (code != 3) = true := by simpa using hc1.1
      have c2 : (code != 4) = true := by simpa using hc1.2
      clear hc hc1
      go_enter Tryd.func14, Tryd.ntmps14
      go_wp2_with (rw [HV.out])
      exact bodyPost_ret (v := .tuple #[.agg #[.int .i64 0, .int .i64 0, .slice none 0 0], .int .i64 90]) (by simp [results, Tryd.results14, go_sem, p0, p1, p2]) rfl F.out
    · have hi := hc.resolve_left hc1
      have hcc : code = 3 ∨ code = 4 := by omega
      have hlo : id < 0 ∨ (¬ id < 0 ∧ 255 < id) := by
        unfold idB at hi
        simp at hi
        omega
      clear hc hc1 hi
      rcases hcc with rfl | rfl <;> rcases hlo with h1 | ⟨h1, h2⟩
      all_goals
        go_enter Tryd.func14, Tryd.ntmps14
        go_wp2_with (rw [HV.out])
        exact bodyPost_ret (v := .tuple #[.agg #[.int .i64 0, .int .i64 0, .slice none 0 0], .int .i64 90]) (by simp [results, Tryd.results14, go_sem, p0, p1, p2]) rfl F.out
  · have hcc : code = 3 ∨ code = 4 := by omega
    have hi : ¬ id < 0 ∧ ¬ 255 < id := by
      have h : idB id = true := by
        cases h : idB id
        · exact absurd (.inr h) hc
        · rfl
      unfold idB at h
      simp at h
      omega
    obtain ⟨i1, i2⟩ := hi
    have hb4 := blk3 (x := .int .i64 0) (y := .int .i64 0) (z := .slice none 0 0) h0
    have p0 := hb4.cell 0
    have p1 := hb4.cell 1
    have p2 := hb4.cell 2
    have BE : Below w.heap.size w (((V.setCell ⟨w.heap.size, 0, none⟩ (.int .i64 0)).setCell ⟨w.heap.size, 1, none⟩ (.int .i64 0)).setCell ⟨w.heap.size, 2, none⟩ (.slice none 0 0)) := below_row bV (gset3 _ _ _ _ _) (Nat.le_refl _)
    have F := fun (er : Int) (h : er ≠ 0) => tdZ_no (code := code) (id := id) (l := s.data.toList) (err := er) h BE
    have F3 := Lib.hid (F 3 (by decide))
    by_cases hlen : 255 < (s.size : Int)
    · have he : tdE code id s = 3 := by
        unfold tdE
        rw [if_neg hc, if_pos]
        unfold shB
        rw [decide_eq_false (by omega), Bool.and_false]
      rw [he]
      clear he hV bV h0 hb4 BE hc F
      rcases hcc with rfl | rfl
      all_goals
        go_enter Tryd.func14, Tryd.ntmps14
        go_wp2_with (rw [HV.out])
        exact bodyPost_ret (v := .tuple #[.agg #[.int .i64 0, .int .i64 0, .slice none 0 0], .int .i64 3]) (by simp [results, Tryd.results14, go_sem, p0, p1, p2]) rfl F3.out
    · have CV0 := conv_rd s w V lr
      have HT3 : Hid (shB s = false → tdE code id s = 3) := fun h => by unfold tdE; rw [if_neg hc, if_pos h]
      have HT0 : Hid (shB s = true → tdE code id s = 0) := fun h => by unfold tdE; rw [if_neg hc, if_neg (by rw [h]; simp)]
      have HBV := Lib.hid bV
      have HH := Lib.hid h0
      have hle : (s.size : Int) ≤ 255 := by omega
      clear hV bV h0 hb4 BE hc F
      rcases hcc with rfl | rfl
      all_goals
        go_enter Tryd.func14, Tryd.ntmps14
        go_upto_region 1 with (fail)
        rw [HV.out]
        go_wp2
        go_loop [8] (fun i => ∃ k : Nat, k ≤ s.size ∧ i = .int .i64 k ∧ Hid ((s.data.toList.take k).all shc = true)) (fun i => s.size - (intOf i).toNat)
        case atStart => exact ⟨0, Nat.zero_le _, rfl, by simp [Hid]⟩
        case round =>
          obtain ⟨k, hk, rfl, HA⟩ := hrel
          by_cases hlt : k < s.size
          · rcases shc_ways s[k] with ⟨h, q⟩ | ⟨h, q1, q⟩ | ⟨h, q1, q2⟩
            case' inr.inr =>
              have HT : Hid ((s.data.toList.take (k + 1)).all shc = true) := by
                show _ = _
                rw [takeB s k hlt, List.all_append, HA.out, List.all_cons, h]
                rfl
              clear h
              go_wp2
              go_round
              case rel => exact ⟨k + 1, by omega, by go_num, HT⟩
              case measure => simp [intOf]; omega
            all_goals
              have hn := Lib.hid (HT3.out (sh_no hlt h))
              clear h
              go_wp2
              exact bodyPost_ret (v := .tuple #[.agg #[.int .i64 0, .int .i64 0, .slice none 0 0], .int .i64 3]) (by simp [results, Tryd.results14, go_sem, p0, p1, p2]) rfl (by rw [hn.out]; exact F3.out)
          · obtain rfl : k = s.size := by omega
            have hall := HA.out
            rw [List.take_of_length_le (by simp)] at hall
            have hn := Lib.hid (HT0.out (by unfold shB; rw [hall, decide_eq_true hle]; rfl))
            clear hall HA
            obtain ⟨D, d, U, hcv, bU, hrd⟩ := CV0
            have h1 := past_same HH.out bU
            clear r0 r1 r2 e0 e1 e2 p0 p1 p2
            have r0 := h1.cell 0
            have r1 := h1.cell 1
            have r2 := h1.cell 2
            have e0 := h1.frozen 0
            have e1 := h1.frozen 1
            have e2 := h1.frozen 2
            have FN : ∀ code : Int, Hid (TdZ w code id s.data.toList 0 (.returned (.tuple #[.agg #[.int .i64 code, .int .i64 id, .slice D s.size d], .int .i64 0])) (((U.setCell ⟨w.heap.size, 0, none⟩ (.int .i64 code)).setCell ⟨w.heap.size, 1, none⟩ (.int .i64 id)).setCell ⟨w.heap.size, 2, none⟩ (.slice D s.size d)) ∧ Blk (((U.setCell ⟨w.heap.size, 0, none⟩ (.int .i64 code)).setCell ⟨w.heap.size, 1, none⟩ (.int .i64 id)).setCell ⟨w.heap.size, 2, none⟩ (.slice D s.size d)) w.heap.size 24 [.int .i64 code, .int .i64 id, .slice D s.size d]) := fun code => ⟨⟨below_row (step_to HBV.out bU) (gset3 _ _ _ _ _) (Nat.le_refl _), D, _, d, rfl, hrd _ (gset3 _ _ _ _ _)⟩, blk3 h1⟩
            have FN := Lib.hid FN
            clear hrd bU h1
            go_wp2
            first
              | (have p0 := (FN.out 3).out.2.cell 0
                 have p1 := (FN.out 3).out.2.cell 1
                 have p2 := (FN.out 3).out.2.cell 2
                 exact bodyPost_ret (v := .tuple #[.agg #[.int .i64 3, .int .i64 id, .slice D s.size d], .int .i64 0]) (by simp [results, Tryd.results14, go_sem, p0, p1, p2]) rfl (by rw [hn.out]; exact (FN.out 3).out.1))
              | (have p0 := (FN.out 4).out.2.cell 0
                 have p1 := (FN.out 4).out.2.cell 1
                 have p2 := (FN.out 4).out.2.cell 2
                 exact bodyPost_ret (v := .tuple #[.agg #[.int .i64 4, .int .i64 id, .slice D s.size d], .int .i64 0]) (by simp [results, Tryd.results14, go_sem, p0, p1, p2]) rfl (by rw [hn.out]; exact (FN.out 4).out.1))
end Go.Proofs.YtnklamclcliddaaDoor
namespace Go.Proofs.YtnklamclcliddaaDoor
open Go.RowKit
set_option maxRecDepth 100000
set_option maxHeartbeats 4000000
set_option linter.unusedSimpArgs false
set_option linter.unusedVariables false

theorem strOf_self (s : ByteArray) : strOf s.data.toList = s := by
  cases s
  simp [strOf, strOfNums, Function.comp_def]
theorem make_good {code id : Int} {n : Nat} {name : ByteArray} (h : mkE code id n name = 0) : (code = 1 ∨ code = 2) ∧ idB id = true ∧ 1 ≤ n ∧ n ≤ 255 ∧ nameB name = true := by
  unfold mkE at h
  split at h
  · cases h
  · rename_i h1
    split at h
    · cases h
    · rename_i h2
      split at h
      · cases h
      · rename_i h3
        have hi : idB id = true := by
          cases hb : idB id
          · exact absurd (.inr hb) h1
          · rfl
        have hn : nameB name = true := by
          cases hb : nameB name
          · exact absurd hb h3
          · rfl
        exact ⟨by omega, hi, by omega, by omega, hn⟩
theorem make_back {code id : Int} {l : List UInt8} {name : ByteArray} (h : mkE code id l.length name = 0) : rrE code id (mkL l name) = 0 ∧ rvV (mkL l name) = l ∧ rvS (mkL l name) = name := by
  obtain ⟨hc, hi, h1, h2, hn⟩ := make_good h
  have hN : rvN (mkL l name) = l.length := by
    unfold rvN mkL
    simp only [List.singleton_append, List.cons_append, List.headD_cons]
    rw [UInt8.toNat_ofNat']
    omega
  have hD : (mkL l name).drop (1 + l.length) = name.data.toList := by
    unfold mkL
    rw [List.append_assoc, Nat.add_comm, List.singleton_append, List.drop_succ_cons, List.drop_left]
  have hT : ((mkL l name).drop 1).take l.length = l := by
    unfold mkL
    rw [List.append_assoc, List.singleton_append, List.drop_succ_cons, List.drop_zero, List.take_left]
  have hL : (mkL l name).length = 1 + l.length + name.data.toList.length := by
    unfold mkL
    simp only [List.length_append, List.length_singleton]
  have hS : rvS (mkL l name) = name := by
    unfold rvS
    rw [hN, hD, strOf_self]
  refine ⟨?_, by unfold rvV; rw [hN, hT], hS⟩
  unfold rrE
  rw [if_neg (by omega)]
  unfold rvE
  rw [if_neg (by rw [hi]; simp), if_neg (by rw [hN, hL]; omega), if_neg (by rw [hN]; omega), hN, hD, strOf_self, if_neg (by rw [hn]; simp)]
theorem own_wide {w : World} {b b' : Nat} {v : Value} {l : List UInt8} (h : Own w b v l) (hb : b' ≤ b) : Own w b' v l := by
  unfold Own World.ownsRow at h ⊢
  refine ⟨h.1, h.2.imp id ?_⟩
  rintro ⟨g, cap, cur, h1, h2, h3⟩
  exact ⟨g, cap, cur, h1, Nat.le_trans hb h2, h3⟩
theorem inv_asked (x y z : Value) (W : World) : ((method 308 116 (.agg #[x, y, z]) "tether/chap.read").run Tryd.prog W).andThen (fun a w' => (callFunc a.fst #[a.snd]).run Tryd.prog w') = .ok (.enter 106 #[.agg #[x, y, z]]) W := by
  kernel_rfl
theorem inv_replied (x y z : Value) (W : World) : ((method 308 117 (.agg #[x, y, z]) "tether/chap.read").run Tryd.prog W).andThen (fun a w' => (callFunc a.fst #[a.snd]).run Tryd.prog w') = .ok (.enter 106 #[.agg #[x, y, z]]) W := by
  kernel_rfl
theorem inv_other (v : Value) (W : World) : ((method 308 119 v "tether/chap.read").run Tryd.prog W).andThen (fun a w' => (callFunc a.fst #[a.snd]).run Tryd.prog w') = .ok (.enter 140 #[v]) W := by
  kernel_rfl
theorem oread_any (w : World) : Calls Tryd.prog 140 #[.agg #[]] w fun e w' => e = .returned (.tuple #[.slice none 0 0, .string ⟨#[]⟩, .int .i64 90]) ∧ w' = w.alloc (.cells #[] 119) := by
  go_enter Tryd.func140, Tryd.ntmps140
  go_wp2
  exact bodyPost_ret (v := .tuple #[.slice none 0 0, .string ⟨#[]⟩, .int .i64 90]) (by simp [results, Tryd.results140, go_sem]) rfl ⟨rfl, rfl⟩
theorem cread_any (code id : Int) (A : Option Addr) (n c B : Nat) (l : List UInt8) (w : World) (hr : Rd w B A n l) (hB : B ≤ w.heap.size) (hn : n ≤ 140737488355328) :
    Calls Tryd.prog 15 #[.agg #[.int .i64 code, .int .i64 id, .slice A n c]] w (RRR w code id l) := by
  have KO := Lib.hid (kindOf_any code id A n c (w.alloc (.cells #[.int .i64 code, .int .i64 id, .slice A n c] 24)))
  have B2 : Below w.heap.size w ((w.alloc (.cells #[.int .i64 code, .int .i64 id, .slice A n c] 24)).alloc (.cells #[.int .i64 code, .int .i64 id, .slice A n c] 24)) := ((Below.refl _ _).alloc (Nat.le_refl _) _).alloc (by simp only [World.size_alloc]; omega) _
  have s2 := B2.size
  have FR : ∀ (w2 V : World) (e : Ending) (h : code = 1 ∨ code = 2), Below w.heap.size w V → RvR V id l e w2 → RRR w code id l e w2 := by
    intro w2 V e h hV ⟨hb, ho⟩
    have hBw : Below w.heap.size w w2 := hV.trans (hb.mono hV.size)
    rcases ho with ⟨h1, rfl⟩ | ⟨h1, D, k, d, rfl, ho⟩
    · have hr : rrE code id l = rvE id l := by unfold rrE; rw [if_neg (by omega)]
      exact rrr_no hr h1 hBw
    · have hr : rrE code id l = 0 := by unfold rrE; rw [if_neg (by omega), h1]
      unfold RRR
      rw [hr]
      exact ⟨hBw, D, k, d, rfl, own_wide ho hV.size⟩
  have FR := Lib.hid FR
  unfold kindV at KO
  by_cases h1 : code = 1
  · subst h1
    rw [if_pos rfl] at KO
    have RA := Lib.hid (read_any 1 id A n c B l _ (hr.below (B2.mono hB)) (Nat.le_trans hB s2) hn)
    have BH := Lib.hid B2
    clear B2 s2 hr
    go_enter Tryd.func15, Tryd.ntmps15
    go_wp2_with (first
      | (go_at_call 45; (with_reducible refine KO.out.mono ?_); rintro e w2 ⟨rfl, rfl⟩))
    rw [inv_asked]
    go_wp2_with fail
    refine RA.out.mono ?_
    intro e w2 hp
    have FP := Lib.hid (FR.out w2 _ e (by simp) BH.out hp)
    clear RA BH FR
    obtain ⟨-, ⟨h0, rfl⟩ | ⟨h0, D, k, d, rfl, -⟩⟩ := hp
    · go_wp2
      exact bodyPost_ret (v := .tuple #[.slice none 0 0, .string ⟨#[]⟩, .int .i64 (rvE id l)]) (by simp [results, Tryd.results15, go_sem]) rfl FP.out
    · go_wp2
      exact bodyPost_ret (v := .tuple #[.slice D k d, .string (rvS l), .int .i64 0]) (by simp [results, Tryd.results15, go_sem]) rfl FP.out
  by_cases h2 : code = 2
  · subst h2
    rw [if_neg (by decide), if_pos rfl] at KO
    clear h1
    have RA := Lib.hid (read_any 2 id A n c B l _ (hr.below (B2.mono hB)) (Nat.le_trans hB s2) hn)
    have BH := Lib.hid B2
    clear B2 s2 hr
    go_enter Tryd.func15, Tryd.ntmps15
    go_wp2_with (first
      | (go_at_call 45; (with_reducible refine KO.out.mono ?_); rintro e w2 ⟨rfl, rfl⟩))
    rw [inv_replied]
    go_wp2_with fail
    refine RA.out.mono ?_
    intro e w2 hp
    have FP := Lib.hid (FR.out w2 _ e (by simp) BH.out hp)
    clear RA BH FR
    obtain ⟨-, ⟨h0, rfl⟩ | ⟨h0, D, k, d, rfl, -⟩⟩ := hp
    · go_wp2
      exact bodyPost_ret (v := .tuple #[.slice none 0 0, .string ⟨#[]⟩, .int .i64 (rvE id l)]) (by simp [results, Tryd.results15, go_sem]) rfl FP.out
    · go_wp2
      exact bodyPost_ret (v := .tuple #[.slice D k d, .string (rvS l), .int .i64 0]) (by simp [results, Tryd.results15, go_sem]) rfl FP.out
  · rw [if_neg h1, if_neg h2] at KO
    have OR := Lib.hid (oread_any ((w.alloc (.cells #[.int .i64 code, .int .i64 id, .slice A n c] 24)).alloc (.cells #[.int .i64 code, .int .i64 id, .slice A n c] 24)))
    have FP := Lib.hid (rrr_no (code := code) (id := id) (l := l) (er := 90) (by unfold rrE; rw [if_pos ⟨h1, h2⟩]) (by decide) (B2.alloc s2 (.cells #[] 119)))
    clear B2 s2 hr FR h1 h2
    go_enter Tryd.func15, Tryd.ntmps15
    go_wp2_with (first
      | (go_at_call 45; (with_reducible refine KO.out.mono ?_); rintro e w2 ⟨rfl, rfl⟩))
    rw [inv_other]
    go_wp2_with fail
    refine OR.out.mono ?_
    rintro e w2 ⟨rfl, rfl⟩
    go_wp2
    exact bodyPost_ret (v := .tuple #[.slice none 0 0, .string ⟨#[]⟩, .int .i64 90]) (by simp [results, Tryd.results15, go_sem]) rfl FP.out
end Go.Proofs.YtnklamclcliddaaDoor
namespace Go.Proofs.YtnklamclcliddaaDoor
open Go.RowKit
set_option maxRecDepth 100000
set_option maxHeartbeats 4000000
set_option linter.unusedSimpArgs false
set_option linter.unusedVariables false

def PkCells (W : World) (z : Nat) (C I : Int) (D : Option Addr) (k d : Nat) : Prop := W.cell? ⟨z, 0, none⟩ = some (.int .i64 C) ∧ W.cell? ⟨z, 1, none⟩ = some (.int .i64 I) ∧ W.cell? ⟨z, 2, none⟩ = some (.slice D k d)
abbrev pkO (C I : Int) (D : Option Addr) (k d : Nat) : Obj := .cells #[.int .i64 C, .int .i64 I, .slice D k d] 24
def erS (er : Int) (S : ByteArray) : Value := .string (if er = 0 then S else ⟨#[]⟩)
/-- from where what was made is spoiled on -/
def CTail (w V : World) (zx : Nat) (D : Option Addr) (k d : Nat) (C I : Int) (a : Option Addr) (n c : Nat) (er : Int) (S : ByteArray) : Prop :=
  V.cell? ⟨zx, 2, none⟩ = some (.slice D k d) ∧ Hid (Calls Tryd.prog 17 #[.slice D k d] V fun e V12 => e = .returned (.tuple #[]) ∧ V12.cell? ⟨w.heap.size, 2, none⟩ = some (.slice a n c) ∧
    Hid (Calls Tryd.prog 8 #[.slice a n c] V12 fun e V13 => ∃ g q, e = .returned (.slice (some ⟨g, 0, none⟩) n q) ∧ (V13.cell? ⟨w.heap.size, 0, none⟩ = some (.int .i64 C) ∧ V13.cell? ⟨w.heap.size, 1, none⟩ = some (.int .i64 I) ∧ V13.cell? ⟨w.heap.size, 2, none⟩ = some (.slice a n c)) ∧
      Hid (Calls Tryd.prog 15 #[.agg #[.int .i64 C, .int .i64 I, .slice (some ⟨g, 0, none⟩) n q]] (V13.alloc (pkO C I (some ⟨g, 0, none⟩) n q)) fun e V14 => ∃ E m r, e = .returned (.tuple #[.slice E m r, erS er S, .int .i64 er]) ∧
        (V14.cell? ⟨w.heap.size, 0, none⟩ = some (.int .i64 C) ∧ V14.cell? ⟨w.heap.size, 1, none⟩ = some (.int .i64 I) ∧ V14.cell? ⟨w.heap.size, 2, none⟩ = some (.slice a n c)) ∧
        Hid (Calls Tryd.prog 18 #[.agg #[.int .i64 C, .int .i64 I, .slice a n c]] V14 fun e V15 => ∃ E2 r2, e = .returned (.tuple #[.slice E2 m r2, erS er S, .int .i64 er]) ∧
          Hid (Calls Tryd.prog 16 #[.slice E m r, .slice E2 m r2] V15 fun e V16 => e = .returned (.bool true) ∧
            Hid (Calls Tryd.prog 17 #[.slice E m r] V16 fun e V17 => e = .returned (.tuple #[]) ∧ V17.cell? ⟨w.heap.size, 2, none⟩ = some (.slice a n c) ∧
              Hid (Calls Tryd.prog 12 #[.slice (some ⟨g, 0, none⟩) n q, .slice a n c] V17 fun e V18 => e = .returned (.bool true) ∧ Hid (Below w.heap.size w V18))))))))
theorem own_slice {w : World} {base : Nat} {D : Option Addr} {k d : Nat} {l : List UInt8} (h : Own w base (.slice D k d) l) : k = l.length ∧ (D = none → d = 0) ∧ k ≤ d ∧ k ≤ maxLen := by
  rcases h.2 with ⟨e, h0⟩ | ⟨g, cap, cur, e, _, _, h3, h4, _⟩
  · injection e with e1 e2 e3
    subst e1 e2 e3
    exact ⟨h0.symm, fun _ => rfl, Nat.le_refl _, Nat.zero_le _⟩
  · injection e with e1 e2 e3
    subst e1 e2 e3
    exact ⟨rfl, fun h => (by cases h), h3, Nat.le_trans h3 h4⟩
theorem own_rdAll {w : World} {base : Nat} {E : Option Addr} {k c : Nat} {l : List UInt8} (h : Own w base (.slice E k c) l) : Rd w w.heap.size E k l := by
  rcases h.form with ⟨e, rfl⟩ | ⟨g, cap, e, _, _, h3⟩
  · injection e with e1 e2 e3
    subst e1 e2 e3
    exact Rd.nil
  · injection e with e1 e2 e3
    subst e1 e2 e3
    have := h.rd rfl l.length (Nat.le_refl _)
    rwa [List.take_length] at this
/-- what is owned is read -/
theorem spoil_below {w w' V : World} {base : Nat} {v : Value} {l : List UInt8} (hb : Below base w V) (ho : Own V base v l) (hg : V.grownBy w' v.ownBlock) (hsz : base ≤ V.heap.size) : Below base w w' :=
  hb.grown hg hsz (fun q e => (ho.block q e).1)
theorem c_tail {w W1 V1 V : World} {zx : Nat} {D : Option Addr} {k d : Nat} {L : List UInt8} {C I : Int} {a : Option Addr} {n c : Nat} {l : List UInt8} (hp : Blk W1 w.heap.size 24 [.int .i64 C, .int .i64 I, .slice a n c]) (hB1 : Below w.heap.size w W1) (h1 : W1.heap.size ≤ V1.heap.size) (hr : Rd w w.heap.size a n l) (hnil : a = none → c = 0) (hnc : n ≤ c) (hn : n ≤ 140737488351232)
    (hb1 : Below W1.heap.size W1 V1) (hV : Below V1.heap.size V1 V) (hx : V.cell? ⟨zx, 2, none⟩ = some (.slice D k d)) (ho : Own V V1.heap.size (.slice D k d) L) (hL : L.length ≤ 140737488351240) : CTail w V zx D k d C I a n c (rrE C I l) (rvS l) := by
  have hsz := hV.size
  refine ⟨hx, Lib.hid ((spoil_own _ V1.heap.size L V ho hsz hL).mono ?_)⟩
  rintro e V12 ⟨rfl, g12⟩
  have D12 : Below V1.heap.size V1 V12 := spoil_below hV ho g12 hsz
  have E12 : Below W1.heap.size W1 V12 := hb1.trans (D12.mono h1)
  have p12 := (E12.block _ (Blk.lt hp)).trans hp
  have hs1 := hB1.size
  have F12 : Below w.heap.size w V12 := hB1.trans (E12.mono hs1)
  have t12 := F12.size
  refine ⟨rfl, Blk.cell p12 2, Lib.hid ((lent_any a n c l V12 ((hr.below F12).wide t12) hnil hn).mono ?_)⟩
  rintro e V13 ⟨g, q, rfl, ho13, b13⟩
  have t13 := b13.size
  have p13 := (b13.block _ (by have := Blk.lt hp; have := E12.size; omega)).trans p12
  have F13 := F12.trans (b13.mono t12)
  refine ⟨g, q, rfl, ⟨Blk.cell p13 0, Blk.cell p13 1, Blk.cell p13 2⟩, Lib.hid ?_⟩
  have BA : Below V13.heap.size V13 (V13.alloc (pkO C I (some ⟨g, 0, none⟩) n q)) := (Below.refl _ _).alloc (Nat.le_refl _) _
  generalize V13.alloc (pkO C I (some ⟨g, 0, none⟩) n q) = Vq at BA ⊢
  have tq := BA.size
  have hl := hr.1
  have hoq := ho13.later BA
  have hlen : n + 1 = (l ++ [77]).length := by simp [hl]
  have hrq := hoq.rd hlen n (by omega)
  rw [List.take_append_of_le_length (by omega), List.take_of_length_le (by omega)] at hrq
  have Fq := F13.trans (BA.mono F13.size)
  refine (cread_any C I _ n q _ l Vq hrq (by omega) (by omega)).mono ?_
  rintro e V14 ⟨b14, E, m, r, rfl, ho14⟩
  have t14 := b14.size
  have F14 := Fq.trans (b14.mono Fq.size)
  have p14 := ((BA.trans (b14.mono tq)).block _ (by have := Blk.lt p13; omega)).trans p13
  refine ⟨E, m, r, rfl, ⟨Blk.cell p14 0, Blk.cell p14 1, Blk.cell p14 2⟩, Lib.hid ?_⟩
  refine (rread_any C I a n c w.heap.size l V14 (hr.below F14) F14.size hnc hnil (by omega)).mono ?_
  rintro e V15 ⟨b15, E2, m2, r2, rfl, ho15⟩
  have t15 := b15.size
  have hm1 := (own_slice ho14).1
  have hm2 := (own_slice ho15).1
  obtain rfl : m2 = m := by omega
  refine ⟨E2, r2, rfl, Lib.hid ?_⟩
  have ho14' := ho14.later b15
  have hlr : (if rrE C I l = 0 then rvV l else []).length ≤ 140737488351240 := by
    split
    · unfold rvV
      rw [List.length_take, List.length_drop]
      have := rvN_lt l
      omega
    · simp
  refine (same_any E E2 m2 m2 r r2 _ _ V15 V15.heap.size (own_rdAll ho14') (own_rdAll ho15) (by unfold maxLen; omega) (by unfold maxLen; omega)).mono ?_
  rintro e V16 ⟨rfl, j, rfl⟩
  refine ⟨by simp, Lib.hid ?_⟩
  have ho16 : Own (V15.drewN j) Vq.heap.size (.slice E m2 r) (if rrE C I l = 0 then rvV l else []) := ho14'
  refine (spoil_own _ Vq.heap.size _ (V15.drewN j) ho16 (by show Vq.heap.size ≤ V15.heap.size; omega) hlr).mono ?_
  rintro e V17 ⟨rfl, g17⟩
  have D17 : Below Vq.heap.size Vq V17 := spoil_below (below_drewN (b14.trans (b15.mono t14)) j) ho16 g17 (by show Vq.heap.size ≤ V15.heap.size; omega)
  have G17 := BA.trans (D17.mono tq)
  have p17 := (G17.block _ (by have := Blk.lt p13; omega)).trans p13
  have F17 := F13.trans (G17.mono F13.size)
  refine ⟨rfl, Blk.cell p17 2, Lib.hid ?_⟩
  refine (kept_any a g n c q _ w.heap.size l V17 (ho13.later G17) (hr.below F17) hn).mono ?_
  rintro e V18 ⟨rfl, j2, rfl⟩
  exact ⟨rfl, Lib.hid (below_drewN F17 j2)⟩
/-- what is made, and read back -/
def CBack (w V : World) (zx : Nat) (D : Option Addr) (k d : Nat) (code id : Int) (name : ByteArray) (av : Option Addr) (nv cv : Nat) (C I : Int) (a : Option Addr) (n c : Nat) (er : Int) (S : ByteArray) : Prop :=
  PkCells V zx code id D k d ∧ Hid (Calls Tryd.prog 15 #[.agg #[.int .i64 code, .int .i64 id, .slice D k d]] V fun e V10 => ∃ E m r, e = .returned (.tuple #[.slice E m r, .string name, .int .i64 0]) ∧
    Hid (Calls Tryd.prog 16 #[.slice E m r, .slice av nv cv] V10 fun e V11 => e = .returned (.bool true) ∧
      Hid (Calls Tryd.prog 17 #[.slice E m r] V11 fun e V12 => e = .returned (.tuple #[]) ∧ CTail w V12 zx D k d C I a n c er S)))
theorem mk_len {code id : Int} {l : List UInt8} {name : ByteArray} (h : mkE code id l.length name = 0) : (mkL l name).length ≤ 140737488351240 := by
  obtain ⟨_, _, _, h2, hn⟩ := make_good h
  unfold mkL
  unfold nameB at hn
  simp at hn
  simp
  omega
theorem c_back {w W1 V2 V : World} {zx : Nat} {D : Option Addr} {k d : Nat} {code id : Int} {name : ByteArray} {av : Option Addr} {nv cv : Nat} {lv : List UInt8} {C I : Int} {a : Option Addr} {n c : Nat} {l : List UInt8} (hp : Blk W1 w.heap.size 24 [.int .i64 C, .int .i64 I, .slice a n c]) (hB1 : Below w.heap.size w W1) (h1 : W1.heap.size ≤ V2.heap.size) (hr : Rd w w.heap.size a n l) (hnil : a = none → c = 0) (hnc : n ≤ c) (hn : n ≤ 140737488351232)
    (hrv : Rd w w.heap.size av nv lv) (hnv : nv ≤ maxLen) (hE : mkE code id nv name = 0)
    (hb1 : Below W1.heap.size W1 V2) (hV : Below V2.heap.size V2 V) (hx : PkCells V zx code id D k d) (hz : zx < V.heap.size) (ho : Own V V2.heap.size (.slice D k d) (mkL lv name)) : CBack w V zx D k d code id name av nv cv C I a n c (rrE C I l) (rvS l) := by
  have hl := hrv.1
  rw [← hl] at hE
  obtain ⟨b1, b2, b3⟩ := make_back hE
  have hml := mk_len hE
  have ks := own_slice ho
  have hsz := hV.size
  refine ⟨hx, Lib.hid ?_⟩
  have hR := cread_any code id D k d V.heap.size (mkL lv name) V (own_rdAll ho) (Nat.le_refl _) (by have := ks.2.2.2; unfold maxLen at this; omega)
  unfold RRR at hR
  rw [b1, if_pos rfl, if_pos rfl, b2, b3] at hR
  refine hR.mono ?_
  rintro e V10 ⟨b10, E, m, r, rfl, ho10⟩
  have t10 := b10.size
  refine ⟨E, m, r, rfl, Lib.hid ?_⟩
  have F2 : Below w.heap.size w V2 := hB1.trans (hb1.mono hB1.size)
  have F : Below w.heap.size w V := F2.trans (hV.mono F2.size)
  have F10 : Below w.heap.size w V10 := F.trans (b10.mono F.size)
  refine (same_any E av m nv r cv lv lv V10 V10.heap.size (own_rdAll ho10) ((hrv.below F10).wide F10.size) (own_slice ho10).2.2.2 hnv).mono ?_
  rintro e V11 ⟨rfl, j, rfl⟩
  refine ⟨by simp, Lib.hid ?_⟩
  have ho11 : Own (V10.drewN j) V.heap.size (.slice E m r) lv := ho10
  refine (spoil_own _ V.heap.size _ (V10.drewN j) ho11 t10 (by have := (make_good hE).2.2.2.1; omega)).mono ?_
  rintro e V12 ⟨rfl, g12⟩
  have D12 : Below V.heap.size V V12 := spoil_below (below_drewN b10 j) ho11 g12 t10
  refine ⟨rfl, ?_⟩
  have hc2 : V12.cell? ⟨zx, 2, none⟩ = some (.slice D k d) := by
    have hb := D12.block zx hz
    have : V12.cell? ⟨zx, 2, none⟩ = V.cell? ⟨zx, 2, none⟩ := by simp [World.cell?, hb]
    rw [this]
    exact hx.2.2
  exact c_tail hp hB1 h1 hr hnil hnc hn hb1 (hV.trans (D12.mono hsz)) hc2 (ho.later D12) hml
/-- the calls ahead -/
def CHead (w V1 : World) (code id : Int) (av : Option Addr) (nv cv : Nat) (name : ByteArray) (C I : Int) (a : Option Addr) (n c : Nat) (er' : Int) (S : ByteArray) (er C1 I1 eT C2 I2 : Int) : Prop :=
  Calls Tryd.prog 8 #[.slice av nv cv] V1 fun e V2 => ∃ g q, e = .returned (.slice (some ⟨g, 0, none⟩) nv q) ∧
    Hid (Calls Tryd.prog 9 #[.int .i64 code, .int .i64 id, .slice (some ⟨g, 0, none⟩) nv q, .string name] V2 fun e V3 => ∃ D k d, e = .returned (.tuple #[.agg #[.int .i64 C1, .int .i64 I1, .slice D k d], .int .i64 er]) ∧
      Hid (Calls Tryd.prog 10 #[.int .i64 code, .int .i64 id, .slice av nv cv, .string name] (V3.alloc (pkO C1 I1 D k d)) fun e V4 => ∃ D2 d2, e = .returned (.tuple #[.agg #[.int .i64 C1, .int .i64 I1, .slice D2 k d2], .int .i64 er]) ∧
        (PkCells (V4.alloc (pkO C1 I1 D2 k d2)) V3.heap.size C1 I1 D k d ∧ PkCells (V4.alloc (pkO C1 I1 D2 k d2)) V4.heap.size C1 I1 D2 k d2) ∧
        Hid (Calls Tryd.prog 11 #[.agg #[.int .i64 C1, .int .i64 I1, .slice D k d], .agg #[.int .i64 C1, .int .i64 I1, .slice D2 k d2]] (V4.alloc (pkO C1 I1 D2 k d2)) fun e V5 => e = .returned (.bool true) ∧
          Hid (Calls Tryd.prog 12 #[.slice (some ⟨g, 0, none⟩) nv q, .slice av nv cv] V5 fun e V6 => e = .returned (.bool true) ∧
            Hid (Calls Tryd.prog 13 #[.int .i64 code, .int .i64 id, .string name] V6 fun e V7 => ∃ D3 k3 d3, e = .returned (.tuple #[.agg #[.int .i64 C2, .int .i64 I2, .slice D3 k3 d3], .int .i64 eT]) ∧
              Hid (Calls Tryd.prog 14 #[.int .i64 code, .int .i64 id, .string name] (V7.alloc (pkO C2 I2 D3 k3 d3)) fun e V8 => ∃ D4 d4, e = .returned (.tuple #[.agg #[.int .i64 C2, .int .i64 I2, .slice D4 k3 d4], .int .i64 eT]) ∧
                (PkCells (V8.alloc (pkO C2 I2 D4 k3 d4)) V7.heap.size C2 I2 D3 k3 d3 ∧ PkCells (V8.alloc (pkO C2 I2 D4 k3 d4)) V8.heap.size C2 I2 D4 k3 d4) ∧
                Hid (Calls Tryd.prog 11 #[.agg #[.int .i64 C2, .int .i64 I2, .slice D3 k3 d3], .agg #[.int .i64 C2, .int .i64 I2, .slice D4 k3 d4]] (V8.alloc (pkO C2 I2 D4 k3 d4)) fun e V9 => e = .returned (.bool true) ∧
                  Hid ((er = 0 → CBack w V9 V3.heap.size D k d code id name av nv cv C I a n c er' S) ∧ (er ≠ 0 → CTail w V9 V3.heap.size D k d C I a n c er' S)))))))))
theorem pk_cells {W : World} {z : Nat} {C I : Int} {D : Option Addr} {k d : Nat} (h : Blk W z 24 [.int .i64 C, .int .i64 I, .slice D k d]) : PkCells W z C I D k d := ⟨Blk.cell h 0, Blk.cell h 1, Blk.cell h 2⟩
theorem pk_alloc (W : World) (C I : Int) (D : Option Addr) (k d : Nat) : Below W.heap.size W (W.alloc (pkO C I D k d)) := (Below.refl _ _).alloc (Nat.le_refl _) _
theorem pk_new (W : World) (C I : Int) (D : Option Addr) (k d : Nat) : Blk (W.alloc (pkO C I D k d)) W.heap.size 24 [.int .i64 C, .int .i64 I, .slice D k d] := heap_alloc_new W _
theorem c_head {w W1 : World} {code id : Int} {name : ByteArray} {av : Option Addr} {nv cv : Nat} {lv : List UInt8} {C I : Int} {a : Option Addr} {n c : Nat} {l : List UInt8} (hp : Blk W1 w.heap.size 24 [.int .i64 C, .int .i64 I, .slice a n c]) (hB1 : Below w.heap.size w W1) (hr : Rd w w.heap.size a n l) (hnil : a = none → c = 0) (hnc : n ≤ c) (hn : n ≤ 140737488351232)
    (hrv : Rd w w.heap.size av nv lv) (hvil : av = none → cv = 0) (hnv : nv ≤ 140737488351232) (hsz : name.size ≤ 140737488351232) {er C1 I1 eT C2 I2 : Int} {L1 L2 : List UInt8}
    (he : mkE code id nv name = er) (hC1 : (if er = 0 then code else 0) = C1) (hI1 : (if er = 0 then id else 0) = I1) (hL1 : (if er = 0 then mkL lv name else []) = L1)
    (heT : tdE code id name = eT) (hC2 : (if eT = 0 then code else 0) = C2) (hI2 : (if eT = 0 then id else 0) = I2) (hL2 : (if eT = 0 then name.data.toList else []) = L2) :
    CHead w W1 code id av nv cv name C I a n c (rrE C I l) (rvS l) er C1 I1 eT C2 I2 := by
  have s1 := hB1.size
  have hlv := hrv.1
  have hs : name.size ≤ maxLen := by unfold maxLen; omega
  have kL : L1.length ≤ 140737488351240 := by
    rw [← hL1]
    split
    · rename_i h0
      rw [← hlv] at he
      exact mk_len (he.trans h0)
    · simp
  refine (lent_any av nv cv lv W1 ((hrv.below hB1).wide s1) hvil hnv).mono ?_
  rintro e V2 ⟨g, q, rfl, hog, b2⟩
  have t2 := b2.size
  have F2 := hB1.trans (b2.mono s1)
  refine ⟨g, q, rfl, Lib.hid ?_⟩
  have hlen : nv + 1 = (lv ++ [77]).length := by simp [hlv]
  have hrg := hog.rd hlen nv (by omega)
  rw [List.take_append_of_le_length (by omega), List.take_of_length_le (by omega)] at hrg
  have M := make_any code id (some ⟨g, 0, none⟩) nv q _ lv name V2 hrg (Nat.le_refl _) (fun h => by cases h) (by omega) hs
  unfold PktZ PktR at M
  rw [he, hC1, hI1, hL1] at M
  refine M.mono ?_
  rintro e V3 ⟨b3, D, k, d, rfl, ho⟩
  have t3 := b3.size
  refine ⟨D, k, d, rfl, Lib.hid ?_⟩
  have a3 := pk_alloc V3 C1 I1 D k d
  have x3 := pk_new V3 C1 I1 D k d
  have ho3 := ho.later a3
  have B3 : Below V2.heap.size V2 (V3.alloc (pkO C1 I1 D k d)) := step_to b3 a3
  generalize V3.alloc (pkO C1 I1 D k d) = V3a at a3 x3 ho3 B3 ⊢
  have F3 := F2.trans (B3.mono F2.size)
  have R := rmake_any code id av nv cv w.heap.size lv name V3a (hrv.below F3) F3.size hvil (by omega) hs
  unfold PktZ PktR at R
  rw [he, hC1, hI1, hL1] at R
  refine R.mono ?_
  rintro e V4 ⟨b4, D2, k2, d2, rfl, ho2⟩
  obtain rfl : k2 = k := (own_slice ho2).1.trans (own_slice ho).1.symm
  have t4 := b4.size
  have a4 := pk_alloc V4 C1 I1 D2 k2 d2
  have y4 := pk_new V4 C1 I1 D2 k2 d2
  have ho4 := (ho3.later b4).later a4
  have ho2' := ho2.later a4
  have x4 := past_same (past_same x3 b4) a4
  have B4 := step_to B3 (step_to b4 a4)
  refine ⟨D2, d2, rfl, ⟨pk_cells x4, pk_cells y4⟩, Lib.hid ?_⟩
  generalize V4.alloc (pkO C1 I1 D2 k2 d2) = V4a at a4 y4 ho4 ho2' x4 B4 ⊢
  have km := (own_slice ho2).2.2.2
  have kl := (own_slice ho2).1
  refine (samePacket_yes D D2 k2 d d2 V4a.heap.size L1 C1 I1 V4a (own_rdAll ho4) (own_rdAll ho2') (Nat.le_refl _) (by omega)).mono ?_
  rintro e V5 ⟨rfl, b5⟩
  have t5 := b5.size
  have B5 := step_to B4 b5
  have x5 := past_same x4 b5
  have ho5 := ho4.later b5
  have F5 := F2.trans (B5.mono F2.size)
  refine ⟨rfl, Lib.hid ?_⟩
  refine (kept_any av g nv cv q _ w.heap.size lv V5 (hog.later B5) (hrv.below F5) hnv).mono ?_
  rintro e V6 ⟨rfl, j, rfl⟩
  refine ⟨rfl, Lib.hid ?_⟩
  have B6 := below_drewN B5 j
  have x6 : Blk (V5.drewN j) V3.heap.size 24 [.int .i64 C1, .int .i64 I1, .slice D k2 d] := x5
  have ho6 : Own (V5.drewN j) V2.heap.size (.slice D k2 d) L1 := ho5
  generalize V5.drewN j = V6 at B6 x6 ho6 ⊢
  have T := told_any code id name V6 hs
  unfold TdZ at T
  rw [heT, hC2, hI2, hL2] at T
  refine T.mono ?_
  rintro e V7 ⟨b7, D3, k3, d3, rfl, r7⟩
  have t7 := b7.size
  refine ⟨D3, k3, d3, rfl, Lib.hid ?_⟩
  have a7 := pk_alloc V7 C2 I2 D3 k3 d3
  have m7 := pk_new V7 C2 I2 D3 k3 d3
  have B7 := step_to B6 (step_to b7 a7)
  have x7 := past_same (past_same x6 b7) a7
  have ho7 := (ho6.later b7).later a7
  have r7' := (r7.below a7).wide a7.size
  generalize V7.alloc (pkO C2 I2 D3 k3 d3) = V7a at a7 m7 B7 x7 ho7 r7' ⊢
  have RT := rtold_any code id name V7a hs
  unfold TdZ at RT
  rw [heT, hC2, hI2, hL2] at RT
  refine RT.mono ?_
  rintro e V8 ⟨b8, D4, k4, d4, rfl, r8⟩
  obtain rfl : k4 = k3 := r8.1.symm.trans r7.1
  have t8 := b8.size
  have a8 := pk_alloc V8 C2 I2 D4 k4 d4
  have n8 := pk_new V8 C2 I2 D4 k4 d4
  have m8 := past_same (past_same m7 b8) a8
  have B8 := step_to B7 (step_to b8 a8)
  have x8 := past_same (past_same x7 b8) a8
  have ho8 := (ho7.later b8).later a8
  have r8' := (r8.below a8).wide a8.size
  have r7'' := (((r7'.below b8).wide b8.size).below a8).wide a8.size
  refine ⟨D4, d4, rfl, ⟨pk_cells m8, pk_cells n8⟩, Lib.hid ?_⟩
  generalize V8.alloc (pkO C2 I2 D4 k4 d4) = V8a at a8 n8 m8 B8 x8 ho8 r8' r7'' ⊢
  have km2 : k4 ≤ 140737488355328 := by
    have h := r8.1
    rw [← hL2] at h
    split at h
    · simp at h; omega
    · simp at h; omega
  refine (samePacket_yes D3 D4 k4 d3 d4 V8a.heap.size L2 C2 I2 V8a r7'' r8' (Nat.le_refl _) km2).mono ?_
  rintro e V9 ⟨rfl, b9⟩
  have B9 := step_to B8 b9
  have x9 := past_same x8 b9
  have ho9 := ho8.later b9
  refine ⟨rfl, Lib.hid ⟨?_, ?_⟩⟩
  · intro h0
    subst h0
    rw [if_pos rfl] at hC1 hI1 hL1
    subst hC1 hI1 hL1
    exact c_back hp hB1 t2 hr hnil hnc hn hrv (by unfold maxLen; omega) he b2 B9 (pk_cells x9) (Blk.lt x9) ho9
  · intro h0
    rw [if_neg h0] at hL1
    subst hL1
    exact c_tail hp hB1 t2 hr hnil hnc hn b2 B9 (Blk.cell x9 2) ho9 (by simp)
end Go.Proofs.YtnklamclcliddaaDoor
namespace Go.Proofs.YtnklamclcliddaaDoor
open Go.RowKit
set_option maxRecDepth 100000
set_option maxHeartbeats 4000000
set_option linter.unusedSimpArgs false
set_option linter.unusedVariables false

theorem chappackets_walk (code id : Int) (av : Option Addr) (nv cv : Nat) (lv : List UInt8) (name : ByteArray) (C I : Int) (a : Option Addr) (n c : Nat) (l : List UInt8) (w : World) (hrv : Rd w w.heap.size av nv lv) (hvil : av = none → cv = 0) (hnv : nv ≤ 140737488351232) (hsz : name.size ≤ 140737488351232) (hr : Rd w w.heap.size a n l) (hnil : a = none → c = 0) (hnc : n ≤ c) (hn : n ≤ 140737488351232) (hK : TabK w) (hT : TabS w) :
    Calls Tryd.prog 3 #[.int .i64 code, .int .i64 id, .slice av nv cv, .string name, .agg #[.int .i64 C, .int .i64 I, .slice a n c]] w fun e w' => e = .returned (.bool true) ∧ Below w.heap.size w w' := by
  obtain ⟨V, hV⟩ : ∃ V, w.alloc (.cells #[.int .i64 C, .int .i64 I, .slice a n c] 24) = V := ⟨_, rfl⟩
  have bV : Below w.heap.size w V := by rw [← hV]; exact (Below.refl _ _).alloc (Nat.le_refl _) _
  have h0 : Blk V w.heap.size 24 [.int .i64 C, .int .i64 I, .slice a n c] := by rw [← hV]; exact heap_alloc_new w _
  obtain ⟨er, he⟩ : ∃ x, mkE code id nv name = x := ⟨_, rfl⟩
  obtain ⟨C1, hC1⟩ : ∃ x, (if er = 0 then code else 0) = x := ⟨_, rfl⟩
  obtain ⟨I1, hI1⟩ : ∃ x, (if er = 0 then id else 0) = x := ⟨_, rfl⟩
  obtain ⟨L1, hL1⟩ : ∃ x, (if er = 0 then mkL lv name else []) = x := ⟨_, rfl⟩
  obtain ⟨eT, heT⟩ : ∃ x, tdE code id name = x := ⟨_, rfl⟩
  obtain ⟨C2, hC2⟩ : ∃ x, (if eT = 0 then code else 0) = x := ⟨_, rfl⟩
  obtain ⟨I2, hI2⟩ : ∃ x, (if eT = 0 then id else 0) = x := ⟨_, rfl⟩
  obtain ⟨L2, hL2⟩ : ∃ x, (if eT = 0 then name.data.toList else []) = x := ⟨_, rfl⟩
  have H := c_head h0 bV hr hnil hnc hn hrv hvil hnv hsz he hC1 hI1 hL1 heT hC2 hI2 hL2
  obtain ⟨er', he'⟩ : ∃ x, rrE C I l = x := ⟨_, rfl⟩
  obtain ⟨S0, hS0⟩ : ∃ x, rvS l = x := ⟨_, rfl⟩
  rw [he', hS0] at H
  obtain ⟨S, hS⟩ : ∃ x, (if er' = 0 then S0 else ⟨#[]⟩ : ByteArray) = x := ⟨_, rfl⟩
  have H0 : Hid (CHead w V code id av nv cv name C I a n c er' S0 er C1 I1 eT C2 I2) := H
  unfold CHead CBack CTail PkCells erS at H0
  rw [hS] at H0
  have KN : Hid (∀ W, Below w.heap.size w W → Calls Tryd.prog 19 #[] W fun e w' => e = .returned (.bool true) ∧ Below W.heap.size W w') := fun W hb => known_any W (hK.kept hb) (hT.kept hb)
  have HV := Lib.hid hV
  have z0 := h0.cell 0
  have z1 := h0.cell 1
  have z2 := h0.cell 2
  clear H hV bV h0 hC1 hI1 hL1 heT hC2 hI2 hL2 he he' hS0 hS hr hrv hnil hnc hn hvil hnv hsz hK hT
  by_cases h1 : er = 0
  · subst h1
    go_enter Tryd.func3, Tryd.ntmps3
    go_wp2_with (first
      | (rw [HV.out])
      | (go_at_call 8; ((with_reducible refine H0.out.mono ?_); rintro e w2 ⟨g, q, rfl, n1⟩; have H1 := Lib.hid n1.out; clear n1 H0))
      | (go_at_call 9; ((with_reducible refine H1.out.mono ?_); rintro e w3 ⟨D, k, d, rfl, n1⟩; have H2 := Lib.hid n1.out; clear n1 H1))
      | (go_at_call 10; ((with_reducible refine H2.out.mono ?_); rintro e w4 ⟨D2, d2, rfl, ⟨⟨x0, x1, x2⟩, ⟨y0, y1, y2⟩⟩, n1⟩; have H3 := Lib.hid n1.out; clear n1 H2))
      | (go_at_call 11; ((with_reducible refine H3.out.mono ?_); rintro e w5 ⟨rfl, n1⟩; have H4 := Lib.hid n1.out; clear n1 H3))
      | (go_at_call 12; ((with_reducible refine H4.out.mono ?_); rintro e w6 ⟨rfl, n1⟩; have H5 := Lib.hid n1.out; clear n1 H4))
      | (go_at_call 13; ((with_reducible refine H5.out.mono ?_); rintro e w7 ⟨D3, k3, d3, rfl, n1⟩; have H6 := Lib.hid n1.out; clear n1 H5))
      | (go_at_call 14; ((with_reducible refine H6.out.mono ?_); rintro e w8 ⟨D4, d4, rfl, ⟨⟨m0, m1, m2⟩, ⟨n0, n1', n2⟩⟩, n1⟩; have H7 := Lib.hid n1.out; clear n1 H6))
      | (go_at_call 11; ((with_reducible refine H7.out.mono ?_); rintro e w9 ⟨rfl, n1⟩; obtain ⟨⟨v0, v1, v2⟩, c1⟩ := n1.out.1 (by simp); have B0 := Lib.hid c1.out; clear n1 c1 H7))
      | (go_at_call 15; ((with_reducible refine B0.out.mono ?_); rintro e w10 ⟨E0, m0', r0', rfl, n1⟩; have B1 := Lib.hid n1.out; clear n1 B0))
      | (go_at_call 16; ((with_reducible refine B1.out.mono ?_); rintro e w11 ⟨rfl, n1⟩; have B2 := Lib.hid n1.out; clear n1 B1))
      | (go_at_call 17; ((with_reducible refine B2.out.mono ?_); rintro e w12 ⟨rfl, s2, n1⟩; have T0 := Lib.hid n1.out; clear n1 B2))
      | (go_at_call 17; ((with_reducible refine T0.out.mono ?_); rintro e w12 ⟨rfl, p2, n1⟩; have T1 := Lib.hid n1.out; clear n1 T0))
      | (go_at_call 8; ((with_reducible refine T1.out.mono ?_); rintro e w13 ⟨g2, q2, rfl, ⟨i0, i1, i2⟩, n1⟩; have T2 := Lib.hid n1.out; clear n1 T1))
      | (go_at_call 15; ((with_reducible refine T2.out.mono ?_); rintro e w14 ⟨E, m, r, rfl, ⟨j0, j1, j2⟩, n1⟩; have T3 := Lib.hid n1.out; clear n1 T2))
      | (go_at_call 18; ((with_reducible refine T3.out.mono ?_); rintro e w15 ⟨E2, r2, rfl, n1⟩; have T4 := Lib.hid n1.out; clear n1 T3))
      | (go_at_call 16; ((with_reducible refine T4.out.mono ?_); rintro e w16 ⟨rfl, n1⟩; have T5 := Lib.hid n1.out; clear n1 T4))
      | (go_at_call 17; ((with_reducible refine T5.out.mono ?_); rintro e w17 ⟨rfl, k2, n1⟩; have T6 := Lib.hid n1.out; clear n1 T5))
      | (go_at_call 12; ((with_reducible refine T6.out.mono ?_); rintro e w18 ⟨rfl, F18⟩; clear T6))
      | (go_at_call 19; ((with_reducible refine (KN.out _ F18.out).mono ?_); rintro e w19 ⟨rfl, b19⟩; have F := Lib.hid (step_to F18.out b19); clear b19)))
    go_ret
    exact ⟨rfl, F.out⟩
  · have hb1 : (er == 0) = false := by simpa using h1
    have NE := Lib.hid h1
    clear h1
    go_enter Tryd.func3, Tryd.ntmps3
    go_wp2_with (first
      | (rw [HV.out])
      | (go_at_call 8; ((with_reducible refine H0.out.mono ?_); rintro e w2 ⟨g, q, rfl, n1⟩; have H1 := Lib.hid n1.out; clear n1 H0))
      | (go_at_call 9; ((with_reducible refine H1.out.mono ?_); rintro e w3 ⟨D, k, d, rfl, n1⟩; have H2 := Lib.hid n1.out; clear n1 H1))
      | (go_at_call 10; ((with_reducible refine H2.out.mono ?_); rintro e w4 ⟨D2, d2, rfl, ⟨⟨x0, x1, x2⟩, ⟨y0, y1, y2⟩⟩, n1⟩; have H3 := Lib.hid n1.out; clear n1 H2))
      | (go_at_call 11; ((with_reducible refine H3.out.mono ?_); rintro e w5 ⟨rfl, n1⟩; have H4 := Lib.hid n1.out; clear n1 H3))
      | (go_at_call 12; ((with_reducible refine H4.out.mono ?_); rintro e w6 ⟨rfl, n1⟩; have H5 := Lib.hid n1.out; clear n1 H4))
      | (go_at_call 13; ((with_reducible refine H5.out.mono ?_); rintro e w7 ⟨D3, k3, d3, rfl, n1⟩; have H6 := Lib.hid n1.out; clear n1 H5))
      | (go_at_call 14; ((with_reducible refine H6.out.mono ?_); rintro e w8 ⟨D4, d4, rfl, ⟨⟨m0, m1, m2⟩, ⟨n0, n1', n2⟩⟩, n1⟩; have H7 := Lib.hid n1.out; clear n1 H6))
      | (go_at_call 11; ((with_reducible refine H7.out.mono ?_); rintro e w9 ⟨rfl, n1⟩; obtain ⟨s2, c1⟩ := n1.out.2 NE.out; have T0 := Lib.hid c1.out; clear n1 c1 H7))
      | (go_at_call 17; ((with_reducible refine T0.out.mono ?_); rintro e w12 ⟨rfl, p2, n1⟩; have T1 := Lib.hid n1.out; clear n1 T0))
      | (go_at_call 8; ((with_reducible refine T1.out.mono ?_); rintro e w13 ⟨g2, q2, rfl, ⟨i0, i1, i2⟩, n1⟩; have T2 := Lib.hid n1.out; clear n1 T1))
      | (go_at_call 15; ((with_reducible refine T2.out.mono ?_); rintro e w14 ⟨E, m, r, rfl, ⟨j0, j1, j2⟩, n1⟩; have T3 := Lib.hid n1.out; clear n1 T2))
      | (go_at_call 18; ((with_reducible refine T3.out.mono ?_); rintro e w15 ⟨E2, r2, rfl, n1⟩; have T4 := Lib.hid n1.out; clear n1 T3))
      | (go_at_call 16; ((with_reducible refine T4.out.mono ?_); rintro e w16 ⟨rfl, n1⟩; have T5 := Lib.hid n1.out; clear n1 T4))
      | (go_at_call 17; ((with_reducible refine T5.out.mono ?_); rintro e w17 ⟨rfl, k2, n1⟩; have T6 := Lib.hid n1.out; clear n1 T5))
      | (go_at_call 12; ((with_reducible refine T6.out.mono ?_); rintro e w18 ⟨rfl, F18⟩; clear T6))
      | (go_at_call 19; ((with_reducible refine (KN.out _ F18.out).mono ?_); rintro e w19 ⟨rfl, b19⟩; have F := Lib.hid (step_to F18.out b19); clear b19)))
    go_ret
    exact ⟨rfl, F.out⟩
end Go.Proofs.YtnklamclcliddaaDoor
