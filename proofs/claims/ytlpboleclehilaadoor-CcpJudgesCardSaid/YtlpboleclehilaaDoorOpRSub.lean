/-
  tetherref09.Subset of any two lists.
-/
import Derived.Test.YtlpboleclehilaaDoorOpRSame
import Derived.Deep.RegionHeld3
namespace Go.Proofs.YtlpboleclehilaaDoor
open Go.RowKit
set_option maxRecDepth 100000
set_option maxHeartbeats 2000000
set_option linter.unusedSimpArgs false
set_option linter.unusedVariables false

theorem eat_stepf (s t : List Opt) (i : Nat) (h : i < t.length) : (t.take (i + 1)).foldl eat s = eat ((t.take i).foldl eat s) t[i] := by
  rw [List.take_succ_eq_append_getElem h, List.foldl_append]
  rfl
theorem rsubset_any (A D : Option Addr) (n m c d B : Nat) (s t : List Opt) (w : World) (hr : OptRd w B A n s) (hq : OptRd w B D m t) (hB : B ≤ w.heap.size) (hn : n ≤ 4398046511104) (hm : m ≤ 4398046511104) :
    Calls Tryd.prog 38 #[.slice A n c, .slice D m d] w fun e w' => e = .returned (.bool (decide (t.foldl eat s = []))) ∧ Below w.heap.size w w' := by
  have HR := Lib.hid (hr.wide hB)
  have HQ := Lib.hid (hq.wide hB)
  have hl1 := hr.1
  have hl2 := hq.1
  obtain ⟨R, hRR⟩ : ∃ R, decide (t.foldl eat s = []) = R := ⟨_, rfl⟩
  rw [hRR]
  have HRR := Lib.hid hRR
  clear hr hq hRR
  go_enter Tryd.func38, Tryd.ntmps38
  go_wp2
  go_loopw [5, 6] (fun v i wr => ∃ (W : World) (k j : Nat), W = wr ∧ k ≤ n ∧ j ≤ m ∧ v = .int .i64 k ∧ i = .int .i64 j ∧ Hid (Below w.heap.size w W ∧ (t.take j).foldl eat s = s.drop k)) (fun _ i _ => m - (intOf i).toNat)
  case atStart => exact ⟨_, 0, 0, rfl, Nat.zero_le _, Nat.zero_le _, rfl, rfl, Below.refl _ _, rfl⟩
  case round =>
    rename_i wr
    obtain ⟨V, k, j, rfl, hk, hj, rfl, rfl, hJ⟩ := hrel
    obtain ⟨hBw, hT⟩ := hJ.out
    by_cases hlt : j < m
    · by_cases hkn : k < n
      · have s1 := hBw.size
        obtain ⟨b, off, rfl, hb, hc⟩ := HR.out.2 (by omega)
        obtain ⟨b2, off2, rfl, hb2, hc2⟩ := HQ.out.2 (by omega)
        obtain ⟨x1, E, kk, cc, x2, hRd, _, _, hkb⟩ := hc k (by omega)
        obtain ⟨y1, F, jj, dd, y2, hRd2, _, _, hjb⟩ := hc2 j (by omega)
        have hst := eat_stepf s t j (by omega)
        rw [hT, List.drop_eq_getElem_cons (by omega : k < s.length)] at hst
        obtain ⟨y, hy⟩ : ∃ y, s[k]'(by omega) = y := ⟨_, rfl⟩
        obtain ⟨z, hz⟩ : ∃ z, t[j]'(by omega) = z := ⟨_, rfl⟩
        rw [hy] at x1 hRd
        rw [hz] at y1 hRd2
        rw [hy, hz] at hst
        obtain ⟨K, l⟩ := y
        obtain ⟨J, q⟩ := z
        have d1 : V.cell? ⟨b, off + k * 2, none⟩ = some (.int .i64 K) := (hBw.cell hb).trans x1
        have d2 : V.cell? ⟨b, off + k * 2 + 1, none⟩ = some (.slice E kk cc) := (hBw.cell hb).trans x2
        have e1 : V.cell? ⟨b2, off2 + j * 2, none⟩ = some (.int .i64 J) := (hBw.cell hb2).trans y1
        have e2 : V.cell? ⟨b2, off2 + j * 2 + 1, none⟩ = some (.slice F jj dd) := (hBw.cell hb2).trans y2
        have ON := one_any K J E F kk jj cc dd w.heap.size l q V.drew (hRd.below hBw).drew (hRd2.below hBw).drew s1 (by unfold maxLen; omega) (by unfold maxLen; omega)
        by_cases hKJ : ((K, l) : Opt) = (J, q)
        · rw [decide_eq_true hKJ] at ON
          have HO := Lib.hid ON
          have HS : Hid ((t.take (j + 1)).foldl eat s = s.drop (k + 1)) := by
            show _ = _
            rw [hst]
            show (if (K, l) = (J, q) then s.drop (k + 1) else _) = _
            rw [if_pos hKJ]
          clear hc hc2 hJ hy hz hRd hRd2 x1 x2 y1 y2 ON hst hT hKJ
          go_wp2
          go_region_law (go_simp; go_at_call 34; (with_reducible refine HO.out.mono ?_); rintro e w3 ⟨rfl, h3⟩; have H3 := Lib.hid (show Below V.heap.size V w3 from ⟨h3.os, h3.tape, h3.output, h3.size, fun i hi => h3.block i hi⟩); clear h3)
          all_goals
            go_wp2
            go_roundw
            case rel => exact ⟨_, k + 1, j + 1, rfl, by omega, by omega, by go_num, by go_num, hBw.trans (H3.out.mono s1), HS.out⟩
            case measure => simp [intOf]; omega
        · rw [decide_eq_false hKJ] at ON
          have HO := Lib.hid ON
          have HS : Hid ((t.take (j + 1)).foldl eat s = s.drop k) := by
            show _ = _
            rw [hst]
            show (if (K, l) = (J, q) then s.drop (k + 1) else _) = _
            rw [if_neg hKJ, List.drop_eq_getElem_cons (by omega : k < s.length), hy]
          clear hc hc2 hJ hy hz hRd hRd2 x1 x2 y1 y2 ON hst hT hKJ
          go_wp2
          go_region_law (go_simp; go_at_call 34; (with_reducible refine HO.out.mono ?_); rintro e w3 ⟨rfl, h3⟩; have H3 := Lib.hid (show Below V.heap.size V w3 from ⟨h3.os, h3.tape, h3.output, h3.size, fun i hi => h3.block i hi⟩); clear h3)
          all_goals
            go_wp2
            go_roundw
            case rel => exact ⟨_, k, j + 1, rfl, by omega, by omega, rfl, by go_num, hBw.trans (H3.out.mono s1), HS.out⟩
            case measure => simp [intOf]; omega
      · have hkk : k = n := by omega
        have HS : Hid (R = true) := by
          show _ = _
          rw [← HRR.out]
          refine decide_eq_true ?_
          have hd : s.drop k = [] := List.drop_of_length_le (by omega)
          rw [hd] at hT
          have : t = t.take j ++ t.drop j := (List.take_append_drop j t).symm
          rw [this, List.foldl_append, hT, eat_nil]
        subst hkk
        have HB := Lib.hid hBw
        have hkk : ((k : Int) == (k : Int)) = true := by simp
        clear hJ hT hBw
        go_wp2
        go_ret
        exact ⟨by rw [HS.out]; rfl, HB.out⟩
    · have ej : j = m := by omega
      rw [List.take_of_length_le (by omega)] at hT
      have HS : Hid (R = decide (k = n)) := by
        show _ = _
        rw [← HRR.out, hT]
        by_cases hkn : k = n
        · rw [decide_eq_true hkn]
          exact decide_eq_true (List.drop_of_length_le (by omega))
        · rw [decide_eq_false hkn]
          refine decide_eq_false fun e => hkn ?_
          have := congrArg List.length e
          rw [List.length_drop] at this
          simp at this
          omega
      have HB := Lib.hid hBw
      have hkk : ((k : Int) == (n : Int)) = decide (k = n) := by
        by_cases h : k = n
        · simp [h]
        · simp [h]; omega
      clear hJ hT hBw
      go_wp2
      go_ret
      exact ⟨by rw [HS.out, ← hkk]; rfl, HB.out⟩
end Go.Proofs.YtlpboleclehilaaDoor
