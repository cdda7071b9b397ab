/-
  opt.Same; tetherref09.Subset of any lists; cmp.Compare; opt.follows.
-/
import Derived.Test.YtonbdcajepmgbaaDoorOpSames
import Derived.Deep.RegionHeld3
namespace Go.Proofs.YtonbdcajepmgbaaDoor
open Go.RowKit
set_option maxRecDepth 100000
set_option maxHeartbeats 2000000
set_option linter.unusedSimpArgs false
set_option linter.unusedVariables false

theorem eqf_any (A D : Option Addr) (n m c d B : Nat) (s t : List Opt) (w : World) (hr : OptRd w B A n s) (hq : OptRd w B D m t) (hB : B ≤ w.heap.size) (hn : n ≤ 4398046511104) (hm : m ≤ 4398046511104) :
    Calls Tryd.prog 30 #[.slice A n c, .slice D m d, .func (.func 31) #[] #[]] w fun e w' => e = .returned (.bool (decide (s = t))) ∧ Below w.heap.size w w' := by
  have HR := Lib.hid (hr.wide hB)
  have HQ := Lib.hid (hq.wide hB)
  have hl1 := hr.1
  have hl2 := hq.1
  obtain ⟨R, hRR⟩ : ∃ R, decide (s = t) = R := ⟨_, rfl⟩
  rw [hRR]
  have HRR := Lib.hid hRR
  clear hr hq hRR
  by_cases hnm : n = m
  · subst hnm
    have heq : ((n : Int) != (n : Int)) = false := by simp
    go_enter Tryd.func30, Tryd.ntmps30
    go_wp2
    go_loopw [17] (fun i wr => ∃ (W : World) (k : Nat), W = wr ∧ k ≤ n ∧ i = .int .i64 k ∧ Hid (Below w.heap.size w W ∧ s.take k = t.take k)) (fun i _ => n - (intOf i).toNat)
    case atStart => exact ⟨_, 0, rfl, Nat.zero_le _, rfl, Below.refl _ _, rfl⟩
    case round =>
      obtain ⟨V, k, rfl, hk, rfl, hJ⟩ := hrel
      obtain ⟨hBw, hT⟩ := hJ.out
      by_cases hlt : k < n
      · have s1 := hBw.size
        obtain ⟨b, off, rfl, hb, hc⟩ := HR.out.2 (by omega)
        obtain ⟨b2, off2, rfl, hb2, hc2⟩ := HQ.out.2 (by omega)
        obtain ⟨x1, E, kk, cc, x2, hRd, _, _, hkb⟩ := hc k (by omega)
        obtain ⟨y1, F, jj, dd, y2, hRd2, _, _, hjb⟩ := hc2 k (by omega)
        obtain ⟨y, hy⟩ : ∃ y, s[k]'(by omega) = y := ⟨_, rfl⟩
        obtain ⟨z, hz⟩ : ∃ z, t[k]'(by omega) = z := ⟨_, rfl⟩
        have e1 : s.take (k + 1) = s.take k ++ [s[k]'(by omega)] := List.take_succ_eq_append_getElem (by omega)
        have e2 : t.take (k + 1) = t.take k ++ [t[k]'(by omega)] := List.take_succ_eq_append_getElem (by omega)
        rw [hy] at x1 hRd e1
        rw [hz] at y1 hRd2 e2
        obtain ⟨K, l⟩ := y
        obtain ⟨J, q⟩ := z
        have d1 : V.cell? ⟨b, off + k * 2, none⟩ = some (.int .i64 K) := (hBw.cell hb).trans x1
        have d2 : V.cell? ⟨b, off + k * 2 + 1, none⟩ = some (.slice E kk cc) := (hBw.cell hb).trans x2
        have d3 : V.cell? ⟨b2, off2 + k * 2, none⟩ = some (.int .i64 J) := (hBw.cell hb2).trans y1
        have d4 : V.cell? ⟨b2, off2 + k * 2 + 1, none⟩ = some (.slice F jj dd) := (hBw.cell hb2).trans y2
        have hbV : b2 < V.heap.size := by omega
        have B1 : Below V.heap.size V ((V.alloc (.cells #[.int .i64 K, .slice E kk cc] 28)).alloc (.cells #[.int .i64 J, .slice F jj dd] 28)) := ((Below.refl _ _).alloc (Nat.le_refl _) _).alloc (by simp) _
        have B2 := hBw.trans (B1.mono s1)
        have AL := alike_any K J E F kk jj cc dd w.heap.size l q _ (hRd.below B2) (hRd2.below B2) B2.size
        by_cases hKJ : K = J ∧ l = q
        · rw [decide_eq_true hKJ] at AL
          have HO := Lib.hid AL
          have HS : Hid (s.take (k + 1) = t.take (k + 1)) := by show _ = _; rw [e1, e2, hT, hKJ.1, hKJ.2]
          have HB2 := Lib.hid B2
          clear hc hc2 hJ hy hz hRd hRd2 x1 x2 y1 y2 AL hKJ e1 e2 hT B1 B2 hBw
          go_wp2_with (go_at_call 31; ((with_reducible refine HO.out.mono ?_); rintro e w3 ⟨rfl, h3⟩; have H3 := Lib.hid h3; clear h3))
          go_roundw
          case rel => exact ⟨_, k + 1, rfl, by omega, by go_num, HB2.out.trans (H3.out.mono HB2.out.size), HS.out⟩
          case measure => simp [intOf]; omega
        · rw [decide_eq_false hKJ] at AL
          have HO := Lib.hid AL
          have HS : Hid (R = false) := by
            show _ = _
            rw [← HRR.out]
            refine decide_eq_false (lists_ne (s := s) (t := t) (k := k) (by omega) (by omega) ?_)
            rw [hy, hz]
            intro e
            injection e with e1 e2
            exact hKJ ⟨e1, e2⟩
          have HB2 := Lib.hid B2
          clear hc hc2 hJ hy hz hRd hRd2 x1 x2 y1 y2 AL hKJ e1 e2 hT B1 B2 hBw
          go_wp2_with (go_at_call 31; ((with_reducible refine HO.out.mono ?_); rintro e w3 ⟨rfl, h3⟩; have H3 := Lib.hid h3; clear h3))
          go_ret
          exact ⟨by rw [HS.out]; rfl, HB2.out.trans (H3.out.mono HB2.out.size)⟩
      · have HS : Hid (R = true) := by
          show _ = _
          rw [← HRR.out]
          rw [List.take_of_length_le (by omega), List.take_of_length_le (by omega)] at hT
          exact decide_eq_true hT
        have HB := Lib.hid hBw
        clear hJ hT hBw
        go_wp2
        go_ret
        exact ⟨by rw [HS.out]; rfl, HB.out⟩
  · have heq : ((n : Int) != (m : Int)) = true := by simp; omega
    have HS : Hid (R = false) := by
      show _ = _
      rw [← HRR.out]
      exact decide_eq_false (fun e => hnm (by rw [← hl1, ← hl2, e]))
    go_enter Tryd.func30, Tryd.ntmps30
    go_wp2
    go_ret
    exact ⟨by rw [HS.out]; rfl, Below.refl _ _⟩
theorem osame_any (A D : Option Addr) (n m c d B : Nat) (s t : List Opt) (w : World) (hr : OptRd w B A n s) (hq : OptRd w B D m t) (hB : B ≤ w.heap.size) (hn : n ≤ 4398046511104) (hm : m ≤ 4398046511104) :
    Calls Tryd.prog 16 #[.slice A n c, .slice D m d] w fun e w' => e = .returned (.bool (decide (s = t))) ∧ Below w.heap.size w w' := by
  have HE := Lib.hid (eqf_any A D n m c d B s t w hr hq hB hn hm)
  clear hr hq
  go_enter Tryd.func16, Tryd.ntmps16
  go_wp2_with (go_at_call 30; ((with_reducible refine HE.out.mono ?_); rintro e w3 ⟨rfl, h3⟩; have H3 := Lib.hid h3; clear h3))
  go_ret
  exact ⟨rfl, H3.out⟩
theorem eat_stepf (s t : List Opt) (i : Nat) (h : i < t.length) : (t.take (i + 1)).foldl eat s = eat ((t.take i).foldl eat s) t[i] := by
  rw [List.take_succ_eq_append_getElem h, List.foldl_append]
  rfl
theorem rsubset_any (A D : Option Addr) (n m c d B : Nat) (s t : List Opt) (w : World) (hr : OptRd w B A n s) (hq : OptRd w B D m t) (hB : B ≤ w.heap.size) (hn : n ≤ 4398046511104) (hm : m ≤ 4398046511104) :
    Calls Tryd.prog 18 #[.slice A n c, .slice D m d] w fun e w' => e = .returned (.bool (decide (t.foldl eat s = []))) ∧ Below w.heap.size w w' := by
  have HR := Lib.hid (hr.wide hB)
  have HQ := Lib.hid (hq.wide hB)
  have hl1 := hr.1
  have hl2 := hq.1
  obtain ⟨R, hRR⟩ : ∃ R, decide (t.foldl eat s = []) = R := ⟨_, rfl⟩
  rw [hRR]
  have HRR := Lib.hid hRR
  clear hr hq hRR
  go_enter Tryd.func18, Tryd.ntmps18
  go_wp2
  go_loopw [5, 6] (fun v i wr => ∃ (W : World) (k j : Nat), W = wr ∧ k ≤ n ∧ j ≤ m ∧ v = .int .i64 k ∧ i = .int .i64 j ∧ Hid (Below w.heap.size w W ∧ (t.take j).foldl eat s = s.drop k)) (fun _ i _ => m - (intOf i).toNat)
  case atStart => exact ⟨_, 0, 0, rfl, Nat.zero_le _, Nat.zero_le _, rfl, rfl, Below.refl _ _, rfl⟩
  case round =>
    rename_i wr
    obtain ⟨V, k, j, rfl, hk, hj, rfl, rfl, hJ⟩ := hrel
    obtain ⟨hBw, hT⟩ := hJ.out
    by_cases hlt : j < m
    · by_cases hkn : k < n
      · have s1 := hBw.size
        obtain ⟨b, off, rfl, hb, hc⟩ := HR.out.2 (by omega)
        obtain ⟨b2, off2, rfl, hb2, hc2⟩ := HQ.out.2 (by omega)
        obtain ⟨x1, E, kk, cc, x2, hRd, _, _, hkb⟩ := hc k (by omega)
        obtain ⟨y1, F, jj, dd, y2, hRd2, _, _, hjb⟩ := hc2 j (by omega)
        have hst := eat_stepf s t j (by omega)
        rw [hT, List.drop_eq_getElem_cons (by omega : k < s.length)] at hst
        obtain ⟨y, hy⟩ : ∃ y, s[k]'(by omega) = y := ⟨_, rfl⟩
        obtain ⟨z, hz⟩ : ∃ z, t[j]'(by omega) = z := ⟨_, rfl⟩
        rw [hy] at x1 hRd
        rw [hz] at y1 hRd2
        rw [hy, hz] at hst
        obtain ⟨K, l⟩ := y
        obtain ⟨J, q⟩ := z
        have d1 : V.cell? ⟨b, off + k * 2, none⟩ = some (.int .i64 K) := (hBw.cell hb).trans x1
        have d2 : V.cell? ⟨b, off + k * 2 + 1, none⟩ = some (.slice E kk cc) := (hBw.cell hb).trans x2
        have e1 : V.cell? ⟨b2, off2 + j * 2, none⟩ = some (.int .i64 J) := (hBw.cell hb2).trans y1
        have e2 : V.cell? ⟨b2, off2 + j * 2 + 1, none⟩ = some (.slice F jj dd) := (hBw.cell hb2).trans y2
        have ON := one_any K J E F kk jj cc dd w.heap.size l q V.drew (hRd.below hBw).drew (hRd2.below hBw).drew s1 (by unfold maxLen; omega) (by unfold maxLen; omega)
        by_cases hKJ : ((K, l) : Opt) = (J, q)
        · rw [decide_eq_true hKJ] at ON
          have HO := Lib.hid ON
          have HS : Hid ((t.take (j + 1)).foldl eat s = s.drop (k + 1)) := by
            show _ = _
            rw [hst]
            show (if (K, l) = (J, q) then s.drop (k + 1) else _) = _
            rw [if_pos hKJ]
          clear hc hc2 hJ hy hz hRd hRd2 x1 x2 y1 y2 ON hst hT hKJ
          go_wp2
          go_region_law (go_simp; go_at_call 8; (with_reducible refine HO.out.mono ?_); rintro e w3 ⟨rfl, h3⟩; have H3 := Lib.hid (show Below V.heap.size V w3 from ⟨h3.os, h3.tape, h3.output, h3.size, fun i hi => h3.block i hi⟩); clear h3)
          all_goals
            go_wp2
            go_roundw
            case rel => exact ⟨_, k + 1, j + 1, rfl, by omega, by omega, by go_num, by go_num, hBw.trans (H3.out.mono s1), HS.out⟩
            case measure => simp [intOf]; omega
        · rw [decide_eq_false hKJ] at ON
          have HO := Lib.hid ON
          have HS : Hid ((t.take (j + 1)).foldl eat s = s.drop k) := by
            show _ = _
            rw [hst]
            show (if (K, l) = (J, q) then s.drop (k + 1) else _) = _
            rw [if_neg hKJ, List.drop_eq_getElem_cons (by omega : k < s.length), hy]
          clear hc hc2 hJ hy hz hRd hRd2 x1 x2 y1 y2 ON hst hT hKJ
          go_wp2
          go_region_law (go_simp; go_at_call 8; (with_reducible refine HO.out.mono ?_); rintro e w3 ⟨rfl, h3⟩; have H3 := Lib.hid (show Below V.heap.size V w3 from ⟨h3.os, h3.tape, h3.output, h3.size, fun i hi => h3.block i hi⟩); clear h3)
          all_goals
            go_wp2
            go_roundw
            case rel => exact ⟨_, k, j + 1, rfl, by omega, by omega, rfl, by go_num, hBw.trans (H3.out.mono s1), HS.out⟩
            case measure => simp [intOf]; omega
      · have hkk : k = n := by omega
        have HS : Hid (R = true) := by
          show _ = _
          rw [← HRR.out]
          refine decide_eq_true ?_
          have hd : s.drop k = [] := List.drop_of_length_le (by omega)
          rw [hd] at hT
          have : t = t.take j ++ t.drop j := (List.take_append_drop j t).symm
          rw [this, List.foldl_append, hT, eat_nil]
        subst hkk
        have HB := Lib.hid hBw
        have hkk : ((k : Int) == (k : Int)) = true := by simp
        clear hJ hT hBw
        go_wp2
        go_ret
        exact ⟨by rw [HS.out]; rfl, HB.out⟩
    · have ej : j = m := by omega
      rw [List.take_of_length_le (by omega)] at hT
      have HS : Hid (R = decide (k = n)) := by
        show _ = _
        rw [← HRR.out, hT]
        by_cases hkn : k = n
        · rw [decide_eq_true hkn]
          exact decide_eq_true (List.drop_of_length_le (by omega))
        · rw [decide_eq_false hkn]
          refine decide_eq_false fun e => hkn ?_
          have := congrArg List.length e
          rw [List.length_drop] at this
          simp at this
          omega
      have HB := Lib.hid hBw
      have hkk : ((k : Int) == (n : Int)) = decide (k = n) := by
        by_cases h : k = n
        · simp [h]
        · simp [h]; omega
      clear hJ hT hBw
      go_wp2
      go_ret
      exact ⟨by rw [HS.out, ← hkk]; rfl, HB.out⟩
def cmpI (x y : Int) : Int := if x < y then -1 else if y < x then 1 else 0
theorem nan_any (x : Int) (w : World) : Calls Tryd.prog 49 #[.int .i64 x] w fun e w' => e = .returned (.bool false) ∧ w = w' := by
  have h : ∀ x : Int, (x != x) = false := fun x => by simp
  go_enter Tryd.func49, Tryd.ntmps49
  go_wp2
  go_ret
  exact ⟨by simp, rfl⟩
theorem compare_any (x y : Int) (w : World) : Calls Tryd.prog 41 #[.int .i64 x, .int .i64 y] w fun e w' => e = .returned (.int .i64 (cmpI x y)) ∧ w = w' := by
  by_cases h1 : x < y
  · have E : Hid (cmpI x y = -1) := by show _ = _; unfold cmpI; rw [if_pos h1]
    go_enter Tryd.func41, Tryd.ntmps41
    go_wp2_with (go_at_call 49; ((with_reducible refine (nan_any _ _).mono ?_); rintro e w2 ⟨rfl, rfl⟩))
    go_ret
    exact ⟨by rw [E.out]; rfl, rfl⟩
  · by_cases h2 : y < x
    · have E : Hid (cmpI x y = 1) := by show _ = _; unfold cmpI; rw [if_neg h1, if_pos h2]
      go_enter Tryd.func41, Tryd.ntmps41
      go_wp2_with (go_at_call 49; ((with_reducible refine (nan_any _ _).mono ?_); rintro e w2 ⟨rfl, rfl⟩))
      go_ret
      exact ⟨by rw [E.out]; rfl, rfl⟩
    · have E : Hid (cmpI x y = 0) := by show _ = _; unfold cmpI; rw [if_neg h1, if_neg h2]
      go_enter Tryd.func41, Tryd.ntmps41
      go_wp2_with (go_at_call 49; ((with_reducible refine (nan_any _ _).mono ?_); rintro e w2 ⟨rfl, rfl⟩))
      go_ret
      exact ⟨by rw [E.out]; rfl, rfl⟩
end Go.Proofs.YtonbdcajepmgbaaDoor
