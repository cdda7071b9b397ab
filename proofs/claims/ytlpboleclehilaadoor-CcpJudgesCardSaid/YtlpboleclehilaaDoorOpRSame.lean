/-
  tetherref09.Same of any two lists.
-/
import Derived.Test.YtlpboleclehilaaDoorOpPlcR
import Derived.Test.YtlpboleclehilaaDoorSameAny
import Derived.Test.YtlpboleclehilaaDoorOpTail
namespace Go.Proofs.YtlpboleclehilaaDoor
open Go.RowKit
set_option maxRecDepth 100000
set_option maxHeartbeats 2000000
set_option linter.unusedSimpArgs false
set_option linter.unusedVariables false

theorem grownN_of {w w' : World} (h : Below w.heap.size w w') : w.grownBy w' none := ⟨h.os, h.tape, h.output, h.size, fun i hi _ => h.block i hi⟩
theorem lists_ne {s t : List Opt} {k : Nat} (h1 : k < s.length) (h2 : k < t.length) (h : s[k] ≠ t[k]) : s ≠ t := fun e => by subst e; exact h rfl
/-- two lists of any length -/
theorem rsame_any (A D : Option Addr) (n m c d B : Nat) (s t : List Opt) (w : World) (hr : OptRd w B A n s) (hq : OptRd w B D m t) (hB : B ≤ w.heap.size) (hn : n ≤ 4398046511104) (hm : m ≤ 4398046511104) :
    Calls Tryd.prog 9 #[.slice A n c, .slice D m d] w fun e w' => e = .returned (.bool (decide (s = t))) ∧ Below w.heap.size w w' := by
  have HR := Lib.hid (hr.wide hB)
  have HQ := Lib.hid (hq.wide hB)
  have hl1 := hr.1
  have hl2 := hq.1
  obtain ⟨R, hRR⟩ : ∃ R, decide (s = t) = R := ⟨_, rfl⟩
  rw [hRR]
  have HRR := Lib.hid hRR
  clear hr hq hRR
  by_cases hnm : n = m
  · subst hnm
    have heq : ((n : Int) != (n : Int)) = false := by simp
    go_enter Tryd.func9, Tryd.ntmps9
    go_wp2
    go_loopw [5] (fun i wr => ∃ (W : World) (k : Nat), W = wr ∧ k ≤ n ∧ i = .int .i64 k ∧ Hid (Below w.heap.size w W ∧ s.take k = t.take k)) (fun i _ => n - (intOf i).toNat)
    case atStart => exact ⟨_, 0, rfl, Nat.zero_le _, rfl, Below.refl _ _, rfl⟩
    case round =>
      obtain ⟨wr, k, rfl, hk, rfl, hJ⟩ := hrel
      obtain ⟨hBw, hT⟩ := hJ.out
      by_cases hlt : k < n
      · have s1 := hBw.size
        obtain ⟨b, off, rfl, hb, hc⟩ := HR.out.2 (by omega)
        obtain ⟨b2, off2, rfl, hb2, hc2⟩ := HQ.out.2 (by omega)
        obtain ⟨x1, E, kk, cc, x2, hRd, _, _, hkb⟩ := hc k (by omega)
        obtain ⟨y1, F, jj, dd, y2, hRd2, _, _, hjb⟩ := hc2 k (by omega)
        obtain ⟨y, hy⟩ : ∃ y, s[k]'(by omega) = y := ⟨_, rfl⟩
        obtain ⟨z, hz⟩ : ∃ z, t[k]'(by omega) = z := ⟨_, rfl⟩
        have e1 : s.take (k + 1) = s.take k ++ [s[k]'(by omega)] := List.take_succ_eq_append_getElem (by omega)
        have e2 : t.take (k + 1) = t.take k ++ [t[k]'(by omega)] := List.take_succ_eq_append_getElem (by omega)
        rw [hy] at x1 hRd e1
        rw [hz] at y1 hRd2 e2
        obtain ⟨K, l⟩ := y
        obtain ⟨J, q⟩ := z
        have d1 : wr.cell? ⟨b, off + k * 2, none⟩ = some (.int .i64 K) := (hBw.cell hb).trans x1
        have d2 : wr.cell? ⟨b, off + k * 2 + 1, none⟩ = some (.slice E kk cc) := (hBw.cell hb).trans x2
        have d3 : wr.cell? ⟨b2, off2 + k * 2, none⟩ = some (.int .i64 J) := (hBw.cell hb2).trans y1
        have d4 : wr.cell? ⟨b2, off2 + k * 2 + 1, none⟩ = some (.slice F jj dd) := (hBw.cell hb2).trans y2
        have ON := one_any K J E F kk jj cc dd w.heap.size l q wr.drew (hRd.below hBw).drew (hRd2.below hBw).drew s1 (by unfold maxLen; omega) (by unfold maxLen; omega)
        by_cases hKJ : ((K, l) : Opt) = (J, q)
        · rw [decide_eq_true hKJ] at ON
          have HO := Lib.hid ON
          have HS : Hid (s.take (k + 1) = t.take (k + 1)) := by show _ = _; rw [e1, e2, hT, hKJ]
          clear hc hc2 hJ hy hz hRd hRd2 x1 x2 y1 y2 ON hKJ e1 e2 hT
          go_wp2
          go_region_law (go_simp; go_at_call 34; (with_reducible refine HO.out.mono ?_); rintro e w3 ⟨rfl, h3⟩; have H3 := Lib.hid (show Below wr.heap.size wr w3 from ⟨h3.os, h3.tape, h3.output, h3.size, fun i hi => h3.block i hi⟩); clear h3)
          all_goals
            go_wp2
            go_roundw
            case rel => exact ⟨_, k + 1, rfl, by omega, by go_num, hBw.trans (H3.out.mono s1), HS.out⟩
            case measure => simp [intOf]; omega
        · rw [decide_eq_false hKJ] at ON
          have HO := Lib.hid ON
          have HS : Hid (R = false) := by
            show _ = _
            rw [← HRR.out]
            exact decide_eq_false (lists_ne (s := s) (t := t) (k := k) (by omega) (by omega) (by rw [hy, hz]; exact hKJ))
          clear hc hc2 hJ hy hz hRd hRd2 x1 x2 y1 y2 ON hKJ e1 e2 hT
          go_wp2
          go_region_law (go_simp; go_at_call 34; (with_reducible refine HO.out.mono ?_); rintro e w3 ⟨rfl, h3⟩; have H3 := Lib.hid (show Below wr.heap.size wr w3 from ⟨h3.os, h3.tape, h3.output, h3.size, fun i hi => h3.block i hi⟩); clear h3)
          all_goals
            go_wp2
            go_ret
            exact ⟨by rw [HS.out]; rfl, hBw.trans (H3.out.mono s1)⟩
      · have HS : Hid (R = true) := by
          show _ = _
          rw [← HRR.out]
          rw [List.take_of_length_le (by omega), List.take_of_length_le (by omega)] at hT
          exact decide_eq_true hT
        have HB := Lib.hid hBw
        clear hJ hT hBw
        go_wp2
        go_ret
        exact ⟨by rw [HS.out]; rfl, HB.out⟩
  · have heq : ((n : Int) != (m : Int)) = true := by simp; omega
    have HS : Hid (R = false) := by
      show _ = _
      rw [← HRR.out]
      exact decide_eq_false (fun e => hnm (by rw [← hl1, ← hl2, e]))
    go_enter Tryd.func9, Tryd.ntmps9
    go_wp2
    go_ret
    exact ⟨by rw [HS.out]; rfl, Below.refl _ _⟩
end Go.Proofs.YtlpboleclehilaaDoor
