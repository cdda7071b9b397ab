/-
  tetherref03.SameFrames of any two lists.
-/
import Derived.Test.YtmdlpbgelgeiaaaDoorHdFrm
import Derived.Test.YtmdlpbgelgeiaaaDoorCcStr
import Derived.Test.YtmdlpbgelgeiaaaDoorSameB
import Derived.Deep.RegionHeldLaw
namespace Go.Proofs.YtmdlpbgelgeiaaaDoor
open Go.RowKit
set_option maxRecDepth 100000
set_option maxHeartbeats 2000000
set_option linter.unusedSimpArgs false
set_option linter.unusedVariables false

theorem frms_ne {s t : List Frm} {k : Nat} (h1 : k < s.length) (h2 : k < t.length) (h : s[k] ≠ t[k]) : s ≠ t := fun e => by subst e; exact h rfl
theorem strOf_ne (l m : List UInt8) : (!((strOf l).toList == (strOf m).toList)) = decide (l ≠ m) := by
  rw [strOf_beq]
  by_cases h : l = m <;> simp [h]
/-- two lists of any length -/
theorem sameframes_any (A D : Option Addr) (n m c d B : Nat) (s t : List Frm) (w : World) (hr : FrmRd w B A n s) (hq : FrmRd w B D m t) (hn : n ≤ 140737488351232) (hm : m ≤ 140737488351232) :
    Calls Tryd.prog 24 #[.slice A n c, .slice D m d] w fun e w' => e = .returned (.bool (decide (s = t))) ∧ ∃ q, w' = w.drewN q := by
  have HR := Lib.hid hr
  have HQ := Lib.hid hq
  have hl1 := hr.1
  have hl2 := hq.1
  obtain ⟨R, hRR⟩ : ∃ R, decide (s = t) = R := ⟨_, rfl⟩
  rw [hRR]
  have HRR := Lib.hid hRR
  clear hr hq hRR
  by_cases hnm : n = m
  · subst hnm
    have heq : ((n : Int) != (n : Int)) = false := by simp
    go_enter Tryd.func24, Tryd.ntmps24
    go_wp2
    go_loopw [5] (fun i wr => ∃ (k q : Nat), k ≤ n ∧ i = .int .i64 k ∧ wr = w.drewN q ∧ Hid (s.take k = t.take k)) (fun i _ => n - (intOf i).toNat)
    case atStart => exact ⟨0, 0, Nat.zero_le _, rfl, rfl, rfl⟩
    case round =>
      obtain ⟨k, q, hk, rfl, rfl, hT⟩ := hrel
      by_cases hlt : k < n
      · obtain ⟨b, off, rfl, hb, hc⟩ := HR.out.2 (by omega)
        obtain ⟨b2, off2, rfl, hb2, hc2⟩ := HQ.out.2 (by omega)
        obtain ⟨d1, E, kk, cc, d2, hRd, _, _, hkb⟩ := hc k (by omega)
        obtain ⟨d3, F, jj, dd, d4, hRd2, _, _, hjb⟩ := hc2 k (by omega)
        obtain ⟨y, hy⟩ : ∃ y, s[k]'(by omega) = y := ⟨_, rfl⟩
        obtain ⟨z, hz⟩ : ∃ z, t[k]'(by omega) = z := ⟨_, rfl⟩
        have e1 : s.take (k + 1) = s.take k ++ [s[k]'(by omega)] := List.take_succ_eq_append_getElem (by omega)
        have e2 : t.take (k + 1) = t.take k ++ [t[k]'(by omega)] := List.take_succ_eq_append_getElem (by omega)
        rw [hy] at d1 hRd e1
        rw [hz] at d3 hRd2 e2
        obtain ⟨K, l⟩ := y
        obtain ⟨J, p⟩ := z
        have c1 : ∀ q, (convert 22 9 (.slice E kk cc)).run Tryd.prog (w.drewN q) = .ok (.string (strOf l)) (w.drewN q) := fun q => conv_run (w := w.drewN q) (hRd.drewN q) cc
        have c2 : ∀ q, (convert 22 9 (.slice F jj dd)).run Tryd.prog (w.drewN q) = .ok (.string (strOf p)) (w.drewN q) := fun q => conv_run (w := w.drewN q) (hRd2.drewN q) dd
        replace d1 : w.cell? ⟨b, off + k * 2, none⟩ = some (.int .i64 K) := d1
        replace d3 : w.cell? ⟨b2, off2 + k * 2, none⟩ = some (.int .i64 J) := d3
        by_cases hK : K = J
        · have hs1 : (K != J) = false := by simp [hK]
          by_cases hL : l = p
          · have hs2 : (!((strOf l).toList == (strOf p).toList)) = false := by rw [strOf_ne]; simp [hL]
            have HS : Hid (s.take (k + 1) = t.take (k + 1)) := by show _ = _; rw [e1, e2, hT.out, hK, hL]
            clear hc hc2 hy hz hRd hRd2 e1 e2 hK hL
            go_wp2
            go_quiet ((first | rw [c1] | rw [c2]))
            go_wp2
            go_roundw
            case rel => exact ⟨k + 1, _, by omega, by go_num, rfl, HS⟩
            case measure => simp [intOf]; omega
          · have hs2 : (!((strOf l).toList == (strOf p).toList)) = true := by rw [strOf_ne]; simp [hL]
            have HS : Hid (R = false) := by
              show _ = _
              rw [← HRR.out]
              exact decide_eq_false (frms_ne (s := s) (t := t) (k := k) (by omega) (by omega) (by rw [hy, hz]; exact fun e => hL (congrArg Prod.snd e)))
            clear hc hc2 hy hz hRd hRd2 e1 e2 hK hL
            go_wp2
            go_quiet ((first | rw [c1] | rw [c2]))
            go_wp2
            go_ret
            exact ⟨by rw [HS.out]; rfl, _, by simp; rfl⟩
        · have hs1 : (K != J) = true := by simp [hK]
          have HS : Hid (R = false) := by
            show _ = _
            rw [← HRR.out]
            exact decide_eq_false (frms_ne (s := s) (t := t) (k := k) (by omega) (by omega) (by rw [hy, hz]; exact fun e => hK (congrArg Prod.fst e)))
          clear hc hc2 hy hz hRd hRd2 e1 e2 hK
          go_wp2
          go_quiet ((first | rw [c1] | rw [c2]))
          go_wp2
          go_ret
          exact ⟨by rw [HS.out]; rfl, _, by simp; rfl⟩
      · have HS : Hid (R = true) := by
          show _ = _
          rw [← HRR.out]
          have hT' := hT.out
          rw [List.take_of_length_le (by omega), List.take_of_length_le (by omega)] at hT'
          exact decide_eq_true hT'
        clear hT
        go_wp2
        go_ret
        exact ⟨by rw [HS.out]; rfl, _, rfl⟩
  · have heq : ((n : Int) != (m : Int)) = true := by simp; omega
    have HS : Hid (R = false) := by
      show _ = _
      rw [← HRR.out]
      exact decide_eq_false (fun e => hnm (by rw [← hl1, ← hl2, e]))
    go_enter Tryd.func24, Tryd.ntmps24
    go_wp2
    go_ret
    exact ⟨by rw [HS.out]; rfl, 0, rfl⟩
end Go.Proofs.YtmdlpbgelgeiaaaDoor
