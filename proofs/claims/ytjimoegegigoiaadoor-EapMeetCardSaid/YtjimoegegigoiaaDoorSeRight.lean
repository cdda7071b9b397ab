/-
  secret.Right.
-/
import Derived.Test.YtjimoegegigoiaaDoorSeAddr
import Derived.Test.YtjimoegegigoiaaDoorMath
import Derived.Outline
namespace Go.Proofs.YtjimoegegigoiaaDoor
open Go.RowKit Go.Shelf
set_option maxRecDepth 100000
set_option maxHeartbeats 4000000
set_option linter.unusedSimpArgs false
set_option linter.unusedVariables false

theorem dup_yes {l : List Int} {j : Nat} {z : Int} (hz : l[j]? = some z) (h : hasI (l.take j) z = true) : dupA l = true := by
  obtain ⟨hj, e⟩ := List.getElem?_eq_some_iff.1 hz
  unfold dupA
  rw [List.any_eq_true]
  exact ⟨j, List.mem_range.2 hj, by rw [List.getD_eq_getElem?_getD, hz]; exact h⟩
theorem dup_no {l : List Int} (h : ∀ j z, l[j]? = some z → hasI (l.take j) z = false) : dupA l = false := by
  unfold dupA
  rw [List.any_eq_false]
  intro j hj
  have hj := List.mem_range.1 hj
  rw [List.getD_eq_getElem?_getD, List.getElem?_eq_getElem hj]
  simpa using h j _ (List.getElem?_eq_getElem hj)
theorem right_any (x : Sec) (E : Option Addr) (m k B : Nat) (w : World) (ho : okS x) (ha : AdRd w B E m k x.ad) (hB : B ≤ w.heap.size) :
    Calls Tryd.prog 96 #[.agg #[.string x.cl, .string x.sv, .string x.wd, .slice E m k]] w fun e w' => e = .returned (.int .i64 (rightE x)) ∧ Below w.heap.size w w' := by
  obtain ⟨o1, o2, o3⟩ := ho
  have hm : x.ad.length = m := ha.1
  have hmk := ha.2.1
  have hBV : Below w.heap.size w (w.alloc (.cells #[.string x.cl, .string x.sv, .string x.wd, .slice E m k] 50)) := (Below.refl _ _).alloc (Nat.le_refl _) _
  have haV := ha.below hBV hB
  have BV := Lib.hid hBV
  have HA := Lib.hid haV
  have hnew : Blk (w.alloc (.cells #[.string x.cl, .string x.sv, .string x.wd, .slice E m k] 50)) w.heap.size 50 [.string x.cl, .string x.sv, .string x.wd, .slice E m k] := heap_alloc_new w _
  obtain ⟨V, hV⟩ : ∃ V, w.alloc (.cells #[.string x.cl, .string x.sv, .string x.wd, .slice E m k] 50) = V := ⟨_, rfl⟩
  rw [hV] at BV HA hnew
  have v0 : V.cell? ⟨w.heap.size, 0, none⟩ = some (.string x.cl) := hnew.cell 0
  have v1 : V.cell? ⟨w.heap.size, 1, none⟩ = some (.string x.sv) := hnew.cell 1
  have v2 : V.cell? ⟨w.heap.size, 2, none⟩ = some (.string x.wd) := hnew.cell 2
  have v3 : V.cell? ⟨w.heap.size, 3, none⟩ = some (.slice E m k) := hnew.cell 3
  have hBs : B ≤ V.heap.size := Nat.le_trans hB BV.out.size
  have HV := Lib.hid hV
  have NM := Lib.hid (fun s h => name_any s V h)
  have HF := Lib.hid (hasF_any E m k B x.ad V HA.out hBs)
  clear hnew hV hBV ha haV
  cases n1 : nameB x.cl
  · have e : Hid (rightE x = 60) := by show _ = _; simp [rightE, n1]
    rw [e.out]
    go_enter Tryd.func96, Tryd.ntmps96
    go_wp2_with (first
      | (rw [HV.out])
      | (go_at_call 46; ((with_reducible refine (NM.out _ (by assumption)).mono ?_); rintro e w' ⟨rfl, rfl⟩)))
    go_ret
    exact ⟨rfl, BV.out⟩
  cases n2 : nameB x.sv
  · have e : Hid (rightE x = 60) := by show _ = _; simp [rightE, n2]
    rw [e.out]
    go_enter Tryd.func96, Tryd.ntmps96
    go_wp2_with (first
      | (rw [HV.out])
      | (go_at_call 46; ((with_reducible refine (NM.out _ (by assumption)).mono ?_); rintro e w' ⟨rfl, rfl⟩)))
    go_ret
    exact ⟨rfl, BV.out⟩
  have hwd : (0 < x.wd.size ∧ x.wd.toList.isEmpty = false) ∨ (x.wd.size = 0 ∧ x.wd.toList.isEmpty = true) := by
    rcases Nat.eq_zero_or_pos x.wd.size with h | h
    · exact .inr ⟨h, str_nil h⟩
    · exact .inl ⟨h, str_ne h⟩
  by_cases hw : 0 < x.wd.size ∧ nameB x.wd = false
  · have e : Hid (rightE x = 52) := by show _ = _; simp [rightE, n1, n2, hw]
    rw [e.out]
    obtain ⟨w1, n3⟩ := hw
    have w2 := str_ne w1
    clear hwd
    go_enter Tryd.func96, Tryd.ntmps96
    go_wp2_with (first
      | (rw [HV.out])
      | (go_at_call 46; ((with_reducible refine (NM.out _ (by assumption)).mono ?_); rintro e w' ⟨rfl, rfl⟩)))
    go_ret
    exact ⟨rfl, BV.out⟩
  have R0 : rightE x = if 16 < x.ad.length then 7 else if anyW x.ad = true then 150 else if dupA x.ad = true then 6 else 0 := by
    unfold rightE
    rw [if_neg (by simp [n1, n2]), if_neg hw]
  have hw2 : (x.wd.toList.isEmpty = false ∧ nameB x.wd = true) ∨ x.wd.toList.isEmpty = true := by
    rcases hwd with ⟨h1, h2⟩ | ⟨h1, h2⟩
    · refine .inl ⟨h2, ?_⟩
      cases h : nameB x.wd
      · exact absurd ⟨h1, h⟩ hw
      · rfl
    · exact .inr h2
  clear hwd hw
  have D : ∀ j z, x.ad[j]? = some z → hasI (x.ad.take j) z = true → dupA x.ad = true := fun j z hz h => dup_yes hz h
  have HD := Lib.hid D
  have HM := Lib.hid hm
  rw [hm] at R0
  have HR := Lib.hid R0
  clear R0 D hm
  rcases hw2 with ⟨w1, w2⟩ | w1
  all_goals
    go_enter Tryd.func96, Tryd.ntmps96
    go_upto_region 5 with (first
      | (rw [HV.out])
      | (go_at_call 46; ((with_reducible refine (NM.out _ (by assumption)).mono ?_); rintro e w' ⟨rfl, rfl⟩)))
    clear w1 n1 n2
    by_cases h16 : 16 < m
    · have e := Lib.hid (HR.out.trans (if_pos h16))
      have h16i : (16 : Int) < (m : Int) := by omega
      go_wp2
      go_ret
      exact ⟨by rw [e.out]; rfl, BV.out⟩
    have h16i : ¬ (16 : Int) < (m : Int) := by omega
    have HR2 := Lib.hid (HR.out.trans (if_neg h16))
    cases ha : anyW x.ad
    case' true =>
      have e := Lib.hid (HR2.out.trans (if_pos ha))
      go_wp2_with (go_at_call 114; ((with_reducible refine HF.out.mono ?_); rintro e w' ⟨rfl, rfl⟩))
      go_ret
      exact ⟨by rw [e.out]; rfl, BV.out⟩
    have HR3 := Lib.hid (HR2.out.trans (if_neg (by simp [ha])))
    go_wp2_with (go_at_call 114; ((with_reducible refine HF.out.mono ?_); rintro e w' ⟨rfl, rfl⟩))
    go_loop [38] (fun i => ∃ j : Nat, j ≤ m ∧ i = .int .i64 j ∧ ∀ i < j, ∀ z, x.ad[i]? = some z → hasI (x.ad.take i) z = false) (fun i => m - (intOf i).toNat)
    case atStart => exact ⟨0, Nat.zero_le _, rfl, fun i hi => by omega⟩
    case round =>
      obtain ⟨j, hj, rfl, hno⟩ := hrel
      have HNO := Lib.hid hno
      clear hno
      by_cases hlt : j < m
      · obtain ⟨b, off, rfl, hl, hc⟩ := HA.out.2.2.2.2 (by omega)
        obtain ⟨z, hz⟩ : ∃ z, x.ad[j]? = some z := ⟨x.ad[j]'(by have := HM.out; omega), List.getElem?_eq_getElem _⟩
        have c0 := hc j z hz
        have HC := Lib.hid (has64_any (some ⟨b, off, none⟩) j k B (x.ad.take j) z V (HA.out.take j hj) hBs)
        have HZ := Lib.hid hz
        have hjk : (j : Int) ≤ (k : Int) := by omega
        have hj0 : (0 : Int) ≤ (j : Int) := by omega
        clear hc hz
        cases hh : hasI (x.ad.take j) z
        · have NX : Hid (∀ i < j + 1, ∀ z, x.ad[i]? = some z → hasI (x.ad.take i) z = false) := by
            intro i hi y hy
            by_cases e : i = j
            · subst e
              have h2 := HZ.out
              rw [hy] at h2
              injection h2 with h2
              rw [h2]; exact hh
            · exact HNO.out i (by omega) y hy
          go_wp2_with (go_at_call 116; ((with_reducible refine HC.out.mono ?_); rintro e w' ⟨rfl, rfl⟩))
          go_round
          case rel => exact ⟨j + 1, by omega, by go_num, NX.out⟩
          case measure => simp [intOf]; omega
        · have e := Lib.hid (HR3.out.trans (if_pos (HD.out j z HZ.out hh)))
          go_wp2_with (go_at_call 116; ((with_reducible refine HC.out.mono ?_); rintro e w' ⟨rfl, rfl⟩))
          go_ret
          exact ⟨by rw [e.out]; rfl, BV.out⟩
      · obtain rfl : j = m := by omega
        have e : Hid (rightE x = 0) := by
          have h0 : dupA x.ad = false := dup_no fun i z hz => HNO.out i (by have := (List.getElem?_eq_some_iff.1 hz).1; have := HM.out; omega) z hz
          exact HR3.out.trans (if_neg (by simp [h0]))
        go_wp2
        go_ret
        exact ⟨by rw [e.out]; rfl, BV.out⟩
end Go.Proofs.YtjimoegegigoiaaDoor
